/- The walk of NamesJoined. -/
import Derived.Test.YtmildkjkppnblaaDoorNX
import Derived.Test.YtmildkjkppnblaaDoorNO
set_option linter.unusedVariables false
namespace Go.Proofs.YtmildkjkppnblaaDoor
open Go.RowKit

/-- Quoted forms, joined by single blanks. -/
def jn : StrL → List UInt8
  | [] => []
  | x :: r => quo x ++ r.flatMap fun y => 32 :: quo y
theorem jn_snoc (l : StrL) (x : List UInt8) (h : l ≠ []) : jn (l ++ [x]) = jn l ++ (32 :: quo x) := by
  match l, h with
  | y :: r, _ =>
    show quo y ++ (r ++ [x]).flatMap (fun y => 32 :: quo y) = (quo y ++ r.flatMap fun y => 32 :: quo y) ++ (32 :: quo x)
    rw [List.flatMap_append, List.append_assoc]; simp
theorem jn_one (x : List UInt8) : jn [x] = quo x := by show quo x ++ [] = _; rw [List.append_nil]
theorem jn_two (x y : List UInt8) (r : StrL) : jn (x :: y :: r) = quo x ++ 32 :: jn (y :: r) := by
  show quo x ++ ((32 :: quo y) ++ r.flatMap fun y => 32 :: quo y) = _
  rfl
theorem psz_quo (x t : List UInt8) : psz (quo x ++ t) = (quo x).length := by
  rw [psz_rdq (show (quo x ++ t).head? = some 34 from rfl), rdq_complete]; rfl
theorem fl_jn (r : StrL) : ∀ (x : List UInt8) (f : Nat), r.length < f → fl f (jn (x :: r)) = some ((x :: r).map quo) := by
  induction r with
  | nil =>
    intro x f h
    obtain ⟨f, rfl⟩ : ∃ g, f = g + 1 := ⟨f - 1, by simp at h; omega⟩
    have hp := psz_quo x []
    rw [List.append_nil] at hp
    have hq := quo_length x
    rw [jn_one, fl_last f _ (by omega) hp, hp, List.take_length]; rfl
  | cons y r ih =>
    intro x f h
    obtain ⟨f, rfl⟩ : ∃ g, f = g + 1 := ⟨f - 1, by omega⟩
    have hp := psz_quo x (32 :: jn (y :: r))
    have hq := quo_length x
    rw [jn_two, fl_more f _ (by omega) (by rw [hp, List.length_append, List.length_cons]; omega) (by
      rw [hp, List.getD_eq_getElem?_getD, List.getElem?_append_right (Nat.le_refl _)]; simp), hp]
    rw [show (quo x ++ 32 :: jn (y :: r)).drop ((quo x).length + 1) = jn (y :: r) by
      rw [← List.drop_drop, List.drop_left]; rfl]
    rw [ih y f (by simp at h; omega), List.take_left]; rfl
theorem jn_size (l : StrL) : l.length ≤ (jn l).length ∧ ((∀ x ∈ l, x.length ≤ 100) → (jn l).length ≤ 403 * l.length) := by
  match l with
  | [] => exact ⟨Nat.le_refl _, fun _ => Nat.le_refl _⟩
  | x :: r =>
    have gen : ∀ r : StrL, r.length ≤ (r.flatMap fun y => 32 :: quo y).length ∧ ((∀ x ∈ r, x.length ≤ 100) → (r.flatMap fun y => 32 :: quo y).length ≤ 403 * r.length) := by
      intro r
      induction r with
      | nil => exact ⟨Nat.le_refl _, fun _ => Nat.le_refl _⟩
      | cons y r ih =>
        have hq := quo_length y
        have hb := qb_length y
        rw [List.flatMap_cons, List.length_append, List.length_cons, List.length_cons]
        refine ⟨by omega, fun h => ?_⟩
        have h1 := ih.2 (fun z hz => h z (List.mem_cons_of_mem _ hz))
        have h2 := h y List.mem_cons_self
        omega
    obtain ⟨g1, g2⟩ := gen r
    have hq := quo_length x
    have hb := qb_length x
    show (x :: r).length ≤ (quo x ++ _).length ∧ (_ → (quo x ++ _).length ≤ _)
    rw [List.length_append, List.length_cons]
    refine ⟨by omega, fun h => ?_⟩
    have h1 := g2 (fun z hz => h z (List.mem_cons_of_mem _ hz))
    have h2 := h x List.mem_cons_self
    omega
theorem fld_jn (l : StrL) : fld (jn l) = some (l.map quo) := by
  match l with
  | [] => rfl
  | x :: r =>
    have hs := (jn_size (x :: r)).1
    unfold fld
    rw [if_neg (fun e => by rw [e] at hs; simp at hs)]
    exact fl_jn r x _ (by rw [List.length_cons] at hs; omega)

set_option maxRecDepth 100000 in
set_option maxHeartbeats 4000000 in
theorem law_joined (v : Value) (l : StrL) (w : World) (hv : StrsAt w v l) (hl : l.length ≤ 9223372036854775807) (hx : ∀ x ∈ l, x.length ≤ 9223372036854775807) (hT : Tabs w) :
    Calls Tryd.prog 6 #[v] w (OutBool true w) := by
  obtain ⟨A, c, rfl, ha⟩ := hv
  by_cases h : 40 < l.length
  · clear ha hT hx
    go_enter Tryd.func6, Tryd.ntmps6
    go_wp2_with fail
    refine (lives_any _).mono ?_
    rintro e w1 ⟨rfl, hb⟩
    go_wp2_with fail
    go_ret
    exact outb rfl hb
  have HA := Lib.hid ha
  have HX := Lib.hid hx
  have T := Lib.hid hT
  clear ha hx hT
  go_enter Tryd.func6, Tryd.ntmps6
  go_wp2_with fail
  go_loopw [3, 4] (fun ln i wr => ∃ k : Nat, i = .int .i64 k ∧ k ≤ l.length ∧ ln = .string (bs (jn (l.take k))) ∧ (∀ x ∈ l.take k, x.length ≤ 100) ∧ Below w.heap.size w wr) (fun _ i _ => l.length - (intOf i).toNat)
  case atStart => exact ⟨0, rfl, Nat.zero_le _, rfl, fun x h => by simp at h, Below.refl _ _⟩
  case round =>
    obtain ⟨k, rfl, hk, rfl, hsm, hb⟩ := hrel
    have B := Lib.hid hb
    have hsz := hb.size
    have TR := Lib.hid (T.out.below hb)
    have hjl := (jn_size (l.take k)).2 hsm
    rw [List.length_take] at hjl
    have hjz : (bs (jn (l.take k))).size ≤ 403 * k := by rw [bs_size]; omega
    by_cases hlt : k < l.length
    · obtain ⟨ab, ao, rfl, g1, e1⟩ := HA.out k hlt
      have c1 : wr.cell? ⟨ab, ao + k, none⟩ = some (.string (bs l[k])) := by rw [hb.cell (p := ⟨ab, ao + k, none⟩) g1]; exact e1
      have hxs := bs_size l[k]
      have hxm := HX.out _ (List.getElem_mem hlt)
      have htk : l.take (k + 1) = l.take k ++ [l[k]] := List.take_succ_eq_append_getElem hlt
      have TK := Lib.hid htk
      by_cases hbig : 100 < l[k].length
      · have z1 : 100 < (bs l[k]).size := by omega
        generalize l[k] = x at *
        clear hb e1 htk hxs hbig hsm hjl hxm
        go_wp2_with fail
        refine (lives_any _).mono ?_
        rintro e w1 ⟨rfl, hb1⟩
        have B1 := Lib.hid (B.out.trans (hb1.mono hsz))
        clear hb1
        go_wp2_with fail
        go_ret
        exact outb rfl B1.out
      · have z1 : ¬ 100 < (bs l[k]).size := by omega
        have SM := Lib.hid (show ∀ x ∈ l.take (k + 1), x.length ≤ 100 by
          intro x hx
          rw [htk] at hx
          rcases List.mem_append.1 hx with hx | hx
          · exact hsm x hx
          · rw [List.mem_singleton.1 hx]; omega)
        have Q := Lib.hid (quote_any (bs l[k]) wr (by omega) TR.out)
        rw [bs_data] at Q
        have hqz := quo_size l[k]
        have hqz2 : (bs (quo l[k])).size ≤ 402 := by omega
        by_cases h0 : k = 0
        · have J := Lib.hid (show bs (jn (l.take k)) ++ bs (quo l[k]) = bs (jn (l.take (k + 1))) by
            have e0 : l.take k = [] := by rw [h0]; rfl
            rw [htk, e0]
            show bs [] ++ bs (quo _) = bs (jn ([] ++ [_]))
            rw [List.nil_append, jn_one, bs_append, List.nil_append])
          have t0 : ¬ (0 : Int) < (k : Int) := by omega
          have t0' : decide ((0 : Int) < (k : Int)) = false := decide_eq_false t0
          generalize l[k] = x at *
          clear hb e1 htk hxs hbig hsm hjl hxm hqz h0
          go_wp2_with fail
          refine Q.out.mono ?_
          rintro e w1 ⟨rfl, hb1⟩
          have B1 := Lib.hid (B.out.trans (hb1.mono hsz))
          clear hb1
          go_wp2_with fail
          go_roundw
          case rel => exact ⟨k + 1, by go_num, hlt, by rw [J.out], SM.out, B1.out⟩
          case measure => simp [intOf]; omega
        · have J := Lib.hid (show bs (jn (l.take k)) ++ ({ data := #[32] } : ByteArray) ++ bs (quo l[k]) = bs (jn (l.take (k + 1))) by
            rw [htk, jn_snoc _ _ (fun e => by have := congrArg List.length e; rw [List.length_take, Nat.min_eq_left hk] at this; exact h0 this)]
            show bs _ ++ bs [32] ++ bs _ = _
            rw [bs_append, bs_append, List.append_assoc]; rfl)
          have t0 : (0 : Int) < (k : Int) := by omega
          have hone : (({ data := #[32] } : ByteArray)).size = 1 := rfl
          generalize l[k] = x at *
          clear hb e1 htk hxs hbig hsm hjl hxm hqz h0
          go_wp2_with fail
          refine Q.out.mono ?_
          rintro e w1 ⟨rfl, hb1⟩
          have B1 := Lib.hid (B.out.trans (hb1.mono hsz))
          clear hb1
          go_wp2_with fail
          go_roundw
          case rel => exact ⟨k + 1, by go_num, hlt, by rw [J.out], SM.out, B1.out⟩
          case measure => simp [intOf]; omega
    · have hT2 : l.take k = l := List.take_of_length_le (by omega)
      rw [hT2] at hsm hjz ⊢
      have SM := Lib.hid hsm
      have FL := Lib.hid (fields_any (bs (jn l)) wr (by omega) (some (l.map quo)) (by rw [bs_data]; exact fld_jn l))
      clear hb hsm hjl hT2
      go_wp2_with fail
      refine FL.out.mono ?_
      rintro e w1 ⟨v1, rfl, ho, hb1⟩
      have A1 := strsAt_own ho
      have B1 := Lib.hid (B.out.trans (hb1.mono hsz))
      have hz1 := B1.out.size
      obtain ⟨A2, c2, rfl, ha2⟩ := A1
      have HA2 := Lib.hid ha2
      clear hb1 ho ha2
      simp only [flR, List.length_map]
      go_wp2_with fail
      go_loopw [7] (fun i wr2 => ∃ k : Nat, i = .int .i64 k ∧ k ≤ l.length ∧ Below w1.heap.size w1 wr2) (fun i _ => l.length - (intOf i).toNat)
      case atStart => exact ⟨0, rfl, Nat.zero_le _, Below.refl _ _⟩
      case round =>
        obtain ⟨j, rfl, hj, hb2⟩ := hrel
        have B2 := Lib.hid hb2
        have hz2 := hb2.size
        by_cases hlt2 : j < l.length
        · obtain ⟨ab, ao, rfl, g1, e1⟩ := HA.out j hlt2
          obtain ⟨pb, po, rfl, g2, e2⟩ := HA2.out j (by show j < (l.map quo).length; rw [List.length_map]; exact hlt2)
          have e2' : w1.cell? ⟨pb, po + j, none⟩ = some (.string (bs (quo l[j]))) := by
            have h := e2
            simp only [flR, List.getElem_map] at h
            exact h
          have c1 : w1.cell? ⟨ab, ao + j, none⟩ = some (.string (bs l[j])) := by rw [B1.out.cell (p := ⟨ab, ao + j, none⟩) g1]; exact e1
          have hxs := bs_size l[j]
          have hxm := SM.out _ (List.getElem_mem hlt2)
          have HZ := Lib.hid (show (bs l[j]).size ≤ 100000 by omega)
          have i1 : (j : Int) < (l.length : Int) := by omega
          have t2 := str_test' (quo l[j]) (quo l[j]) true (decide_eq_true rfl)
          have d1 : wr.cell? ⟨pb, po + j, none⟩ = some (.string (bs (quo l[j]))) := by rw [hb2.cell (p := ⟨pb, po + j, none⟩) g2]; exact e2'
          have d2 : wr.cell? ⟨ab, ao + j, none⟩ = some (.string (bs l[j])) := by rw [hb2.cell (p := ⟨ab, ao + j, none⟩) (by show ab < _; have : ab < w.heap.size := g1; omega)]; exact c1
          have gp : pb < wr.heap.size := by have : pb < w1.heap.size := g2; omega
          have ga : ab < wr.heap.size := by have : ab < w.heap.size := g1; omega
          generalize l[j] = x at *
          clear hb2 e1 e2 e2' c1 hxs hxm
          go_wp2_with fail
          go_region_held3 (fun w' => w'.cell? ⟨pb, po + j, none⟩ = some (.string (bs (quo x))) ∧ w'.cell? ⟨ab, ao + j, none⟩ = some (.string (bs x))) (first | exact ⟨d1, d2⟩ | exact ⟨by rw [World.cell?_drew]; exact d1, by rw [World.cell?_drew]; exact d2⟩ | exact ⟨by rw [B3.out.cell (p := ⟨pb, po + j, none⟩) gp]; exact d1, by rw [B3.out.cell (p := ⟨ab, ao + j, none⟩) ga]; exact d2⟩ | fail) (first
            | (go_at_call 8; refine (rquote_any (bs x) _ HZ.out).mono ?_; rintro r w3 ⟨rfl, hb3⟩; rw [bs_data]; have B3 := Lib.hid hb3; clear hb3) | fail)
          go_wp2_with fail
          go_roundw
          case rel => exact ⟨j + 1, by go_num, hlt2, B2.out.drew.trans (B3.out.mono hz2)⟩
          case measure => simp [intOf]; omega
        · clear hb2
          go_wp2_with fail
          refine (lives_any _).mono ?_
          rintro e w3 ⟨rfl, hb3⟩
          have B3 := Lib.hid ((B1.out.trans (B2.out.mono hz1)).trans (hb3.mono (by omega)))
          clear hb3
          go_wp2_with fail
          go_ret
          exact outb rfl B3.out
end Go.Proofs.YtmildkjkppnblaaDoor
