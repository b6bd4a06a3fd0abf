/- AddrApart walked. -/
import Derived.Test.YtjhnilfnnongeaaAdK
set_option linter.unusedVariables false
namespace Go.Proofs.Ytjhnilfnnongeaa.Adr
open Go.RowKit

theorem rnd_get (l : List Clm) (i : Nat) (h : i < l.length) : (rnd l)[i]'(by rw [rnd_len]; exact h) = stp l l[i] := by
  unfold rnd; rw [List.getElem_map]
theorem itR_get (l : List Clm) (n i : Nat) (h : i < l.length) : ∃ c, (itR n l)[i]? = some c ∧ c.1 = l[i].1 ∧ l[i].2.2 ≤ c.2.2 ∧ ((∀ d ∈ l, l[i].1 ≤ d.1) → c = l[i]) := by
  have key : ∀ n, (∀ d ∈ itR n l, ∃ e ∈ l, d.1 = e.1) ∧ ∃ c, (itR n l)[i]? = some c ∧ c.1 = l[i].1 ∧ l[i].2.2 ≤ c.2.2 ∧ ((∀ d ∈ l, l[i].1 ≤ d.1) → c = l[i]) := by
    intro n
    induction n with
    | zero => exact ⟨fun d hd => ⟨d, hd, rfl⟩, l[i], List.getElem?_eq_getElem h, rfl, Int.le_refl _, fun _ => rfl⟩
    | succ n ih =>
      obtain ⟨h0, c, h1, h2, h3, h4⟩ := ih
      rw [itR_succ]
      refine ⟨fun d hd => ?_, stp (itR n l) c, ?_, by rw [stp_fst, h2], ?_, fun hle => ?_⟩
      · obtain ⟨x, hx, rfl⟩ := List.mem_map.1 hd
        rw [stp_fst]; exact h0 x hx
      · unfold rnd; rw [List.getElem?_map, h1]; rfl
      · unfold stp; split
        · exact h3
        · simp only; omega
      · unfold stp
        rw [if_pos]
        · exact h4 hle
        · rw [lst_iff]
          intro d hd _
          obtain ⟨x, hx, e⟩ := h0 d hd
          rw [e, h2]; exact hle x hx
  exact (key n).2
theorem itR_addr {l : List Clm} (h : ∀ c ∈ l, c.2.1 = pk c.1 c.2.2) : ∀ (n : Nat), ∀ c ∈ itR n l, c.2.1 = pk c.1 c.2.2 := by
  intro n
  induction n with
  | zero => exact h
  | succ n ih =>
    intro c hc
    rw [itR_succ] at hc
    obtain ⟨d, hd, rfl⟩ := List.mem_map.1 hc
    unfold stp
    split
    · exact ih d hd
    · rfl
theorem stl_yes {l : List Clm} (h : chk l = 0) : stl l = itR 700 l := if_pos h
theorem stl_len {l : List Clm} : (stl l).length = l.length := by unfold stl; split; exact itR_len _ _; rfl
theorem stl_get {l : List Clm} (h : chk l = 0) (i : Nat) (hi : i < (stl l).length) (hi2 : i < l.length) : (stl l)[i].1 = l[i].1 ∧ l[i].2.2 ≤ (stl l)[i].2.2 ∧ ((∀ d ∈ l, l[i].1 ≤ d.1) → (stl l)[i] = l[i]) ∧ (stl l)[i].2.1 = pk (stl l)[i].1 (stl l)[i].2.2 := by
  obtain ⟨c, h1, h2, h3, h4⟩ := itR_get l 700 i hi2
  rw [← stl_yes h] at h1
  obtain ⟨_, rfl⟩ := List.getElem?_eq_some_iff.1 h1
  refine ⟨h2, h3, h4, ?_⟩
  have := itR_addr (fun c hc => (((chk_zero l).1 h).2.1 c hc).2.2) 700
  rw [← stl_yes h] at this
  exact this _ (List.getElem_mem _)
theorem stl_apart {l : List Clm} (h : chk l = 0) (i k : Nat) (hi : i < (stl l).length) (hk : k < (stl l).length) (hne : k ≠ i) : (stl l)[k].2.1 ≠ (stl l)[i].2.1 := by
  intro he
  have hn : nch (stl l) = 0 := by rw [stl_yes h]; exact nch_end h 700 (by omega)
  unfold nch at hn
  rw [List.countP_eq_zero] at hn
  have hl : ∀ j (hj : j < (stl l).length), ∀ d ∈ stl l, d.2.1 = (stl l)[j].2.1 → (stl l)[j].1 ≤ d.1 := fun j hj => (lst_iff _ _).1 (by simpa using hn _ (List.getElem_mem hj))
  have h1 := hl i hi _ (List.getElem_mem hk) he
  have h2 := hl k hk _ (List.getElem_mem hi) he.symm
  have hL : (stl l).length = l.length := stl_len
  have e1 := (stl_get h i hi (by omega)).1
  have e2 := (stl_get h k hk (by omega)).1
  have hnd := ((chk_zero l).1 h).2.2
  have : l[k].1 = l[i].1 := by omega
  have g := (List.getElem_inj (xs := l.map Prod.fst) (i := k) (j := i) (h₀ := by simp; omega) (h₁ := by simp; omega) hnd).1 (by simpa using this)
  exact hne g
/-- None of the first k has a lesser identifier. -/
def leaE (l : List Clm) (e : Int) (k : Nat) : Bool := (l.take k).all fun d => !decide (d.1 < e)
theorem leaE_one (l : List Clm) (e : Int) (k : Nat) (h : k < l.length) : leaE l e (k + 1) = (leaE l e k && !decide (l[k].1 < e)) := by
  unfold leaE; rw [take_one l k h, List.all_append]; simp
theorem leaE_all (l : List Clm) (e : Int) (h : leaE l e l.length = true) : ∀ d ∈ l, e ≤ d.1 := by
  unfold leaE at h
  rw [List.take_length, List.all_eq_true] at h
  intro d hd
  simpa using h d hd

set_option maxRecDepth 100000 in
set_option maxHeartbeats 8000000 in
theorem law_apart (w : World) (A : Option Addr) (c : Nat) (l : List Clm) (hl : l.length ≤ 9223372036854775807) (hA : ClAt w w.heap.size A l) :
    Calls Try.prog 6 #[.slice A l.length c] w (OutB w true) := by
  have HA := Lib.hid hA
  clear hA
  by_cases h30 : 30 < l.length
  · have d := dt h30
    go_enter Try.func6, Try.ntmps6
    go_wp2_with fail
    refine (awake_any _).mono ?_
    rintro _ w1 ⟨rfl, hb⟩
    have B1 := Lib.hid hb
    clear hb
    go_wp2_with fail
    go_ret
    exact outB rfl B1.out
  have d := df h30
  have C1 := Lib.hid (fun w hA => acheck_any A c l w hl hA)
  have C2 := Lib.hid (fun w hA => rcheck_any A c l w hl hA)
  by_cases h0 : chk l = 0
  · rw [h0] at C1 C2
    have SG := Lib.hid (fun i hi hi2 => stl_get h0 i hi hi2)
    have SA := Lib.hid (fun i k hi hk hne => stl_apart h0 i k hi hk hne)
    have SL1 : (stl l).length ≤ l.length := Nat.le_of_eq stl_len
    have SL2 : l.length ≤ (stl l).length := Nat.le_of_eq stl_len.symm
    have SE := Lib.hid (show (stl l).length = l.length from stl_len)
    have K1 := Lib.hid (fun w hA => asettle_any A c l w (by omega) hA)
    have LO := Lib.hid (fun e k h => leaE_one l e k h)
    have LA := Lib.hid (fun e h => leaE_all l e h)
    clear h0
    generalize stl l = m at *
    have e1 : ((m.length : Int) != (l.length : Int)) = false := by rw [SE.out]; simp
    have e2 : ((m.length : Int) == (l.length : Int)) = true := by rw [SE.out]; simp
    have e3 : decide (m.length = l.length) = true := dt SE.out
    have e4 : decide ((m.length : Int) = (l.length : Int)) = true := dt (by rw [SE.out])
    go_enter Try.func6, Try.ntmps6
    go_wp2_with fail
    refine (C1.out _ HA.out).mono ?_
    rintro _ w1 ⟨rfl, hb⟩
    have B1 := Lib.hid hb
    clear hb
    go_wp2_with fail
    refine (K1.out _ (HA.out.next B1.out)).mono ?_
    rintro _ w2 ⟨A1, c1, rfl, hs, _, _, hb⟩
    have B2 := Lib.hid (B1.out.trans (hb.mono B1.out.size))
    have M := Lib.hid hs
    clear hb hs
    go_wp2_with fail
    clear e1 e2 e3 e4
    go_loopw [4] (fun i wr => ∃ k : Nat, i = .int .i64 k ∧ k ≤ l.length ∧ Below w2.heap.size w2 wr) (fun i _ => l.length - (intOf i).toNat)
    case atStart => exact ⟨0, rfl, Nat.zero_le _, Below.refl _ _⟩
    case round =>
      obtain ⟨i, rfl, hi, hb⟩ := hrel
      have B := Lib.hid hb
      have hz := hb.size
      by_cases hlt : i < l.length
      · have hlm : i < m.length := by omega
        obtain ⟨b, p, rfl, hbw, g0, g1, g2, g3, g4, g5⟩ := cl_cell ((HA.out.next B2.out).below hb) i hlt
        obtain ⟨b1, p1, rfl, hbw1, f0, f1, f2, f3, f4, f5⟩ := cl_cell (M.out.below hb) i hlm
        obtain ⟨s1, s2, s3, s4⟩ := SG.out i hlm hlt
        have SI := Lib.hid s3
        have SP := Lib.hid s4
        have SX := Lib.hid (fun k hk hne => SA.out i k hlm hk hne)
        rw [s1] at f0 f3
        have CS := Lib.hid (fun w' (h : Below wr.heap.size wr w') => And.intro ((h.cell (p := ⟨b1, p1 + i * 3, none⟩) (by show b1 < wr.heap.size; omega)).trans f0) (And.intro ((h.cell (p := ⟨b1, p1 + i * 3 + 1, none⟩) (by show b1 < wr.heap.size; omega)).trans f1) (And.intro ((h.cell (p := ⟨b1, p1 + i * 3 + 2, none⟩) (by show b1 < wr.heap.size; omega)).trans f2)
          (And.intro ((h.cell (p := ⟨b, p + i * 3, none⟩) (by show b < wr.heap.size; omega)).trans g0) ((h.cell (p := ⟨b, p + i * 3 + 2, none⟩) (by show b < wr.heap.size; omega)).trans g2)))))
        have PK := Lib.hid (fun w => (show Calls Try.prog 13 #[.int .u64 l[i].1, .int .i64 m[i].2.2] w (OutI w m[i].2.1) by rw [SP.out, s1]; exact apick_any _ _ w g3 f5))
        have d5 := df (show ¬ m[i].2.2 < l[i].2.2 by omega)
        have EM := Lib.hid (show m[i] = (l[i].1, m[i].2.1, m[i].2.2) from by rw [← s1])
        have EL := Lib.hid (show l[i] = (l[i].1, l[i].2.1, l[i].2.2) from rfl)
        rw [EM.out, EL.out] at SI
        simp only at SI
        have LO := Lib.hid (fun k h => LO.out l[i].1 k h)
        have LA := Lib.hid (LA.out l[i].1)
        have SX := Lib.hid (show ∀ k (hk : k < m.length), k ≠ i → m[k].2.1 ≠ m[i].2.1 from SX.out)
        clear s1 s2 s3 s4 SP hb f0 f1 f2 g0 g1 g2 g3 g4 g5 f3 f4 f5 EM EL
        obtain ⟨e, he⟩ : ∃ e, e = l[i].1 := ⟨_, rfl⟩
        obtain ⟨a, ha⟩ : ∃ a, a = l[i].2.1 := ⟨_, rfl⟩
        obtain ⟨t, ht⟩ : ∃ t, t = l[i].2.2 := ⟨_, rfl⟩
        obtain ⟨x, hx⟩ : ∃ x, x = m[i].2.1 := ⟨_, rfl⟩
        obtain ⟨y, hy⟩ : ∃ y, y = m[i].2.2 := ⟨_, rfl⟩
        rw [← he] at CS PK LO LA SI
        rw [← ht] at CS d5 SI
        rw [← hx] at CS PK SI SX
        rw [← hy] at CS PK d5 SI
        rw [← ha] at SI
        have HE := Lib.hid he
        have HX := Lib.hid hx
        have HY := Lib.hid hy
        have HTT := Lib.hid ht
        have HAA := Lib.hid ha
        clear he ha ht hx hy
        obtain ⟨w9, rfl⟩ : ∃ w9, w9 = wr := ⟨wr, rfl⟩
        go_wp2_with fail
        have Z0 : Below w9.heap.size w9 w9.drew := (Below.refl _ _).drew
        go_region_held3 (fun w' => w'.cell? ⟨b1, p1 + i * 3, none⟩ = some (.int .u64 e) ∧ w'.cell? ⟨b1, p1 + i * 3 + 1, none⟩ = some (.int .i64 x) ∧ w'.cell? ⟨b1, p1 + i * 3 + 2, none⟩ = some (.int .i64 y) ∧ w'.cell? ⟨b, p + i * 3, none⟩ = some (.int .u64 e) ∧ w'.cell? ⟨b, p + i * 3 + 2, none⟩ = some (.int .i64 t))
          (first | exact CS.out _ Z1 | exact CS.out _ Z0 | fail)
          (first
          | (go_at_call 13; refine (PK.out _).mono ?_; rintro _ wa ⟨rfl, hb⟩; have Z1 := Z0.trans (hb.mono Z0.size); clear hb) | fail)
        all_goals
          have BA := Lib.hid (B.out.trans (Z1.mono hz))
          go_wp2_with fail
        go_loopw [5, 6] (fun s j wr => ∃ k : Nat, j = .int .i64 k ∧ s = .bool (leaE l e k) ∧ k ≤ l.length ∧ Below w2.heap.size w2 wr) (fun _ j _ => l.length - (intOf j).toNat)
        case atStart => exact ⟨0, rfl, rfl, Nat.zero_le _, BA.out⟩
        case round =>
          obtain ⟨k, rfl, rfl, hk, hb⟩ := hrel
          have B := Lib.hid hb
          have hz := hb.size
          obtain ⟨b', p', hA', _, g0, g1, g2, _⟩ := cl_cell ((HA.out.next B2.out).below hb) i hlt
          simp only [Option.some.injEq, Addr.mk.injEq, and_true] at hA'
          obtain ⟨rfl, rfl⟩ := hA'
          obtain ⟨b', p', hA', _, f0, f1, f2, _⟩ := cl_cell (M.out.below hb) i hlm
          simp only [Option.some.injEq, Addr.mk.injEq, and_true] at hA'
          obtain ⟨rfl, rfl⟩ := hA'
          obtain ⟨s1, _, _, _⟩ := SG.out i hlm hlt
          rw [s1, ← HE.out] at f0
          rw [← HE.out] at g0
          rw [← HX.out] at f1
          rw [← HY.out] at f2
          rw [← HAA.out] at g1
          rw [← HTT.out] at g2
          clear s1
          by_cases hlk : k < l.length
          · have hkm : k < m.length := by omega
            obtain ⟨b', p', hA', _, h0, _⟩ := cl_cell ((HA.out.next B2.out).below hb) k hlk
            simp only [Option.some.injEq, Addr.mk.injEq, and_true] at hA'
            obtain ⟨rfl, rfl⟩ := hA'
            obtain ⟨b', p', hA', _, _, q1, _⟩ := cl_cell (M.out.below hb) k hkm
            simp only [Option.some.injEq, Addr.mk.injEq, and_true] at hA'
            obtain ⟨rfl, rfl⟩ := hA'
            have L1 := Lib.hid (LO.out k hlk)
            have SK := Lib.hid (SX.out k hkm)
            obtain ⟨u, hu⟩ : ∃ u, u = l[k].1 := ⟨_, rfl⟩
            obtain ⟨v, hv⟩ : ∃ v, v = m[k].2.1 := ⟨_, rfl⟩
            rw [← hu] at h0 L1
            rw [← hv] at q1 SK
            obtain ⟨r, hr⟩ : ∃ r, r = leaE l e k := ⟨_, rfl⟩
            rw [← hr] at L1 ⊢
            clear hb hu hv hr
            by_cases hki : k = i
            · subst hki
              have n1 : ((k : Int) != (k : Int)) = false := by simp
              obtain rfl : u = e := by rw [h0] at g0; simpa using g0
              have R := Lib.hid (show r = leaE l u (k + 1) by rw [L1.out, df (Int.lt_irrefl u)]; simp)
              have d7 := df (Int.lt_irrefl u)
              clear L1 SK
              go_wp2_with fail
              go_quiet (fail)
              go_wp2_with fail
              go_quiet (fail)
              go_wp2_with fail
              go_roundw
              case rel => exact ⟨k + 1, by go_num, by rw [R.out], hlk, below_drewN B.out _⟩
              case measure => simp [intOf]; omega
            · have n1 : ((k : Int) != (i : Int)) = true := by simp; omega
              have n2 : ((k : Int) == (i : Int)) = false := by simp; omega
              have n3 : decide (k = i) = false := df hki
              have n4 : decide ((k : Int) = (i : Int)) = false := df (by omega)
              have hvx := SK.out hki
              have m1 : (v == x) = false := by simpa using hvx
              have m2 : decide (v = x) = false := df hvx
              clear hvx SK
              by_cases hue : u < e
              · have R := Lib.hid (show leaE l e (k + 1) = false by rw [L1.out, dt hue]; simp)
                have d7 := dt hue
                clear hue L1 hki
                go_wp2_with fail
                go_quiet (fail)
                go_wp2_with fail
                go_quiet (fail)
                go_wp2_with fail
                go_roundw
                case rel => exact ⟨k + 1, by go_num, by rw [R.out], hlk, below_drewN B.out _⟩
                case measure => simp [intOf]; omega
              · have R := Lib.hid (show r = leaE l e (k + 1) by rw [L1.out, df hue]; simp)
                have d7 := df hue
                clear hue L1 hki
                go_wp2_with fail
                go_quiet (fail)
                go_wp2_with fail
                go_quiet (fail)
                go_wp2_with fail
                go_roundw
                case rel => exact ⟨k + 1, by go_num, by rw [R.out], hlk, below_drewN B.out _⟩
                case measure => simp [intOf]; omega
          · obtain rfl : k = l.length := by omega
            clear hb
            cases hr : leaE l e l.length with
            | true =>
              have hE := SI.out (LA.out hr)
              simp only [Prod.mk.injEq, true_and] at hE
              obtain ⟨rfl, rfl⟩ := hE
              clear hr
              go_wp2_with fail
              go_quiet (fail)
              go_wp2_with fail
              go_roundw
              case rel => exact ⟨i + 1, by go_num, hlt, below_drewN B.out _⟩
              case measure => simp [intOf]; omega
            | false =>
              clear hr
              go_wp2_with fail
              go_quiet (fail)
              go_wp2_with fail
              go_roundw
              case rel => exact ⟨i + 1, by go_num, hlt, below_drewN B.out _⟩
              case measure => simp [intOf]; omega
      · obtain rfl : i = l.length := by omega
        clear hb
        go_wp2_with fail
        refine (awake_any _).mono ?_
        rintro _ w4 ⟨rfl, hb⟩
        have B4 := Lib.hid (B2.out.trans ((B.out.trans (hb.mono hz)).mono B2.out.size))
        clear hb
        go_wp2_with fail
        go_ret
        exact outB rfl B4.out
  · have n1 : (chk l != 0) = true := by simpa using h0
    have n2 : (chk l == 0) = false := by simpa using h0
    generalize chk l = q at *
    have n3 : decide (q = 0) = false := df h0
    clear h0
    go_enter Try.func6, Try.ntmps6
    go_wp2_with fail
    refine (C1.out _ HA.out).mono ?_
    rintro _ w1 ⟨rfl, hb⟩
    have B1 := Lib.hid hb
    clear hb
    go_wp2_with fail
    refine (C2.out _ (HA.out.next B1.out)).mono ?_
    rintro _ w2 ⟨rfl, hb⟩
    have B2 := Lib.hid (B1.out.trans (hb.mono B1.out.size))
    clear hb
    go_wp2_with fail
    refine (awake_any _).mono ?_
    rintro _ w3 ⟨rfl, hb⟩
    have B3 := Lib.hid (B2.out.trans (hb.mono B2.out.size))
    clear hb
    go_wp2_with fail
    go_ret
    exact outB rfl B3.out
end Go.Proofs.Ytjhnilfnnongeaa.Adr
