/- Contracts of the reference's Spans and Norm. -/
import Derived.Test.YtnocbgimfmgdeaaSI
set_option linter.unusedVariables false
namespace Go.Proofs.Ytnocbgimfmgdeaa
open Go.RowKit

/-- The spans of the minutes below m. -/
structure SpI (S : Int → Bool) (m : Int) (F : List Spn) : Prop where
  ascS : ascS (-1) F
  le : ∀ s ∈ F, s.2 ≤ m
  cov : ∀ x, inS F x = (S x && decide (0 ≤ x) && decide (x < m))
theorem SpI.start (S : Int → Bool) : SpI S 0 [] := ⟨trivial, fun s h => absurd h List.not_mem_nil, fun x => by
  show false = _
  by_cases h : 0 ≤ x
  · rw [decide_eq_false (show ¬ x < 0 by omega), Bool.and_false]
  · rw [decide_eq_false h, Bool.and_false, Bool.false_and]⟩
theorem SpI.skip {S : Int → Bool} {m : Int} {F : List Spn} (h : SpI S m F) (hm : S m = false) : SpI S (m + 1) F := by
  refine ⟨h.ascS, fun s hs => by have := h.le s hs; omega, fun x => ?_⟩
  rw [h.cov x]
  by_cases e : x = m
  · subst e; rw [hm]; rfl
  · congr 1; exact decide_eq_decide.2 (by omega)
theorem SpI.new {S : Int → Bool} {m : Int} {F : List Spn} (h : SpI S m F) (h0 : 0 ≤ m) (h1 : m < 10080) (hm : S m = true) (hp : 0 < m → S (m - 1) = false) : SpI S (m + 1) (F ++ [(m, m + 1)]) := by
  have hlt : ∀ s ∈ F, s.2 < m := fun s hs => by
    have h2 := h.le s hs
    have h3 := ascS_all h.ascS s hs
    by_cases e : s.2 = m
    · exfalso
      have : inS F (m - 1) = true := (inS_iff F _).2 ⟨s, hs, (inO_iff s _).2 ⟨by omega, by omega, by omega, by omega, by omega⟩⟩
      rw [h.cov, hp (by omega)] at this
      cases this
    · omega
  refine ⟨ascS_snoc h.ascS (show -1 < m by omega) hlt (show m < m + 1 by omega) (show m + 1 ≤ 10080 by omega), fun s hs => ?_, fun x => ?_⟩
  · rcases List.mem_append.1 hs with hs | hs
    · have := h.le s hs; omega
    · rw [List.mem_singleton] at hs; subst hs; exact Int.le_refl _
  · rw [inS_append, h.cov x]
    simp only [inS, Bool.or_false]
    by_cases e : x = m
    · subst e
      rw [hm, (inO_iff (x, x + 1) x).2 ⟨h0, show x < x + 1 by omega, show x + 1 ≤ 10080 by omega, Int.le_refl _, show x < x + 1 by omega⟩, decide_eq_true h0, decide_eq_true (show x < x + 1 by omega), Bool.or_true]
      rfl
    · have : inO (m, m + 1) x = false := by
        cases c : inO (m, m + 1) x with
        | false => rfl
        | true => obtain ⟨_, _, _, c1, c2⟩ := (inO_iff _ _).1 c; have c1 : m ≤ x := c1; have c2 : x < m + 1 := c2; omega
      rw [this, Bool.or_false]
      congr 1
      exact decide_eq_decide.2 (by omega)
theorem SpI.last {S : Int → Bool} {m : Int} {F : List Spn} (h : SpI S m F) (h0 : 0 < m) (h1 : m < 10080) (hm : S m = true) (hp : S (m - 1) = true) :
    ∃ I a, F = I ++ [(a, m)] ∧ SpI S (m + 1) (I ++ [(a, m + 1)]) := by
  have hin : inS F (m - 1) = true := by rw [h.cov, hp, decide_eq_true (show 0 ≤ m - 1 by omega), decide_eq_true (show m - 1 < m by omega)]; rfl
  obtain ⟨s, hs, hso⟩ := (inS_iff F _).1 hin
  have hso := (inO_iff s _).1 hso
  have hs2 := h.le s hs
  rcases List.eq_nil_or_concat F with rfl | ⟨I, t, rfl⟩
  · cases hs
  rw [List.concat_eq_append] at *
  obtain ⟨a1, a2, a3, a4, a5⟩ := ascS_init h.ascS
  have hts : s = t := by
    rcases List.mem_append.1 hs with hs | hs
    · have := a3 s hs
      have := h.le t (List.mem_append_right _ List.mem_cons_self)
      omega
    · exact List.mem_singleton.1 hs
  subst hts
  have e : s = (s.1, m) := Prod.ext rfl (show s.2 = m by omega)
  refine ⟨I, s.1, by rw [← e], ascS_snoc a1 a2 a3 (show s.1 < m + 1 by omega) (show m + 1 ≤ 10080 by omega), fun x hx => ?_, fun x => ?_⟩
  · rcases List.mem_append.1 hx with hx | hx
    · have := h.le x (List.mem_append_left _ hx); omega
    · rw [List.mem_singleton] at hx; subst hx; exact Int.le_refl _
  · have hc := h.cov x
    rw [inS_append] at hc ⊢
    simp only [inS, Bool.or_false] at hc ⊢
    have ho : inO (s.1, m + 1) x = (inO s x || decide (x = m)) := by
      rw [Bool.eq_iff_iff, Bool.or_eq_true, inO_iff, inO_iff, decide_eq_true_eq]
      show _ ∧ _ ∧ _ ∧ s.1 ≤ x ∧ x < m + 1 ↔ _
      constructor
      · intro g; omega
      · intro g
        refine ⟨by omega, ?_, ?_, by omega, by omega⟩
        · show s.1 < m + 1; omega
        · show m + 1 ≤ 10080; omega
    rw [ho, ← Bool.or_assoc, hc]
    by_cases e : x = m
    · subst e
      rw [hm, decide_eq_true (show 0 ≤ x by omega), decide_eq_true (show x < x + 1 by omega), decide_eq_true (show x = x from rfl), Bool.or_true]; rfl
    · rw [decide_eq_false e, Bool.or_false]
      congr 1
      exact decide_eq_decide.2 (by omega)
theorem SpI.fin {S : Int → Bool} {F : List Spn} (h : SpI S 10080 F) : NF F (fun m => S m && decide (0 ≤ m) && decide (m < 10080)) := ⟨h.ascS, h.cov⟩
theorem SpI.len {S : Int → Bool} {m : Int} {F : List Spn} (h : SpI S m F) : F.length ≤ 10081 := by have := ascS_len h.ascS (by omega); omega
theorem flS_set (I : List Spn) (a b c : Int) : (flS (I ++ [(a, b)])).set ((I ++ [(a, b)]).length * 2 - 2 + 1) (.int .i64 c) = flS (I ++ [(a, c)]) := by
  rw [flS_append, flS_append, List.length_append]
  show (flS I ++ [Value.int .i64 a, Value.int .i64 b]).set _ _ = flS I ++ [Value.int .i64 a, Value.int .i64 c]
  have : (I.length + [(a, b)].length) * 2 - 2 + 1 = (flS I).length + 1 := by rw [flS_length]; show (I.length + 1) * 2 - 2 + 1 = _; omega
  rw [this, List.set_append_right _ _ (by omega)]
  congr 1
  rw [show (flS I).length + 1 - (flS I).length = 1 by omega]
  rfl

set_option maxRecDepth 100000 in
set_option maxHeartbeats 4000000 in
theorem rspans_any (w : World) (g : Nat) (S : Int → Bool) (h : MinRow w g S) :
    Calls Try.prog 34 #[.slice (some ⟨g, 0, none⟩) 10080 10080] w (OutNf w fun m => S m && decide (0 ≤ m) && decide (m < 10080)) := by
  have H := Lib.hid h
  have hg := World.rowIs.lt h
  obtain ⟨i0, hi, hz0, hz1', hz2'⟩ := info_span
  have HI0 := Lib.hid hi
  have HI1 := Lib.hid hz0
  have HI2 := Lib.hid hz1'
  have HI3 := Lib.hid hz2'
  clear h hi hz0 hz1' hz2'
  go_enter Try.func34, Try.ntmps34
  go_wp2_with fail
  go_loopw [3, 4] (fun v i wr => ∃ (m : Nat) (F : List Spn), i = .int .i64 m ∧ m ≤ 10080 ∧ OwnS wr w.heap.size v F ∧ SpI S m F ∧ Below w.heap.size w wr) (fun _ i _ => 10080 - (intOf i).toNat)
  case atStart => exact ⟨0, [], rfl, Nat.zero_le _, World.ownsRow_nil _ _ _ _, SpI.start S, Below.refl _ _⟩
  case round =>
    obtain ⟨m, F, rfl, hm, hown, hsp, hb⟩ := hrel
    have O := Lib.hid hown
    have I := Lib.hid hsp
    have B := Lib.hid hb
    have hz := hb.size
    by_cases hlt : m < 10080
    · have M := Lib.hid (H.out.below hb)
      have cm := M.out.cell (i := m) hlt
      clear hown hsp hb
      rcases Bool.eq_false_or_eq_true (S m) with hS | hS
      · rw [hS] at cm
        have HS := Lib.hid hS
        by_cases h0 : 0 < m
        · have cp := M.out.cell (i := m - 1) (by omega)
          have hcast : ((m - 1 : Nat) : Int) = (m : Int) - 1 := by omega
          rw [hcast] at cp
          have i1 : (0 : Int) < (m : Int) := by omega
          have i2 : (0 : Int) ≤ (m : Int) - 1 := by omega
          have i3 : (m : Int) - 1 < 10080 := by omega
          have i4 : ((m : Int) - 1).toNat = m - 1 := by omega
          rcases Bool.eq_false_or_eq_true (S ((m : Int) - 1)) with hP | hP
          · rw [hP] at cp
            obtain ⟨L, a, rfl, hsp⟩ := I.out.last (by omega) (by omega) hS hP
            have J := Lib.hid hsp
            have LN := Lib.hid I.out.len
            have o2 := O.out.2
            rcases o2 with ⟨_, h2⟩ | ⟨q, cap, cur, hq, q1, q2, q3, q4, q5, q6⟩
            · rw [List.length_append] at h2; simp at h2
            subst hq
            have q7 := (Array.getElem?_eq_some_iff.1 q2).1
            have st := O.out.stored ((L ++ [(a, (m : Int))]).length * 2 - 2 + 1) (.int .i64 ((m : Int) + 1))
            rw [flS_set] at st
            have fr := O.out.frozenAt ((L ++ [(a, (m : Int))]).length * 2 - 2 + 1)
            have ce := O.out.cellAt ((L ++ [(a, (m : Int))]).length * 2 - 2 + 1) (by rw [List.length_append]; simp; omega)
            have hl : (L ++ [(a, (m : Int))]).length = L.length + 1 := by rw [List.length_append]; rfl
            have hl2 : (L ++ [(a, (m : Int) + 1)]).length = L.length + 1 := by rw [List.length_append]; rfl
            have ce2 : (flS (L ++ [(a, (m : Int))]))[(L.length + 1) * 2 - 2 + 1]? = some (.int .i64 m) := by
              have := (flS_get (L ++ [(a, (m : Int))]) L.length (by rw [hl]; omega)).2
              rw [show (L.length + 1) * 2 - 2 + 1 = L.length * 2 + 1 by omega, this]
              simp
            rw [hl] at st fr ce
            rw [ce2] at ce
            rw [show (L.length + 1) * 2 - 2 + 1 = L.length * 2 + 1 by omega] at st fr ce
            have O2 := Lib.hid (show OwnS (wr.setCell ⟨q, L.length * 2 + 1, none⟩ (.int .i64 ((m : Int) + 1))) w.heap.size (.slice (some ⟨q, 0, none⟩) (L.length + 1) cap) (L ++ [(a, (m : Int) + 1)]) by
              unfold OwnS; rw [hl2]; exact st.1)
            have B2 := Lib.hid (B.out.setCell (p := ⟨q, L.length * 2 + 1, none⟩) q1 (.int .i64 ((m : Int) + 1)))
            have LL := LN.out
            rw [hl] at LL
            have HL := Lib.hid hl
            rw [hl]
            clear st hsp q2 q3 q4 q5 q6 ce2 hl2
            go_wp2_with fail
            go_roundw
            case rel => exact ⟨m + 1, _, by go_num, hlt, O2.out, J.out, B2.out⟩
            case measure => simp [intOf]; omega
          · rw [hP] at cp
            have J := Lib.hid (I.out.new (by omega) (by omega) hS (fun _ => hP))
            have hown := O.out.alloc (Obj.cells #[.int .i64 (m : Int), .int .i64 ((m : Int) + 1)] 37)
            have H2 := Lib.hid (stwo_cells wr (.int .i64 (m : Int)) (.int .i64 ((m : Int) + 1)) 37)
            go_wp2_with (at_builtin; refine wpList_append_own _ rfl (.tmp 31) (.tmp 36) 22 rfl w.heap.size 37 i0 _ 2 16 Try.underlying22 HI0.out HI1.out HI2.out HI3.out rfl (by decide) _ _ _ rfl hown ⟨wr.heap.size, 0, none⟩ 1 1 [.int .i64 (m : Int), .int .i64 ((m : Int) + 1)] rfl rfl H2.out ?c2 ?c3 ?c4 ?c5 ?_)
            case c2 => intro u hu; simp at hu; rcases hu with rfl | rfl <;> rfl
            case c3 => unfold maxLen; have := I.out.len; omega
            case c4 => have := I.out.len; omega
            case c5 => exact Nat.le_trans hz (World.grownBy_alloc _ _ none).size
            intro v' w4 hown' hgrow hxx
            have B4 := Lib.hid ((B.out.alloc hz _).grown hgrow (Nat.le_trans hz (World.grownBy_alloc _ _ none).size) (fun q hq => (hown.lt q hq).1))
            have O4 := Lib.hid (show OwnS w4 w.heap.size v' (F ++ [((m : Int), (m : Int) + 1)]) by
              unfold OwnS; rw [flS_append, List.length_append]; exact hown')
            clear hown' hgrow hxx hown
            go_wp2_with fail
            go_roundw
            case rel => exact ⟨m + 1, _, by go_num, hlt, O4.out, J.out, B4.out⟩
            case measure => simp [intOf]; omega
        · have hm0 : m = 0 := by omega
          have J := Lib.hid (I.out.new (by omega) (by omega) hS (fun g => absurd g (by omega)))
          have i1 : ¬ (0 : Int) < (m : Int) := by omega
          clear hm0
          have hown := O.out.alloc (Obj.cells #[.int .i64 (m : Int), .int .i64 ((m : Int) + 1)] 37)
          have H2 := Lib.hid (stwo_cells wr (.int .i64 (m : Int)) (.int .i64 ((m : Int) + 1)) 37)
          go_wp2_with (at_builtin; refine wpList_append_own _ rfl (.tmp 31) (.tmp 36) 22 rfl w.heap.size 37 i0 _ 2 16 Try.underlying22 HI0.out HI1.out HI2.out HI3.out rfl (by decide) _ _ _ rfl hown ⟨wr.heap.size, 0, none⟩ 1 1 [.int .i64 (m : Int), .int .i64 ((m : Int) + 1)] rfl rfl H2.out ?c2 ?c3 ?c4 ?c5 ?_)
          case c2 => exact ⟨rfl, rfl⟩
          case c3 => unfold maxLen; have := I.out.len; omega
          case c4 => have := I.out.len; omega
          case c5 => omega
          intro v' w4 hown' hgrow hxx
          have B4 := Lib.hid ((B.out.alloc hz _).grown hgrow (Nat.le_trans hz (World.grownBy_alloc _ _ none).size) (fun q hq => (hown.lt q hq).1))
          have O4 := Lib.hid (show OwnS w4 w.heap.size v' (F ++ [((m : Int), (m : Int) + 1)]) by
            unfold OwnS; rw [flS_append, List.length_append]; exact hown')
          clear hown' hgrow hxx hown
          go_wp2_with fail
          go_roundw
          case rel => exact ⟨m + 1, _, by go_num, hlt, O4.out, J.out, B4.out⟩
          case measure => simp [intOf]; omega
      · rw [hS] at cm
        have J := Lib.hid (I.out.skip hS)
        go_wp2_with fail
        go_roundw
        case rel => exact ⟨m + 1, F, by go_num, hlt, O.out, J.out, B.out⟩
        case measure => simp [intOf]; omega
    · obtain rfl : m = 10080 := by omega
      obtain ⟨A, c, hv, hs⟩ := ownS_at O.out (fun s hs => by have := ascS_all I.out.ascS s hs; exact ⟨i64_small (by omega), i64_small (by omega)⟩)
      subst hv
      have SP := Lib.hid hs
      clear hown hsp hb hs
      go_wp2_with fail
      go_ret
      exact ⟨A, c, F, rfl, SP.out, I.out.fin, B.out⟩
end Go.Proofs.Ytnocbgimfmgdeaa
