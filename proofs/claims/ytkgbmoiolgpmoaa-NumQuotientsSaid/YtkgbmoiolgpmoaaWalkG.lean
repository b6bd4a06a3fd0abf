/- The contract of the reference's Parse. -/
import Derived.Test.YtkgbmoiolgpmoaaWalkF
import Derived.LoopN
set_option linter.unusedVariables false
namespace Go.Proofs.Ytkgbmoiolgpmoaa
open Go.RowKit

theorem val_neg2 (s : ByteArray) (h0 : 0 < s.size) (h : s[0] = 45) : valS s = -rdL s.data.toList.tail := by
  rw [val_neg s h0 h, Lib.extract_data, List.drop_one, List.take_of_length_le (by simp)]
theorem take_snoc1 (s : ByteArray) (k : Nat) (h : k + 1 < s.size) : s.data.toList.tail.take (k + 1) = s.data.toList.tail.take k ++ [s[k + 1]] := by
  rw [List.take_succ_eq_append_getElem (by simp; omega)]; simp; rfl

/-- A byte of the text of a number is a digit, or the sign. -/
theorem dec_dig (f : Nat) : ∀ (m : Nat) (x : Int), x ∈ dec f m → 48 ≤ x ∧ x ≤ 57 := by
  induction f with
  | zero => intro m x h; simp [dec] at h
  | succ f ih =>
    intro m x h
    unfold dec at h
    split at h
    · simp at h; omega
    · rw [List.mem_append] at h
      rcases h with h | h
      · exact ih _ _ h
      · simp at h; omega
theorem digS_byte (v : Int) (s : ByteArray) (hs : digS v = s) (j : Nat) (h : j < s.size) (hd : ¬ (48 ≤ s[j].toNat ∧ s[j].toNat ≤ 57)) : j = 0 ∧ s[j] = 45 := by
  have hx : ∀ (l : List Int), (∀ x, x ∈ l → 48 ≤ x ∧ x ≤ 57) → ∀ (i : Nat) (c : UInt8), (l.map fun n => UInt8.ofNat n.toNat)[i]? = some c → 48 ≤ c.toNat ∧ c.toNat ≤ 57 := by
    intro l hl i c e
    rw [List.getElem?_map] at e
    cases hi : l[i]? with
    | none => rw [hi] at e; cases e
    | some x =>
      rw [hi] at e
      have hm := hl x (List.mem_of_getElem? hi)
      have e' : UInt8.ofNat x.toNat = c := Option.some.inj e
      rw [← e', UInt8.toNat_ofNat']
      omega
  have hg : s.data.toList[j]? = some s[j] := by rw [List.getElem?_eq_getElem (by simpa using h)]; rfl
  have hdat : s.data.toList = (digL v).map fun n => UInt8.ofNat n.toNat := by rw [← hs]; rfl
  rw [hdat] at hg
  unfold digL at hg
  split at hg
  · cases j with
    | zero => exact ⟨rfl, (Option.some.inj hg).symm⟩
    | succ j => exact absurd (hx _ (dec_dig 20 _) j _ hg) hd
  · exact absurd (hx _ (dec_dig 20 _) j _ hg) hd
theorem bad_neg (s : ByteArray) (h0 : 0 < s.size) (h : s[0] = 45) : ∀ j (hj : j + 1 < s.size), ¬ (48 ≤ s[j + 1].toNat ∧ s[j + 1].toNat ≤ 57) → okS s = false := by
  intro j hj hd
  unfold okS; rw [decide_eq_false]; intro e
  have := digS_byte _ s e.2.2.2 (j + 1) hj hd
  omega
theorem bad_pos (s : ByteArray) (h0 : 0 < s.size) (h : ¬ s[0] = 45) : ∀ j (hj : j < s.size), ¬ (48 ≤ s[j].toNat ∧ s[j].toNat ≤ 57) → okS s = false := by
  intro j hj hd
  unfold okS; rw [decide_eq_false]; intro e
  obtain ⟨rfl, h2⟩ := digS_byte _ s e.2.2.2 j hj hd
  exact h h2

set_option maxHeartbeats 1000000 in
theorem rparse_neg (s : ByteArray) (w : World) (h0 : 0 < s.size) (h14 : s.size ≤ 14) (h : s[0] = 45) :
    Calls Try.prog 30 #[.string s] w fun e w' => e = parsed s ∧ Grown w w' := by
  obtain ⟨e1, e2⟩ := toList_ne s h0
  have hV := Lib.hid (val_neg2 s h0 h)
  have HB := Lib.hid (bad_neg s h0 h)
  have hlen : s.data.toList.tail.length + 1 = s.size := by simp; omega
  have HL := Lib.hid hlen
  clear hlen
  go_enter Try.func30, Try.ntmps30
  go_wp2_with fail
  go_loop [4, 6] (fun n i => ∃ j : Nat, j + 1 ≤ s.size ∧ i = .int .i64 ((j : Int) + 1) ∧ n = .int .i64 (rdL (s.data.toList.tail.take j))) (fun _ i => s.size - (intOf i).toNat)
  case atStart => exact ⟨0, by omega, rfl, rfl⟩
  case round =>
    obtain ⟨j, hj, rfl, rfl⟩ := hrel
    have hl : (s.data.toList.tail.take j).length ≤ 14 := by have := List.length_take_le j s.data.toList.tail; have := HL.out; omega
    obtain ⟨b1, b2⟩ := rdL_bd _ hl
    by_cases hlt : j + 1 < s.size
    · have S := Lib.hid (show rdL (s.data.toList.tail.take (j + 1)) = _ by rw [take_snoc1 s j hlt, rdL_snoc])
      have hc := (s[j + 1]).toNat_lt
      by_cases hd : 48 ≤ s[j + 1].toNat ∧ s[j + 1].toNat ≤ 57
      · obtain ⟨hd1, hd2⟩ := hd
        generalize rdL (s.data.toList.tail.take j) = n at *
        go_wp2_with fail
        all_goals go_round
        case rel => exact ⟨j + 1, by omega, by go_num, val_int (by rw [S.out]; omega)⟩
        case measure => simp [intOf]; omega
      · have T := Lib.hid (parsed_no s (HB.out j hlt hd))
        have hd' : s[j + 1].toNat < 48 ∨ 57 < s[j + 1].toNat := by omega
        clear hd
        generalize rdL (s.data.toList.tail.take j) = n at *
        rcases hd' with hd1 | hd1
        all_goals
          go_wp2_with fail
          go_ret2
          exact ⟨T.out.symm, Grown.refl _⟩
    · have ha : rdL (s.data.toList.tail.take j) = rdL s.data.toList.tail := by rw [List.take_of_length_le (by have := HL.out; omega)]
      rw [ha] at b1 b2 ⊢
      generalize rdL s.data.toList.tail = m at *
      have hd := digS_size (-m)
      clear ha hl
      by_cases hin : -1099511627776 ≤ -m ∧ -m ≤ 1099511627776
      · have T1 := Lib.hid (fun h => parsed_no s (ok_ne s h))
        have T2 := Lib.hid (fun h => parsed_yes s (ok_eq s h14 (by rw [hV.out]; exact hin) h))
        rw [hV.out] at T1 T2
        obtain ⟨hin1, hin2⟩ := hin
        cases hq : ((digS (-m)).toList == s.toList) with
        | false =>
          have T := Lib.hid (T1.out (by rw [hq]; rfl))
          go_wp2_with fail
          refine (rdig_any _ _ (by unfold I64; omega)).mono ?_
          rintro e w' ⟨rfl, hg⟩
          go_wp2_with fail
          go_ret2
          exact ⟨T.out.symm, hg⟩
        | true =>
          have T := Lib.hid (T2.out (by rw [hq]; rfl))
          go_wp2_with fail
          refine (rdig_any _ _ (by unfold I64; omega)).mono ?_
          rintro e w' ⟨rfl, hg⟩
          go_wp2_with fail
          go_ret2
          exact ⟨T.out.symm, hg⟩
      · have T1 := Lib.hid (parsed_no s (ok_out s (by rw [hV.out]; exact hin)))
        have hin' : -m < -1099511627776 ∨ 1099511627776 < -m := by omega
        clear hin
        rcases hin' with hin | hin
        all_goals first
          | (exfalso; clear T1; omega)
          | (go_wp2_with fail; go_ret2; exact ⟨T1.out.symm, Grown.refl _⟩)

set_option maxHeartbeats 1000000 in
theorem rparse_pos (s : ByteArray) (w : World) (h0 : 0 < s.size) (h14 : s.size ≤ 14) (h : ¬ s[0] = 45) :
    Calls Try.prog 30 #[.string s] w fun e w' => e = parsed s ∧ Grown w w' := by
  obtain ⟨e1, e2⟩ := toList_ne s h0
  have hV := Lib.hid (val_pos s h0 h)
  have HB := Lib.hid (bad_pos s h0 h)
  have hlen : s.data.toList.length = s.size := by simp
  have HL := Lib.hid hlen
  clear hlen
  have h45 : ((s[0].toNat : Int) == 45) = false := by
    rw [beq_eq_false_iff_ne]; intro e; apply h; apply UInt8.toNat_inj.1; show s[0].toNat = 45; omega
  clear h
  go_enter Try.func30, Try.ntmps30
  go_wp2_with fail
  go_loop [4, 6] (fun n i => ∃ j : Nat, j ≤ s.size ∧ i = .int .i64 (j : Int) ∧ n = .int .i64 (rdL (s.data.toList.take j))) (fun _ i => s.size - (intOf i).toNat)
  case atStart => exact ⟨0, by omega, rfl, rfl⟩
  case round =>
    obtain ⟨j, hj, rfl, rfl⟩ := hrel
    have hl : (s.data.toList.take j).length ≤ 14 := by have := List.length_take_le j s.data.toList; have := HL.out; omega
    obtain ⟨b1, b2⟩ := rdL_bd _ hl
    by_cases hlt : j < s.size
    · have S := Lib.hid (show rdL (s.data.toList.take (j + 1)) = _ by rw [take_snoc s j hlt, rdL_snoc])
      have hc := (s[j]).toNat_lt
      by_cases hd : 48 ≤ s[j].toNat ∧ s[j].toNat ≤ 57
      · obtain ⟨hd1, hd2⟩ := hd
        generalize rdL (s.data.toList.take j) = n at *
        go_wp2_with fail
        all_goals go_round
        case rel => exact ⟨j + 1, by omega, by go_num, val_int (by rw [S.out]; omega)⟩
        case measure => simp [intOf]; omega
      · have T := Lib.hid (parsed_no s (HB.out j hlt hd))
        have hd' : s[j].toNat < 48 ∨ 57 < s[j].toNat := by omega
        clear hd
        generalize rdL (s.data.toList.take j) = n at *
        rcases hd' with hd1 | hd1
        all_goals
          go_wp2_with fail
          go_ret2
          exact ⟨T.out.symm, Grown.refl _⟩
    · have ha : rdL (s.data.toList.take j) = rdL s.data.toList := by rw [List.take_of_length_le (by have := HL.out; omega)]
      rw [ha] at b1 b2 ⊢
      generalize rdL s.data.toList = m at *
      have hd := digS_size (m)
      clear ha hl
      by_cases hin : -1099511627776 ≤ m ∧ m ≤ 1099511627776
      · have T1 := Lib.hid (fun h => parsed_no s (ok_ne s h))
        have T2 := Lib.hid (fun h => parsed_yes s (ok_eq s h14 (by rw [hV.out]; exact hin) h))
        rw [hV.out] at T1 T2
        obtain ⟨hin1, hin2⟩ := hin
        cases hq : ((digS m).toList == s.toList) with
        | false =>
          have T := Lib.hid (T1.out (by rw [hq]; rfl))
          go_wp2_with fail
          refine (rdig_any _ _ (by unfold I64; omega)).mono ?_
          rintro e w' ⟨rfl, hg⟩
          go_wp2_with fail
          go_ret2
          exact ⟨T.out.symm, hg⟩
        | true =>
          have T := Lib.hid (T2.out (by rw [hq]; rfl))
          go_wp2_with fail
          refine (rdig_any _ _ (by unfold I64; omega)).mono ?_
          rintro e w' ⟨rfl, hg⟩
          go_wp2_with fail
          go_ret2
          exact ⟨T.out.symm, hg⟩
      · have T1 := Lib.hid (parsed_no s (ok_out s (by rw [hV.out]; exact hin)))
        have hin' : m < -1099511627776 ∨ 1099511627776 < m := by omega
        clear hin
        rcases hin' with hin | hin
        all_goals first
          | (exfalso; clear T1; omega)
          | (go_wp2_with fail; go_ret2; exact ⟨T1.out.symm, Grown.refl _⟩)

theorem rparse_none (w : World) :
    Calls Try.prog 30 #[.string ByteArray.empty] w fun e w' => e = parsed ByteArray.empty ∧ Grown w w' := by
  have hp : Hid (parsed ByteArray.empty = .returned (.tuple #[.int .i64 0, .bool false])) := Lib.hid (parsed_no _ (by
    unfold okS; rw [decide_eq_false]; intro h; have := congrArg ByteArray.size h.2.2.2; revert this; decide +kernel))
  have e1 : ByteArray.empty.toList.isEmpty = true := by rw [Lib.toList_data]; rfl
  have e2 : ByteArray.empty.toList = [] := by rw [Lib.toList_data]; rfl
  have e3 : ByteArray.empty.size = 0 := rfl
  go_enter Try.func30, Try.ntmps30
  go_wp2_with fail
  refine wp_loop_rounds 1 ?_
  rw [rounds_succ]
  go_wp2_with fail
  go_ret2
  exact ⟨hp.out.symm, Grown.refl _⟩

set_option maxHeartbeats 400000 in
theorem rparse_any (s : ByteArray) (w : World) (hs : s.size ≤ 10000) :
    Calls Try.prog 30 #[.string s] w fun e w' => e = parsed s ∧ Grown w w' := by
  by_cases h0 : s.size = 0
  · have e : s = ByteArray.empty := by apply ByteArray.ext; exact Array.size_eq_zero_iff.1 h0
    subst e
    exact rparse_none w
  by_cases h14 : 14 < s.size
  · have hp : Hid (parsed s = .returned (.tuple #[.int .i64 0, .bool false])) := Lib.hid (by
      unfold parsed okS; rw [decide_eq_false (by omega)]; rfl)
    go_enter Try.func30, Try.ntmps30
    go_wp2_with fail
    go_ret2
    exact ⟨hp.out.symm, Grown.refl _⟩
  by_cases h45 : s[0] = 45
  · exact rparse_neg s w (by omega) (by omega) h45
  · exact rparse_pos s w (by omega) (by omega) h45
end Go.Proofs.Ytkgbmoiolgpmoaa
