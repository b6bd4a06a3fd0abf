/- Contracts of Parse. -/
import Derived.Test.YtkgbmoiolgpmoaaWalkE
import Derived.Test.YtkgbmoiolgpmoaaPlainP
import Derived.Lib.Strings
set_option linter.unusedVariables false
namespace Go.Proofs.Ytkgbmoiolgpmoaa
open Go.RowKit

theorem take_snoc (s : ByteArray) (k : Nat) (h : k < s.size) : s.data.toList.take (k + 1) = s.data.toList.take k ++ [s[k]] := by
  rw [List.take_succ_eq_append_getElem (by simpa using h)]; rfl

set_option maxHeartbeats 400000 in
theorem read_any (s : ByteArray) (w : World) (hs : s.size ≤ 14) :
    Calls Try.prog 36 #[.string s] w fun e w' => e = .returned (.int .i64 (rdL s.data.toList)) ∧ w = w' := by
  go_enter Try.func36, Try.ntmps36
  go_wp2
  go_loop [3, 4, 7] (fun n _ i => ∃ k : Nat, k ≤ s.size ∧ i = .int .i64 k ∧ n = .int .i64 (rdL (s.data.toList.take k))) (fun _ _ i => s.size - (intOf i).toNat)
  case atStart => exact ⟨0, Nat.zero_le _, rfl, rfl⟩
  case round =>
    obtain ⟨k, hk, rfl, rfl⟩ := hrel
    have hl : (s.data.toList.take k).length ≤ 14 := by have := List.length_take_le k s.data.toList; omega
    obtain ⟨b1, b2⟩ := rdL_bd _ hl
    by_cases hlt : k < s.size
    · have S := Lib.hid (show rdL (s.data.toList.take (k + 1)) = _ by rw [take_snoc s k hlt, rdL_snoc])
      have hc := (s[k]).toNat_lt
      generalize rdL (s.data.toList.take k) = n at *
      go_wp2
      go_round
      case rel => exact ⟨k + 1, by omega, by go_num, val_int (by rw [S.out])⟩
      case measure => simp [intOf]; omega
    · go_wp2
      go_ret
      exact ⟨ret_int (by rw [List.take_of_length_le (by simp; omega)]), rfl⟩

/-- What Parse returns. -/
def parsed (s : ByteArray) : Ending := .returned (.tuple #[.int .i64 (if okS s then valS s else 0), .bool (okS s)])

theorem parsed_no (s : ByteArray) (h : okS s = false) : parsed s = .returned (.tuple #[.int .i64 0, .bool false]) := by unfold parsed; rw [h]; rfl
theorem parsed_yes (s : ByteArray) (h : okS s = true) : parsed s = .returned (.tuple #[.int .i64 (valS s), .bool true]) := by unfold parsed; rw [h]; rfl
theorem same_list (a b : ByteArray) : (a.toList == b.toList) = decide (a = b) := by
  rw [Lib.toList_data, Lib.toList_data]
  by_cases h : a = b
  · rw [h]; simp
  · rw [decide_eq_false h, beq_eq_false_iff_ne]
    intro e; apply h; apply ByteArray.ext; exact Array.toList_inj.1 e
theorem ok_out (s : ByteArray) (h : ¬ (-1099511627776 ≤ valS s ∧ valS s ≤ 1099511627776)) : okS s = false := by
  unfold okS; rw [decide_eq_false]; intro e; exact h ⟨e.2.1, e.2.2.1⟩
theorem ok_ne (s : ByteArray) (h : (!(digS (valS s)).toList == s.toList) = true) : okS s = false := by
  unfold okS; rw [decide_eq_false]; intro e
  rw [same_list, e.2.2.2] at h; simp at h
theorem ok_eq (s : ByteArray) (h14 : s.size ≤ 14) (h2 : -1099511627776 ≤ valS s ∧ valS s ≤ 1099511627776) (h : (!(digS (valS s)).toList == s.toList) = false) : okS s = true := by
  unfold okS; rw [decide_eq_true]
  rw [same_list] at h
  exact ⟨h14, h2.1, h2.2, by simpa using h⟩
theorem val_neg (s : ByteArray) (h0 : 0 < s.size) (h : s[0] = 45) : valS s = -rdL (s.extract 1 s.size).data.toList := by
  have e : s.data.toList.head? = some 45 := by
    rw [List.head?_eq_getElem?, List.getElem?_eq_getElem (by simpa using h0)]
    exact congrArg some h
  unfold valS
  rw [if_pos e, Lib.extract_data, List.drop_one, List.take_of_length_le (by simp)]
theorem val_pos (s : ByteArray) (h0 : 0 < s.size) (h : ¬ s[0] = 45) : valS s = rdL s.data.toList := by
  have e : ¬ s.data.toList.head? = some 45 := by
    rw [List.head?_eq_getElem?, List.getElem?_eq_getElem (by simpa using h0)]
    intro e; exact h (Option.some.inj e)
  unfold valS
  rw [if_neg e]

theorem nsat_in (a : Int) (w : World) (h : -1099511627776 ≤ a ∧ a ≤ 1099511627776) :
    Calls Try.prog 12 #[.int .i64 a] w fun e w' => e = .returned (.int .i64 a) ∧ w = w' :=
  (nsat_any a w).mono fun _ _ ⟨h1, h2⟩ => ⟨by rw [h1, sat_id a h.1 h.2], h2⟩

theorem toList_ne (s : ByteArray) (h : 0 < s.size) : s.toList.isEmpty = false ∧ ¬ s.toList = [] := by
  rw [Lib.toList_data]
  have hl : s.data.toList.length = s.size := by simp
  cases hd : s.data.toList with
  | nil => rw [hd] at hl; simp at hl; omega
  | cons a l => exact ⟨rfl, by simp⟩

theorem nparse_none (w : World) :
    Calls Try.prog 29 #[.string ByteArray.empty] w fun e w' => e = parsed ByteArray.empty ∧ Grown w w' := by
  have hp : Hid (parsed ByteArray.empty = .returned (.tuple #[.int .i64 0, .bool false])) := Lib.hid (parsed_no _ (by
    unfold okS; rw [decide_eq_false]; intro h; have := congrArg ByteArray.size h.2.2.2; revert this; decide +kernel))
  have e1 : ByteArray.empty.toList.isEmpty = true := by rw [Lib.toList_data]; rfl
  have e2 : ByteArray.empty.toList = [] := by rw [Lib.toList_data]; rfl
  go_enter Try.func29, Try.ntmps29
  go_wp2_with fail
  go_ret2
  exact ⟨hp.out.symm, Grown.refl _⟩

set_option maxHeartbeats 400000 in
theorem nparse_any (s : ByteArray) (w : World) (hs : s.size ≤ 10000) :
    Calls Try.prog 29 #[.string s] w fun e w' => e = parsed s ∧ Grown w w' := by
  by_cases h0 : s.size = 0
  · have e : s = ByteArray.empty := by apply ByteArray.ext; exact Array.size_eq_zero_iff.1 h0
    subst e
    exact nparse_none w
  obtain ⟨e1, e2⟩ := toList_ne s (by omega)
  by_cases h14 : 14 < s.size
  · have hp : Hid (parsed s = .returned (.tuple #[.int .i64 0, .bool false])) := Lib.hid (by
      unfold parsed okS; rw [decide_eq_false (by omega)]; rfl)
    go_enter Try.func29, Try.ntmps29
    go_wp2_with fail
    go_ret2
    exact ⟨hp.out.symm, Grown.refl _⟩
  have h14' : s.size ≤ 14 := by omega
  by_cases h45 : s[0] = 45
  · have hV := Lib.hid (val_neg s (by omega) h45)
    have hz : (s.extract 1 s.size).size ≤ 14 := by simp; omega
    obtain ⟨b1, b2⟩ := rdL_bd (s.extract 1 s.size).data.toList (by simpa using hz)
    have hd := digS_size (-rdL (s.extract 1 s.size).data.toList)
    go_enter Try.func29, Try.ntmps29
    go_wp2_with fail
    refine (read_any _ _ hz).mono ?_
    rintro e w' ⟨rfl, rfl⟩
    generalize rdL (s.extract 1 s.size).data.toList = m at *
    clear h45 h14 h0
    by_cases hin : -1099511627776 ≤ -m ∧ -m ≤ 1099511627776
    · have T1 := Lib.hid (fun h => parsed_no s (ok_ne s h))
      have T2 := Lib.hid (fun h => parsed_yes s (ok_eq s h14' (by rw [hV.out]; exact hin) h))
      rw [hV.out] at T1 T2
      go_wp2_with fail
      refine (nsat_in _ _ hin).mono ?_
      rintro e w' ⟨rfl, rfl⟩
      go_wp2_with fail
      refine (ndig_any _ _ (by unfold I64; omega)).mono ?_
      rintro e w' ⟨rfl, hg⟩
      go_wp2_with fail
      · go_ret2
        exact ⟨(T1.out ‹_›).symm, hg⟩
      · go_ret2
        exact ⟨(T2.out ‹_›).symm, hg⟩
    · have hne : (-m != sat (-m)) = true := by
        have := sat_in (-m)
        simp; intro e; rw [← e] at this; exact hin this
      have T1 := Lib.hid (parsed_no s (ok_out s (by rw [hV.out]; exact hin)))
      go_wp2_with fail
      refine (nsat_any _ _).mono ?_
      rintro e w' ⟨rfl, rfl⟩
      go_wp2_with fail
      go_ret2
      exact ⟨T1.out.symm, Grown.refl _⟩
  · have hV := Lib.hid (val_pos s (by omega) h45)
    have h45' : ((s[0].toNat : Int) == 45) = false := by
      rw [beq_eq_false_iff_ne]; intro e; apply h45; apply UInt8.toNat_inj.1; show s[0].toNat = 45; omega
    obtain ⟨b1, b2⟩ := rdL_bd s.data.toList (by simpa using h14')
    have hd := digS_size (rdL s.data.toList)
    go_enter Try.func29, Try.ntmps29
    go_wp2_with fail
    refine (read_any _ _ h14').mono ?_
    rintro e w' ⟨rfl, rfl⟩
    generalize rdL s.data.toList = m at *
    clear h45
    by_cases hin : -1099511627776 ≤ m ∧ m ≤ 1099511627776
    · have T1 := Lib.hid (fun h => parsed_no s (ok_ne s h))
      have T2 := Lib.hid (fun h => parsed_yes s (ok_eq s h14' (by rw [hV.out]; exact hin) h))
      rw [hV.out] at T1 T2
      go_wp2_with fail
      refine (nsat_in _ _ hin).mono ?_
      rintro e w' ⟨rfl, rfl⟩
      go_wp2_with fail
      refine (ndig_any _ _ (by unfold I64; omega)).mono ?_
      rintro e w' ⟨rfl, hg⟩
      go_wp2_with fail
      · go_ret2
        exact ⟨(T1.out ‹_›).symm, hg⟩
      · go_ret2
        exact ⟨(T2.out ‹_›).symm, hg⟩
    · have hne : (m != sat (m)) = true := by
        have := sat_in (m)
        simp; intro e; rw [← e] at this; exact hin this
      have T1 := Lib.hid (parsed_no s (ok_out s (by rw [hV.out]; exact hin)))
      go_wp2_with fail
      refine (nsat_any _ _).mono ?_
      rintro e w' ⟨rfl, rfl⟩
      go_wp2_with fail
      go_ret2
      exact ⟨T1.out.symm, Grown.refl _⟩
end Go.Proofs.Ytkgbmoiolgpmoaa
