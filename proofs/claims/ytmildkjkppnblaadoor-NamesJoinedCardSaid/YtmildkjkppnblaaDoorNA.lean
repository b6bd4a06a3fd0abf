/- Contracts of the small functions of names and of the reference: kinds of bytes, hexadecimal digits, an escape. -/
import Derived.Test.YtmildkjkppnblaaDoorRows
import Derived.Test.YtmildkjkppnblaaDoorNPlain
import Derived.Test.YtmildkjkppnblaaDoorNShelf
import Derived.WalkKit
import Derived.WalkSpells
import Derived.WalkLawsBesides
import Derived.Lib.Hide
import Derived.IntWalk
import Derived.Laws.NewBlocks
import Derived.Laws.BitsAllLaws
import Derived.Deep.QuietTactic
import Derived.BigQuiet
set_option linter.unusedVariables false
namespace Go.Proofs.YtmildkjkppnblaaDoor
open Go.RowKit

theorem ret_int {k : IntKind} {a b : Int} (h : a = b) : Ending.returned (.int k a) = .returned (.int k b) := by rw [h]
theorem ret_str {a b : ByteArray} (h : a = b) : Ending.returned (.string a) = .returned (.string b) := by rw [h]
theorem ret_bool {a b : Bool} (h : a = b) : Ending.returned (.bool a) = .returned (.bool b) := by rw [h]
theorem val_int {k : IntKind} {a b : Int} (h : a = b) : Value.int k a = .int k b := by rw [h]
theorem tup_bi {k j : IntKind} {a a' b b' : Int} (h1 : a = a') (h2 : b = b') : Ending.returned (.tuple #[.int k a, .int j b]) = .returned (.tuple #[.int k a', .int j b']) := by rw [h1, h2]
theorem tup_si {j : IntKind} {a a' : ByteArray} {b b' : Int} (h1 : a = a') (h2 : b = b') : Ending.returned (.tuple #[.string a, .int j b]) = .returned (.tuple #[.string a', .int j b']) := by rw [h1, h2]

/-- A double quote or a backslash. -/
def slB (n : Nat) : Bool := decide (n = 34 ∨ n = 92)
/-- A byte or rune that is its own form. -/
def plB (n : Nat) : Bool := decide (32 ≤ n ∧ n ≤ 126 ∧ n ≠ 34 ∧ n ≠ 92)
theorem plB_pl (c : UInt8) : plB c.toNat = pl c := rfl

set_option maxHeartbeats 400000 in
theorem slash_yes (n : Nat) (w : World) (h : n = 34 ∨ n = 92) :
    Calls Tryd.prog 13 #[.int .i32 (n : Int)] w fun e w' => e = .returned (.bool true) ∧ w = w' := by
  by_cases h1 : n = 34
  · subst h1
    go_enter Tryd.func13, Tryd.ntmps13
    go_wp2_with fail
    go_ret
    exact ⟨rfl, rfl⟩
  · obtain rfl : n = 92 := by omega
    go_enter Tryd.func13, Tryd.ntmps13
    go_wp2_with fail
    go_ret
    exact ⟨rfl, rfl⟩
set_option maxHeartbeats 400000 in
theorem slash_no (n : Nat) (w : World) (h : ¬ (n = 34 ∨ n = 92)) :
    Calls Tryd.prog 13 #[.int .i32 (n : Int)] w fun e w' => e = .returned (.bool false) ∧ w = w' := by
  have h1 : ((n : Int) == 34) = false := by simp; omega
  have h2 : ((n : Int) == 92) = false := by simp; omega
  clear h
  go_enter Tryd.func13, Tryd.ntmps13
  go_wp2_with fail
  go_ret
  exact ⟨rfl, rfl⟩
theorem slash_any (n : Nat) (w : World) :
    Calls Tryd.prog 13 #[.int .i32 (n : Int)] w fun e w' => e = .returned (.bool (slB n)) ∧ w = w' := by
  by_cases h : n = 34 ∨ n = 92
  · rw [show slB n = true from decide_eq_true h]; exact slash_yes n w h
  · rw [show slB n = false from decide_eq_false h]; exact slash_no n w h

set_option maxHeartbeats 400000 in
theorem plain_any (n : Nat) (w : World) :
    Calls Tryd.prog 12 #[.int .i32 (n : Int)] w fun e w' => e = .returned (.bool (plB n)) ∧ w = w' := by
  by_cases h1 : 32 ≤ n
  · by_cases h2 : n ≤ 126
    · by_cases h : n = 34 ∨ n = 92
      · have E := Lib.hid (show plB n = false from decide_eq_false (by omega))
        have H := Lib.hid h
        clear h
        go_enter Tryd.func12, Tryd.ntmps12
        go_wp2_with fail
        refine (slash_yes n _ H.out).mono ?_
        rintro e w' ⟨rfl, rfl⟩
        go_wp2_with fail
        go_ret
        exact ⟨ret_bool E.out.symm, rfl⟩
      · have E := Lib.hid (show plB n = true from decide_eq_true (by omega))
        have H := Lib.hid h
        clear h
        go_enter Tryd.func12, Tryd.ntmps12
        go_wp2_with fail
        refine (slash_no n _ H.out).mono ?_
        rintro e w' ⟨rfl, rfl⟩
        go_wp2_with fail
        go_ret
        exact ⟨ret_bool E.out.symm, rfl⟩
    · have E := Lib.hid (show plB n = false from decide_eq_false (by omega))
      go_enter Tryd.func12, Tryd.ntmps12
      go_wp2_with fail
      go_ret
      exact ⟨ret_bool E.out.symm, rfl⟩
  · have E := Lib.hid (show plB n = false from decide_eq_false (by omega))
    go_enter Tryd.func12, Tryd.ntmps12
    go_wp2_with fail
    go_ret
    exact ⟨ret_bool E.out.symm, rfl⟩

/-- The value of a digit, as the reference has it. -/
def hvI (c : UInt8) : Int := if hv c < 16 then (hv c : Int) else -1
theorem hv_num (c : UInt8) (h1 : 48 ≤ c.toNat) (h2 : c.toNat ≤ 57) : hv c = c.toNat - 48 := by unfold hv; rw [if_pos ⟨h1, h2⟩]
theorem hv_let (c : UInt8) (h1 : 97 ≤ c.toNat) (h2 : c.toNat ≤ 102) : hv c = c.toNat - 87 := by unfold hv; rw [if_neg (by omega), if_pos ⟨h1, h2⟩]
theorem hv_bad (c : UInt8) (h1 : ¬ (48 ≤ c.toNat ∧ c.toNat ≤ 57)) (h2 : ¬ (97 ≤ c.toNat ∧ c.toNat ≤ 102)) : hv c = 16 := by unfold hv; rw [if_neg h1, if_neg h2]
theorem hv_le (c : UInt8) : hv c ≤ 16 := by unfold hv; split; omega; split <;> omega
theorem hvI_le (c : UInt8) : -1 ≤ hvI c ∧ hvI c ≤ 15 := by unfold hvI; split <;> omega

/-- Where a byte stands among the digits. -/
theorem dig_all : ∀ n : Fin 256, Lib.indexByte [48, 49, 50, 51, 52, 53, 54, 55, 56, 57, 97, 98, 99, 100, 101, 102] (UInt8.ofNat n.val) = hvI (UInt8.ofNat n.val) := by decide +kernel
theorem dig_index (c : UInt8) : Lib.indexByte [48, 49, 50, 51, 52, 53, 54, 55, 56, 57, 97, 98, 99, 100, 101, 102] c = hvI c := by
  have := dig_all ⟨c.toNat, c.toNat_lt⟩
  simpa using this
theorem index_any (c : UInt8) (w : World) :
    Calls Tryd.prog 24 #[.string { data := #[48, 49, 50, 51, 52, 53, 54, 55, 56, 57, 97, 98, 99, 100, 101, 102] }, .int .u8 (c.toNat : Int)] w fun e w' => e = .returned (.int .i64 (hvI c)) ∧ w' = w := by
  refine (Tryd.strings_IndexByte _ _ w).mono ?_
  rintro e w' ⟨rfl, rfl⟩
  refine ⟨ret_int ?_, rfl⟩
  rw [← dig_index c]
  congr 1
  simp

/-- The byte of two digits. -/
theorem or_hex (a b : Nat) (ha : a < 16) (hb : b < 16) : bits .or .i64 ((a : Int) * 16) (b : Int) = ((16 * a + b : Nat) : Int) := by
  have : ∀ a b : Fin 16, bits .or .i64 ((a.val : Int) * 16) (b.val : Int) = ((16 * a.val + b.val : Nat) : Int) := by decide +kernel
  exact this ⟨a, ha⟩ ⟨b, hb⟩
theorem at_drop (s : ByteArray) (k : Nat) (h : k < s.size) : s.data.toList.drop k = s[k] :: s.data.toList.drop (k + 1) := by
  rw [List.drop_eq_getElem_cons (by simpa using h)]; rfl
theorem at_end (s : ByteArray) (k : Nat) (h : s.size ≤ k) : s.data.toList.drop k = [] := List.drop_of_length_le (by simpa using h)
end Go.Proofs.YtmildkjkppnblaaDoor
