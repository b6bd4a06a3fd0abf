/- The examples of the chapter: awake. -/
import Derived.Test.YtebffibdjkjjdaaGB
import Derived.Test.YtebffibdjkjjdaaGE
set_option linter.unusedVariables false
namespace Go.Proofs.Ytebffibdjkjjdaa
open Go.RowKit

theorem x1 : seald 5 [120] = [120] ++ nb 4 (mac 5 [120]) := rfl
theorem opn_seald (k : Nat) (l : List UInt8) : opn k (seald k l) = (l, 0) := by
  have hl := seald_length k l
  have ht : (seald k l).take l.length = l := by unfold seald; simp
  have hd : (seald k l).drop l.length = nb 4 (mac k l) := by unfold seald; simp
  have e : (seald k l).length - 4 = l.length := by omega
  rw [opn_good k _ (by omega) (by rw [e, ht, hd]), e, ht]
theorem k16 : c16 [49, 50, 51, 52, 53, 54, 55, 56, 57] = 10673 := by decide +kernel
theorem k32 : c32 [49, 50, 51, 52, 53, 54, 55, 56, 57] = 3421780262 := by decide +kernel
theorem kfn : fnv [97] = 12638187200555641996 := by decide +kernel
theorem k16e : c16 [] = 65535 := by decide +kernel

/-- True is handed back, and memory has only grown. -/
def OutT (w : World) (e : Ending) (w' : World) : Prop := e = .returned (.bool true) ∧ Below w.heap.size w w'

set_option maxHeartbeats 2000000 in
theorem awake_any (w : World) : Calls Try.prog 10 #[] w (OutT w) := by
  have O1 := Lib.hid (opn_seald 5 [120])
  have O2 := Lib.hid (opn_short 5 [97, 98, 99] (by decide))
  have hbs : (bs [120]).toList = [120] := by rw [Lib.toList_data, bs_data]
  have hl : (bs (seald 5 [120])).size ≤ 50000 := by rw [bs_size, seald_length]; decide
  go_enter Try.func10, Try.ntmps10
  go_wp2_with fail
  refine (seal_any 5 _ _ (by omega) (by decide)).mono ?_
  rintro e w1 ⟨rfl, hb1⟩
  have B1 := Lib.hid hb1
  have hsz := hb1.size
  clear hb1
  go_wp2_with fail
  refine (open_any 5 _ _ (by omega) hl).mono ?_
  rintro e w2 ⟨rfl, hb2⟩
  have B2 := Lib.hid (B1.out.trans (hb2.mono hsz))
  have hsz2 : w.heap.size ≤ w2.heap.size := Nat.le_trans hsz hb2.size
  clear hb2
  (try rw [bs_data])
  (try rw [show (⟨#[120]⟩ : ByteArray).data.toList = [120] from rfl])
  rw [O1.out]
  go_wp2_with fail
  refine (open_any 5 ⟨#[97, 98, 99]⟩ _ (by omega) (by decide)).mono ?_
  rintro e w3 ⟨rfl, hb3⟩
  have B3 := Lib.hid (B2.out.trans (hb3.mono hsz2))
  clear hb3
  (try rw [show (⟨#[97, 98, 99]⟩ : ByteArray).data.toList = [97, 98, 99] from rfl])
  rw [O2.out]
  go_wp2_with fail
  refine (crc16_any _ _ (by decide)).mono ?_
  rintro e w4 ⟨rfl, rfl⟩
  (try rw [show (⟨#[49, 50, 51, 52, 53, 54, 55, 56, 57]⟩ : ByteArray).data.toList = [49, 50, 51, 52, 53, 54, 55, 56, 57] from rfl])
  rw [k16]
  go_wp2_with fail
  refine (crc32_any _ _ (by decide)).mono ?_
  rintro e w4 ⟨rfl, rfl⟩
  (try rw [show (⟨#[49, 50, 51, 52, 53, 54, 55, 56, 57]⟩ : ByteArray).data.toList = [49, 50, 51, 52, 53, 54, 55, 56, 57] from rfl])
  rw [k32]
  go_wp2_with fail
  refine (fnv_any _ _ (by decide)).mono ?_
  rintro e w4 ⟨rfl, rfl⟩
  (try rw [show (⟨#[97]⟩ : ByteArray).data.toList = [97] from rfl])
  rw [kfn]
  go_wp2_with fail
  refine (crc16_any _ _ (by decide)).mono ?_
  rintro e w4 ⟨rfl, rfl⟩
  (try rw [show (ByteArray.empty).data.toList = [] from rfl])
  (try rw [show (⟨#[]⟩ : ByteArray).data.toList = [] from rfl])
  rw [k16e]
  go_wp2_with fail
  go_ret
  exact ⟨rfl, B3.out⟩
end Go.Proofs.Ytebffibdjkjjdaa
