/- The contract of num.Digits. -/
import Derived.Test.YtkgbmoiolgpmoaaWalkD
import Derived.Laws.NewBlocks
set_option linter.unusedVariables false
namespace Go.Proofs.Ytkgbmoiolgpmoaa
open Go.RowKit

/-- A row of bytes. -/
def row (xs : List Int) : Array Value := (xs.map (Value.int .u8)).toArray
theorem row_set (xs : List Int) (i : Nat) (v : Int) : (row xs).setIfInBounds i (.int .u8 v) = row (xs.set i v) := by
  unfold row; simp [List.map_set]

theorem row_get (xs : List Int) (i : Nat) (h : i < xs.length) : (row xs)[i]? = some (.int .u8 (xs.getD i 0)) := by
  unfold row
  simp [List.getD, List.getElem?_eq_getElem h]
theorem slice_tail (b q : Nat) (z : Int) (hq : q < 20) (hz : z = q) (W : World) : (Instr.sliceAt 37 (.pointer (some ⟨b, 0, none⟩)) (some (.int .i64 z)) none none).run Try.prog W = .ok (.slice (some ⟨b, q, none⟩) (20 - q) (20 - q)) W := by
  subst hz
  have hl : Try.prog.arrayLen 37 = 20 := by kernel_rfl
  have hs : (sizeOf (Try.prog.elem 37)).run Try.prog W = .ok 1 W := by kernel_rfl
  rw [run_sliceAt_array_l W 37 ⟨b, 0, none⟩ (by kernel_rfl) .i64 (q : Int) (by omega) (by rw [hl]; omega), hs, hl]
  simp only [Result.andThen, slicedAt, Int.toNat_natCast]
  rw [if_neg (by omega)]
  simp [Addr.add]; intro h; exact h.symm
theorem text_tail (w : World) (xs ys : List Int) (q : Nat) (hl : xs.length = 20) (hq : q ≤ 20) (h : xs.drop q = ys) :
    (convert 38 9 (.slice (some ⟨w.heap.size, q, none⟩) (20 - q) (20 - q))).run Try.prog (w.alloc (.cells (row xs) 37)) = .ok (.string (strOfNums ys)) (w.alloc (.cells (row xs) 37)) := by
  subst h
  refine run_convert_bytes_arg (P := Try.prog) (w.alloc (.cells (row xs) 37)) 38 5 Try.underlying38 Try.underlying5 w.heap.size q (20 - q) (20 - q) (xs.drop q) (by simp [hl]) (fun i hi => ?_) 9 Try.underlying9
  rw [World.cell?_alloc_new, row_get xs (q + i) (by omega)]
  simp [List.getD, List.getElem?_drop]

set_option maxHeartbeats 1000000 in
theorem ndig_any (n : Int) (w : World) (hn : I64 n) :
    Calls Try.prog 31 #[.int .i64 n] w fun e w' => e = .returned (.string (digS n)) ∧ Grown w w' := by
  have hx : n.natAbs ≤ 9223372036854775808 := by unfold I64 at hn; omega
  have D := Lib.hid (show digS n = strOfNums (if n < 0 then 45 :: decN n.natAbs else decN n.natAbs) from rfl)
  go_enter Try.func31, Try.ntmps31
  go_wp2_with (go_at_call 35; refine (mag_any _ _ hn).mono ?_; rintro e w' ⟨rfl, rfl⟩)
  generalize n.natAbs = m at *
  go_loopw [4, 5, 8] (fun at' rest i wr => ∃ (k p : Nat) (xs : List Int), k + p = 19 ∧ xs.length = 20 ∧ (k = 0 ∨ m / 10 ^ k ≠ 0) ∧ xs.drop (p + 1) = low k m ∧ at' = .int .i64 ((p : Int) + 1) ∧ rest = .int .u64 (m / 10 ^ k : Nat) ∧ i = .int .i64 k ∧ wr = w.alloc (.cells (row xs) 37)) (fun _ _ i _ => 19 - (intOf i).toNat)
  case atStart => exact ⟨0, 19, List.replicate 20 0, rfl, rfl, Or.inl rfl, rfl, rfl, by simp, rfl, rfl⟩
  case round =>
    obtain ⟨k, p, xs, hkp, hlen, hnz, hlow, hat, hrest, hi, hwr⟩ := hrel
    have hk19 : k < 19 := by
      rcases Nat.lt_or_ge k 19 with h | h
      · exact h
      · exfalso
        obtain rfl : k = 19 := by omega
        rcases hnz with h | h
        · omega
        · exact h (Nat.div_eq_of_lt (by omega))
    obtain ⟨q, rfl⟩ : ∃ q, p = q + 1 := ⟨p - 1, by omega⟩
    have hsucc : m / 10 ^ (k + 1) = m / 10 ^ k / 10 := by rw [Nat.pow_succ, Nat.div_div_eq_div_mul]
    obtain ⟨ys, hys⟩ : ∃ ys, ys = xs.set (q + 1) (48 + ((m / 10 ^ k % 10 : Nat) : Int)) := ⟨_, rfl⟩
    have hyl : ys.length = 20 := by rw [hys, List.length_set, hlen]
    have hyd : ys.drop (q + 1) = low (k + 1) m := by
      show _ = _ :: low k m
      rw [← hlow, hys, List.drop_set, if_neg (by omega), Nat.sub_self, List.drop_eq_getElem_cons (by omega)]
      rfl
    have HF : Hid (m / 10 ^ k < 10 → low (k + 1) m = decN m) := Lib.hid (fun h => decN_low k m hk19 (by rw [hsucc]; generalize m / 10 ^ k = r at h; omega) hnz)
    have hnz2 : 10 ≤ m / 10 ^ k → m / 10 ^ (k + 1) ≠ 0 := by intro h; rw [hsucc]; generalize m / 10 ^ k = r at h; omega
    have hrm : m / 10 ^ k ≤ 9223372036854775808 := Nat.le_trans (Nat.div_le_self _ _) hx
    have hc1 : (row xs)[q + 1]? = some (.int .u8 (xs.getD (q + 1) 0)) := row_get xs (q + 1) (by omega)
    have hc2 : (row ys)[q]? = some (.int .u8 (ys.getD q 0)) := row_get ys q (by omega)
    have hs1 : (row xs).setIfInBounds (q + 1) (.int .u8 (48 + ((m / 10 ^ k : Nat) : Int) % 10)) = row ys := by
      rw [row_set, hys]; rfl
    generalize m / 10 ^ k = r at *
    subst hat hrest hi hwr
    have HYD := Lib.hid hyd
    have HYL := Lib.hid hyl
    have HS := Lib.hid hsucc
    have HN := Lib.hid hnz2
    clear hlow hlen hsucc hnz hyd hyl hnz2 hys
    have hkp2 : k + q ≤ 18 := by omega
    have hkp3 : 18 ≤ k + q := by omega
    clear hkp
    by_cases hz : r < 10
    · have hz' : ((r : Int) / 10 == 0) = true := by simp; omega
      have hdec := HF.out hz
      by_cases hneg : n < 0
      · obtain ⟨zs, hzs⟩ : ∃ zs, zs = ys.set q 45 := ⟨_, rfl⟩
        have hs2 : (row ys).setIfInBounds q (.int .u8 45) = row zs := by rw [row_set, hzs]
        have hsl := slice_tail w.heap.size q q (by omega) rfl
        have hcv := text_tail w zs (45 :: decN m) q (by rw [hzs, List.length_set, HYL.out]) (by omega) (by
          rw [hzs, List.drop_set, if_neg (by omega), Nat.sub_self, List.drop_eq_getElem_cons (by have := HYL.out; omega)]
          show 45 :: _ = _
          rw [HYD.out, hdec])
        have HD := Lib.hid hdec
        clear hdec hzs
        go_wp2_with fail
        go_ret
        exact ⟨ret_str (by rw [D.out, if_pos hneg]), (Grown.refl _).alloc _ _⟩
      · have hsl := slice_tail w.heap.size (q + 1) ((q : Int) + 1) (by omega) (by omega)
        have hcv := text_tail w ys (decN m) (q + 1) HYL.out (by omega) (by rw [HYD.out, hdec])
        rw [show 20 - (q + 1) = 19 - q by omega] at hcv
        have HD := Lib.hid hdec
        clear hdec
        go_wp2_with fail
        go_ret
        exact ⟨ret_str (by rw [D.out, if_neg (by omega)]), (Grown.refl _).alloc _ _⟩
    · have hz' : ((r : Int) / 10 == 0) = false := by simp; omega
      go_wp2_with fail
      go_roundw
      case rel => exact ⟨k + 1, q, ys, by omega, HYL.out, Or.inr (HN.out (by omega)), HYD.out, rfl, val_int (by rw [HS.out]; rfl), rfl, rfl⟩
      case measure => simp [intOf]; omega
end Go.Proofs.Ytkgbmoiolgpmoaa
