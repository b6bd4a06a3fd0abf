/- The law DigestLinear, walked. -/
import Derived.Test.YtebffibdjkjjdaaGK
import Derived.RegionTactic
import Derived.ChangeAlike
set_option linter.unusedVariables false
namespace Go.Proofs.Ytebffibdjkjjdaa
open Go.RowKit

theorem info_u8 : (Try.prog.info? 5).map (fun i => (i.zero, i.size, i.bytes)) = some (some (.int .u8 0), 1, 1) := by kernel_rfl
theorem make_bytes (w : World) (n : Nat) (hn : n ≤ 100000) : ∃ w', (Instr.makeSlice 33 (.int .i64 (n : Int)) (.int .i64 (n : Int))).run Try.prog w = .ok (.slice (some ⟨w.heap.size, 0, none⟩) n n) w' ∧ w'.rowIs w.heap.size 5 n (fun _ => .int .u8 0) ∧ Below w.heap.size w w' :=
  ⟨_, run_make_row' 33 5 (.int .u8 0) 1 Try.underlying33 info_u8 rfl .i64 .i64 n (by omega) (by omega) w, World.rowIs_made w _ n _, (Below.refl _ _).alloc (Nat.le_refl _) _⟩
theorem min_four (w : World) (x y z : Nat) (n : Nat) (hn : min (min (min x y) z) 500 = n) (ts : Array TypeId) (t : TypeId) :
    (Builtin.min_ ts t #[.int .i64 (x : Int), .int .i64 (y : Int), .int .i64 (z : Int), .int .i64 500]).run Try.prog w = .ok (.int .i64 (n : Int)) w := by
  subst hn
  simp [Builtin.min_, Builtin.min2]
  omega
theorem x3_length (l : List UInt8) : ∀ (m n : List UInt8), m.length = l.length → n.length = l.length → (x3 l m n).length = l.length := by
  induction l with
  | nil => intro m n hm hn; rw [List.eq_nil_of_length_eq_zero hm, List.eq_nil_of_length_eq_zero hn]; rfl
  | cons a l ih =>
    intro m n hm hn
    cases m with
    | nil => simp at hm
    | cons b m =>
      cases n with
      | nil => simp at hn
      | cons c n => rw [x3_cons, List.length_cons, ih m n (by simpa using hm) (by simpa using hn), List.length_cons]
theorem x3_at (l : List UInt8) : ∀ (m n : List UInt8) (k : Nat), m.length = l.length → n.length = l.length → k < l.length → (x3 l m n).getD k 0 = l.getD k 0 ^^^ m.getD k 0 ^^^ n.getD k 0 := by
  induction l with
  | nil => intro m n k hm hn hk; simp at hk
  | cons a l ih =>
    intro m n k hm hn hk
    cases m with
    | nil => simp at hm
    | cons b m =>
      cases n with
      | nil => simp at hn
      | cons c n =>
        cases k with
        | zero => rfl
        | succ k =>
          have := ih m n k (by simpa using hm) (by simpa using hn) (by simpa using hk)
          rw [x3_cons]
          simpa using this
theorem xor_u8 (a b : UInt8) : bits .xor .u8 (a.toNat : Int) (b.toNat : Int) = ((a ^^^ b).toNat : Int) := by
  have ha := a.toNat_lt
  have hb := b.toNat_lt
  rw [u8_xor_nat a.toNat b.toNat (by omega) (by omega), UInt8.toNat_xor]
theorem take_at (s : ByteArray) (n k : Nat) (hk : k < n) (hs : k < s.size) : (s.data.toList.take n).getD k 0 = s[k] := by
  simp only [List.getD_eq_getElem?_getD]
  rw [List.getElem?_take_of_lt hk, List.getElem?_eq_getElem (by simpa using hs)]
  rfl
/-- The bytes of the three strings, one with the other. -/
def lin (a b c : ByteArray) (n : Nat) : List UInt8 := x3 (a.data.toList.take n) (b.data.toList.take n) (c.data.toList.take n)
theorem i64_xor3 (a b c : Nat) (ha : a < 4294967296) (hb : b < 4294967296) (hc : c < 4294967296) : bits .xor .i64 (bits .xor .i64 (a : Int) (b : Int)) (c : Int) = ((a ^^^ b ^^^ c : Nat) : Int) := by
  have hx : a ^^^ b < 2 ^ 32 := Nat.xor_lt_two_pow (by omega) (by omega)
  rw [i64_xor_lt a b ha hb, i64_xor_lt _ c (by omega) hc]
theorem row_list {w : World} {b n : Nat} {T : TypeId} {l : List UInt8} (h : w.rowIs b T n fun j => u8v (l.getD j 0)) (hl : l.length = n) (cap : Nat) :
    (convert 33 9 (.slice (some ⟨b, 0, none⟩) n cap)).run Try.prog w = .ok (.string (bs l)) w := by
  have := conv_row (cap := cap) h
  rw [show (List.range n).map (fun j => l.getD j 0) = l by
    apply List.ext_getElem
    · simp [hl]
    · intro i h1 h2
      simp [List.getD, List.getElem?_eq_getElem h2]] at this
  exact this
theorem row_step {w : World} {b n k : Nat} {T : TypeId} {l : List UInt8} (h : w.rowIs b T n fun j => u8v (if j < k then l.getD j 0 else 0)) (v : Value) (hv : v = u8v (l.getD k 0)) :
    (w.setCell ⟨b, k, none⟩ v).rowIs b T n fun j => u8v (if j < k + 1 then l.getD j 0 else 0) := by
  subst hv
  refine (h.set k _).congr fun i hi => ?_
  by_cases e : i = k
  · subst e; simp
  · by_cases e2 : i < k
    · simp [e, e2, show i < k + 1 by omega]
    · simp [e, e2, show ¬ i < k + 1 by omega]

theorem below_drawn {B : Nat} {w w' : World} (h : Below B w w') (n : Nat) : Below B w (w'.drewN n) := ⟨h.os, h.tape, h.output, h.size, h.block⟩

set_option maxRecDepth 100000 in
set_option maxHeartbeats 2000000 in
theorem law_linear (a b c : ByteArray) (w : World) (ha : a.size ≤ 9223372036854775807) (hb : b.size ≤ 9223372036854775807) (hc : c.size ≤ 9223372036854775807) :
    Calls Try.prog 7 #[.string a, .string b, .string c] w (OutT w) := by
  obtain ⟨n, hn⟩ : ∃ n, min (min (min a.size b.size) c.size) 500 = n := ⟨_, rfl⟩
  have hmin := min_four w a.size b.size c.size n hn
  have n1 : n ≤ 500 := by omega
  have na : n ≤ a.size := by omega
  have nb' : n ≤ b.size := by omega
  have nc : n ≤ c.size := by omega
  clear hn
  obtain ⟨w1, hmk, hrow, hb1⟩ := make_bytes w n (by omega)
  have R1 := Lib.hid hrow
  have B1 := Lib.hid hb1
  have hz1 := hb1.size
  clear hrow hb1
  go_enter Try.func7, Try.ntmps7
  go_wp2_with fail
  go_loopw [21] (fun i wr => ∃ k : Nat, k ≤ n ∧ i = .int .i64 k ∧ wr.rowIs w.heap.size 5 n (fun j => u8v (if j < k then (lin a b c n).getD j 0 else 0)) ∧ Below w.heap.size w wr) (fun i _ => n - (intOf i).toNat)
  case atStart => exact ⟨0, Nat.zero_le _, rfl, R1.out.congr fun i hi => by simp, B1.out⟩
  case round =>
    obtain ⟨k, hk, rfl, hrow, hbw⟩ := hrel
    have R := Lib.hid hrow
    have B := Lib.hid hbw
    by_cases hlt : k < n
    · have hfr := hrow.frozen k
      obtain ⟨u, hcl⟩ : ∃ u : UInt8, wr.cell? ⟨w.heap.size, k, none⟩ = some (u8v u) := ⟨_, hrow.cell hlt⟩
      clear hrow hbw
      have k0 : (0 : Int) ≤ (k : Int) := by omega
      have k1 : (k : Int) < (n : Int) := by omega
      have ka : (k : Int) < (a.size : Int) := by omega
      have kb : (k : Int) < (b.size : Int) := by omega
      have kc : (k : Int) < (c.size : Int) := by omega
      have HX := Lib.hid (show (lin a b c n).getD k 0 = a[k] ^^^ b[k] ^^^ c[k] by
        unfold lin
        rw [x3_at _ _ _ k (by rw [List.length_take, List.length_take, toNat_bytes, toNat_bytes]; omega) (by rw [List.length_take, List.length_take, toNat_bytes, toNat_bytes]; omega) (by rw [List.length_take, toNat_bytes]; omega), take_at a n k hlt (by omega), take_at b n k hlt (by omega), take_at c n k hlt (by omega)])
      go_wp2_with fail
      go_region
      go_wp2_with fail
      go_roundw
      case rel => exact ⟨k + 1, by omega, by go_num, (row_step R.out _ (val_int (by rw [xor_u8, xor_u8, HX.out]))).drew, (B.out.setCell (Nat.le_refl _) _).drew⟩
      case measure => simp [intOf]; omega
    · obtain rfl : k = n := by omega
      have RL := Lib.hid (hrow.congr (g := fun j => u8v ((lin a b c k).getD j 0)) fun i hi => by simp [hi])
      clear hrow hbw
      have LA : (a.data.toList.take k).length = k := by rw [List.length_take, toNat_bytes]; omega
      have LB : (b.data.toList.take k).length = k := by rw [List.length_take, toNat_bytes]; omega
      have LC : (c.data.toList.take k).length = k := by rw [List.length_take, toNat_bytes]; omega
      have HL := Lib.hid (show (lin a b c k).length = k by unfold lin; rw [x3_length _ _ _ (by rw [LA, LB]) (by rw [LA, LC]), LA])
      have h16 := lin_c16 (a.data.toList.take k) (b.data.toList.take k) (c.data.toList.take k) (by rw [LA, LB]) (by rw [LA, LC])
      have h32 := lin_c32 (a.data.toList.take k) (b.data.toList.take k) (c.data.toList.take k) (by rw [LA, LB]) (by rw [LA, LC])
      have hsx : (bs (lin a b c k)).size ≤ 100000 := by rw [bs_size, HL.out]; omega
      have X16 := Lib.hid (show bits .xor .i64 (bits .xor .i64 (c16 (a.data.toList.take k) : Int) (c16 (b.data.toList.take k) : Int)) (c16 (c.data.toList.take k) : Int) = ((c16 (lin a b c k) : Nat) : Int) by
        rw [i64_xor3 _ _ _ (Nat.lt_of_lt_of_le (c16_lt _) (by omega)) (Nat.lt_of_lt_of_le (c16_lt _) (by omega)) (Nat.lt_of_lt_of_le (c16_lt _) (by omega)), ← h16]; rfl)
      have X32 := Lib.hid (show bits .xor .i64 (bits .xor .i64 (c32 (a.data.toList.take k) : Int) (c32 (b.data.toList.take k) : Int)) (c32 (c.data.toList.take k) : Int) = ((c32 (lin a b c k) : Nat) : Int) by
        rw [i64_xor3 _ _ _ (c32_lt _) (c32_lt _) (c32_lt _), ← h32]; rfl)
      have sA : (a.extract 0 k).size ≤ 100000 := by rw [ext_take, bs_size, LA]; omega
      have sB : (b.extract 0 k).size ≤ 100000 := by rw [ext_take, bs_size, LB]; omega
      have sC : (c.extract 0 k).size ≤ 100000 := by rw [ext_take, bs_size, LC]; omega
      have DA := Lib.hid (show (a.extract 0 k).data.toList = a.data.toList.take k by rw [ext_take, bs_data])
      have DB := Lib.hid (show (b.extract 0 k).data.toList = b.data.toList.take k by rw [ext_take, bs_data])
      have DC := Lib.hid (show (c.extract 0 k).data.toList = c.data.toList.take k by rw [ext_take, bs_data])
      have SA := Lib.hid sA
      have SB := Lib.hid sB
      have SC := Lib.hid sC
      have SX := Lib.hid hsx
      have k0 : (0 : Int) ≤ (k : Int) := by omega
      have ka : (k : Int) ≤ (a.size : Int) := by omega
      have kb : (k : Int) ≤ (b.size : Int) := by omega
      have kc : (k : Int) ≤ (c.size : Int) := by omega
      clear h16 h32 LA LB LC sA sB sC hsx
      go_wp2_with fail
      go_quiet (fail)
      have hcv := row_list (show (wr.drewN nq).rowIs w.heap.size 5 k fun j => u8v ((lin a b c k).getD j 0) from RL.out) HL.out k
      go_wp2_with fail
      refine (crc16_any _ _ SX.out).mono ?_
      rintro e w2 ⟨rfl, rfl⟩
      rw [bs_data]
      go_wp2_with fail
      refine (crc16_any _ _ SA.out).mono ?_
      rintro e w2 ⟨rfl, rfl⟩
      rw [DA.out]
      go_wp2_with fail
      refine (crc16_any _ _ SB.out).mono ?_
      rintro e w2 ⟨rfl, rfl⟩
      rw [DB.out]
      go_wp2_with fail
      refine (crc16_any _ _ SC.out).mono ?_
      rintro e w2 ⟨rfl, rfl⟩
      rw [DC.out]
      have x16 := X16.out
      go_wp2_with fail
      refine (crc32_any _ _ SX.out).mono ?_
      rintro e w2 ⟨rfl, rfl⟩
      rw [bs_data]
      go_wp2_with fail
      refine (crc32_any _ _ SA.out).mono ?_
      rintro e w2 ⟨rfl, rfl⟩
      rw [DA.out]
      go_wp2_with fail
      refine (crc32_any _ _ SB.out).mono ?_
      rintro e w2 ⟨rfl, rfl⟩
      rw [DB.out]
      go_wp2_with fail
      refine (crc32_any _ _ SC.out).mono ?_
      rintro e w2 ⟨rfl, rfl⟩
      rw [DC.out]
      have x32 := X32.out
      go_wp2_with fail
      refine (awake_any _).mono ?_
      rintro e w2 ⟨rfl, hb2⟩
      have BD := Lib.hid (show Below w.heap.size w (wr.drewN nq) from below_drawn B.out nq)
      have B2 := Lib.hid (BD.out.trans (hb2.mono BD.out.size))
      clear hb2
      go_wp2_with fail
      go_ret
      exact ⟨rfl, B2.out⟩
end Go.Proofs.Ytebffibdjkjjdaa
