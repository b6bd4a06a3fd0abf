/- Contracts of the encoding functions of wire and of the reference. -/
import Derived.Test.YticlcjabhemdiaaRows
import Derived.Test.YticlcjabhemdiaaWPlain
import Derived.WalkKit
import Derived.WalkSpells
import Derived.WalkLawsBesides
import Derived.Lib.Hide
import Derived.IntWalk
import Derived.Laws.NewBlocks
set_option linter.unusedVariables false
namespace Go.Proofs.Yticlcjabhemdiaa.Wire
open Go.RowKit

theorem ret_int {k : IntKind} {a b : Int} (h : a = b) : Ending.returned (.int k a) = .returned (.int k b) := by rw [h]
theorem ret_str {a b : ByteArray} (h : a = b) : Ending.returned (.string a) = .returned (.string b) := by rw [h]
theorem val_int {k : IntKind} {a b : Int} (h : a = b) : Value.int k a = .int k b := by rw [h]

theorem zig_neg (n : Int) (h : n < 0) : ((zig n : Nat) : Int) = -(2 * n) - 1 := by unfold zig; rw [if_pos h]; omega
theorem zig_pos (n : Int) (h : ¬ n < 0) : ((zig n : Nat) : Int) = 2 * n := by unfold zig; rw [if_neg h]; omega

theorem u64_not (x : Nat) (h : x < 18446744073709551616) : bits .xor .u64 IntKind.u64.max (x : Int) = 18446744073709551615 - (x : Int) := by
  show IntKind.u64.wrap ((BitVec.ofInt 64 IntKind.u64.max ^^^ BitVec.ofInt 64 (x : Int)).toNat : Int) = _
  rw [show BitVec.ofInt 64 IntKind.u64.max = BitVec.allOnes 64 by decide, BitVec.allOnes_xor, BitVec.toNat_not, ofInt_u64 x h, IntKind.wrap_u64]
  omega
theorem u64_not' (x : Int) (h0 : 0 ≤ x) (h : x < 18446744073709551616) : bits .xor .u64 IntKind.u64.max x = 18446744073709551615 - x := by
  obtain ⟨a, rfl⟩ := Int.eq_ofNat_of_zero_le h0
  exact u64_not a (by omega)
theorem u64_wr (n : Int) : IntKind.u64.wrap n = n % 18446744073709551616 := IntKind.wrap_u64 n
theorem zig_form (n : Int) (h1 : -9223372036854775808 ≤ n) (h : n < 0) : bits .xor .u64 IntKind.u64.max (IntKind.u64.wrap (IntKind.u64.wrap n * 2)) = ((zig n : Nat) : Int) := by
  rw [zig_neg n h, u64_not' _ (by rw [u64_wr]; omega) (by rw [u64_wr]; omega), u64_wr, u64_wr]
  omega

theorem zigzag_any (n : Int) (w : World) (hn : I64 n) :
    Calls Try.prog 50 #[.int .i64 n] w fun e w' => e = .returned (.int .u64 (zig n : Nat)) ∧ w = w' := by
  obtain ⟨h1, h2⟩ := hn
  have Z1 := Lib.hid (zig_form n h1)
  have Z2 := Lib.hid (zig_pos n)
  go_enter Try.func50, Try.ntmps50
  go_wp2_with fail
  · go_ret
    exact ⟨ret_int (Z1.out (by assumption)), rfl⟩
  · go_ret
    exact ⟨ret_int (by rw [Z2.out (by omega)]; omega), rfl⟩

/-- Bytes as the cells of a row. -/
def u8s (l : List UInt8) : List Value := l.map fun c => Value.int .u8 (c.toNat : Int)
theorem u8s_append (a b : List UInt8) : u8s a ++ u8s b = u8s (a ++ b) := by unfold u8s; rw [List.map_append]
theorem u8s_length (a : List UInt8) : (u8s a).length = a.length := by unfold u8s; rw [List.length_map]
theorem u8s_one (c : UInt8) : u8s [c] = [.int .u8 (c.toNat : Int)] := rfl
theorem and127 (z : Nat) (h : z < 18446744073709551616) : bits .and .u64 (z : Int) 127 = (z : Int) % 128 := by
  have e := u64_and_nat z 127 h (by omega)
  have e2 := Nat.and_two_pow_sub_one_eq_mod z 7
  simp only [show 2 ^ 7 - 1 = 127 from rfl, show 2 ^ 7 = 128 from rfl] at e2
  rw [e2] at e; exact e.trans (by omega)
theorem or128 (z : Nat) (h : z < 128) : bits .or .u64 (z : Int) 128 = (z : Int) + 128 := by
  have e := u64_or_nat z 128 (by omega) (by omega)
  have e2 := nat_join 7 128 z (by omega) (by omega)
  rw [Nat.or_comm] at e2
  rw [e2] at e; exact e.trans (by omega)
theorem or128m (z : Nat) : bits .or .u64 ((z : Int) % 128) 128 = (z : Int) % 128 + 128 := by
  have := or128 (z % 128) (by omega)
  rw [show ((z % 128 : Nat) : Int) = (z : Int) % 128 by omega] at this
  exact this

theorem u8s_snoc (ys : List UInt8) (z : Nat) (h : z < 256) : u8s ys ++ [.int .u8 (z : Int)] = u8s (ys ++ [UInt8.ofNat z]) := by
  rw [← u8s_append, u8s_one, toNat_small z h]
theorem u8s_snoc' (ys : List UInt8) (z : Nat) : u8s ys ++ [.int .u8 ((z : Int) % 128 + 128)] = u8s (ys ++ [UInt8.ofNat (z % 128 + 128)]) := by
  rw [← u8s_snoc ys (z % 128 + 128) (by omega)]; rfl
theorem snoc_len (ys : List UInt8) (c : UInt8) : (ys ++ [c]).length = ys.length + 1 := by simp
/-- The cell of a new row of one element. -/
theorem one_cell (w : World) (c : Value) (T : TypeId) : ∀ (j : Nat) (u : Value), [c][j]? = some u → (w.alloc (Obj.cells #[c] T)).cell? ({ block := w.heap.size, off := 0 : Addr }.add j) = some u := by
  intro j u h
  cases j with
  | zero => simp at h; subst h; simp [Addr.add, World.cell?_alloc_new]
  | succ j => simp at h

/-- A row of the call's own that reads as these bytes is handed back. -/
def OutB (base : Nat) (w : World) (ys : List UInt8) (e : Ending) (w' : World) : Prop :=
  ∃ v, e = .returned v ∧ w'.ownsRow base 5 1 v ys.length (u8s ys) ∧ Below base w w'

theorem info_u8 : (Try.prog.info? 5).map (fun i => (i.zero, i.size, i.bytes)) = some (some (.int .u8 0), 1, 1) := by kernel_rfl

set_option maxHeartbeats 1000000 in
theorem app_any (base : Nat) (v : Value) (xs : List UInt8) (m : Int) (w : World) (hm : I64 m) (hown0 : w.ownsRow base 5 1 v xs.length (u8s xs)) (hb : base ≤ w.heap.size) (hn : xs.length ≤ 100000) :
    Calls Try.prog 40 #[v, .int .i64 m] w (OutB base w (xs ++ enI m)) := by
  obtain ⟨i0, hi, hz0, hz1, hz2⟩ := info_parts info_u8
  have hz := zig_lt m hm
  have E := Lib.hid (show enI m = en 10 (zig m) from rfl)
  go_enter Try.func40, Try.ntmps40
  go_wp2_with fail
  refine (zigzag_any _ _ hm).mono ?_
  rintro e w' ⟨rfl, rfl⟩
  go_wp2_with fail
  go_loopw [0, 5] (fun v form wr => ∃ (f z : Nat) (ys : List UInt8), z < 18446744073709551616 ∧ form = .int .u64 (z : Nat) ∧ ys ++ en (f + 1) z = xs ++ enI m ∧ ys.length + f + 1 ≤ xs.length + 10 ∧ z < 128 ^ (f + 1) ∧ wr.ownsRow base 5 1 v ys.length (u8s ys) ∧ Below base w wr) (fun _ form _ => (intOf form).toNat)
  case atStart => exact ⟨9, zig m, xs, hz, rfl, by rw [E.out], by omega, by omega, hown0, Below.refl _ _⟩
  case round =>
    obtain ⟨f, z, ys, hzl, rfl, hys, hlen, hzf, hown, hnx⟩ := hrel
    have HY := Lib.hid hys
    have hA := and127 z hzl
    have hO := or128m z
    have hsz := hnx.size
    clear hys
    have hz7 : z / 128 < 18446744073709551616 := by omega
    have hbw : base ≤ wr.heap.size := by omega
    have HL := Lib.hid (fun k (hk : u0.ownBlock = some k) => (hown.lt k hk).1)
    by_cases h : z < 128
    · have ES := Lib.hid (en_small f z h)
      go_wp2_with (at_builtin; refine wpList_append_own _ rfl (.tmp 19) (.tmp 22) 62 rfl base 5 i0 (.int .u8 0) 1 1 Try.underlying62 hi hz0 hz1 hz2 rfl (by decide) _ _ _ rfl (hown.alloc _) ⟨wr.heap.size, 0, none⟩ 1 1 [.int .u8 (z : Int)] rfl rfl (one_cell _ _ _) ?c2 ?c3 ?c4 ?c5 ?_)
      case c2 => intro u hu; simp at hu; subst hu; rfl
      case c3 => unfold maxLen; omega
      case c4 => omega
      case c5 => simp; omega
      intro v' w1 hown' hgrow _
      have R := Lib.hid hown'
      clear hown' hown
      go_wp2_with fail
      go_ret
      refine ⟨_, rfl, ?_, (hnx.alloc hbw _).grown hgrow (by simp; omega) HL.out⟩
      have := R.out
      rw [u8s_snoc ys z (by omega)] at this
      rw [← HY.out, ES.out, snoc_len]; exact this
    · have EB := Lib.hid (en_big f z h)
      have hf : 1 ≤ f := by
        rcases Nat.eq_zero_or_pos f with e | e
        · subst e; omega
        · exact e
      obtain ⟨g, rfl⟩ : ∃ g, f = g + 1 := ⟨f - 1, by omega⟩
      have hp := p128 (g + 1)
      have hzg : z / 128 < 128 ^ (g + 1) := by rw [Nat.div_lt_iff_lt_mul (by omega)]; omega
      have HP := Lib.hid hzg
      clear hp hzg hzf
      go_wp2_with (at_builtin; refine wpList_append_own _ rfl (.tmp 10) (.tmp 15) 62 rfl base 5 i0 (.int .u8 0) 1 1 Try.underlying62 hi hz0 hz1 hz2 rfl (by decide) _ _ _ rfl (hown.alloc _) ⟨wr.heap.size, 0, none⟩ 1 1 [.int .u8 ((z : Int) % 128 + 128)] rfl rfl (one_cell _ _ _) ?c2 ?c3 ?c4 ?c5 ?_)
      case c2 => intro u hu; simp at hu; subst hu; rfl
      case c3 => unfold maxLen; omega
      case c4 => omega
      case c5 => simp; omega
      intro v' w1 hown' hgrow _
      have R := Lib.hid hown'
      clear hown' hown
      go_wp2_with fail
      go_roundw
      case rel =>
        refine ⟨g, z / 128, ys ++ [UInt8.ofNat (z % 128 + 128)], hz7, by go_num, by rw [← HY.out, EB.out]; simp, by rw [snoc_len]; omega, HP.out, ?_, (hnx.alloc hbw _).grown hgrow (by simp; omega) HL.out⟩
        have := R.out
        rw [u8s_snoc' ys z] at this
        rw [snoc_len]; exact this
      case measure => simp [intOf]; omega

theorem conv_own {w : World} {base n : Nat} {v : Value} {ys : List UInt8} (h : w.ownsRow base 5 1 v n (u8s ys)) :
    (convert 62 9 v).run Try.prog w = .ok (.string (bs ys)) w := by
  have hl := h.1
  rw [u8s_length] at hl
  rcases h.2 with ⟨rfl, h0⟩ | ⟨g, cap, cur, rfl, h2, h3, h4⟩
  · rw [run_convert_bytes_nil w 62 5 Try.underlying62 Try.underlying5 0 0 9 Try.underlying9]
    have : ys = [] := List.eq_nil_of_length_eq_zero (by omega)
    subst this; rfl
  · rw [← str_bs]
    refine run_convert_bytes_arg w 62 5 Try.underlying62 Try.underlying5 g 0 n cap _ (by simp; omega) (fun i hi => ?_) 9 Try.underlying9
    have := h.cells (g := g) rfl i (.int .u8 ((ys.map fun c => (c.toNat : Int)).getD i 0)) (by
      unfold u8s
      rw [List.getElem?_map]
      have hi2 : i < ys.length := by omega
      simp [List.getD, List.getElem?_eq_getElem hi2])
    rw [show ({ block := g, off := 0, spot := none : Addr }.add i) = ⟨g, i, none⟩ by unfold Addr.add; split <;> simp_all] at this
    rw [Nat.zero_add]; exact this

/-- A string is handed back, and memory has only grown. -/
def OutS (w : World) (s : ByteArray) (e : Ending) (w' : World) : Prop := e = .returned (.string s) ∧ Below w.heap.size w w'

set_option maxHeartbeats 400000 in
theorem int_any (n : Int) (w : World) (hn : I64 n) :
    Calls Try.prog 26 #[.int .i64 n] w (OutS w (bs (enI n))) := by
  have N := World.ownsRow_nil w w.heap.size 5 1
  go_enter Try.func26, Try.ntmps26
  go_wp2_with fail
  refine (app_any w.heap.size _ [] n _ hn N (Nat.le_refl _) (by simp)).mono ?_
  rintro e w' ⟨v, rfl, hown, hb⟩
  have hcv := conv_own hown
  simp only [List.nil_append] at hcv
  go_wp2_with fail
  go_ret
  exact ⟨rfl, hb⟩

theorem toNat_bytes (s : ByteArray) : s.data.toList.length = s.size := by simp

/-- The bytes of a string's encoding. -/
def enT (s : ByteArray) : List UInt8 := enI s.size ++ s.data.toList
theorem enT_str (s : ByteArray) : bs (enI s.size) ++ s = bs (enT s) := by
  apply of_data; unfold enT; simp [bs]
theorem enI_length (n : Int) : (enI n).length ≤ 10 := en_length 10 _
theorem enT_length (s : ByteArray) : (enT s).length ≤ s.size + 10 := by
  have := enI_length s.size
  unfold enT; rw [List.length_append, toNat_bytes]; omega
theorem nat_i64 (n : Nat) (h : n ≤ 1000000) : I64 (n : Int) := by unfold I64; omega

set_option maxHeartbeats 400000 in
theorem text_any (s : ByteArray) (w : World) (hs : s.size ≤ 100000) :
    Calls Try.prog 27 #[.string s] w (OutS w (bs (enT s))) := by
  have E := Lib.hid (enT_str s)
  have hl : (bs (enI s.size)).size ≤ 10 := by rw [bs_size]; exact enI_length _
  go_enter Try.func27, Try.ntmps27
  go_wp2_with fail
  refine (int_any s.size _ (nat_i64 _ (by omega))).mono ?_
  rintro e w' ⟨rfl, hb⟩
  go_wp2_with fail
  go_ret
  exact ⟨ret_str E.out, hb⟩

/-- The byte of a boolean. -/
def enB (b : Bool) : List UInt8 := if b then [1] else [0]
/-- The slice value with this address reads as these numbers, below block B. -/
def IntsAt (w : World) (B : Nat) (A : Option Addr) (l : List Int) : Prop :=
  0 < l.length → ∃ b o, A = some ⟨b, o, none⟩ ∧ b < B ∧ ∀ i, i < l.length → w.cell? ⟨b, o + i, none⟩ = some (.int .i64 (l.getD i 0))
theorem IntsAt.below {w w' : World} {B : Nat} {A : Option Addr} {l : List Int} (h : IntsAt w B A l) (hb : Below B w w') : IntsAt w' B A l := by
  intro h0
  obtain ⟨b, o, e, hl, hc⟩ := h h0
  exact ⟨b, o, e, hl, fun i hi => (hb.cell (p := ⟨b, o + i, none⟩) hl).trans (hc i hi)⟩
theorem IntsAt.more {w : World} {B B' : Nat} {A : Option Addr} {l : List Int} (h : IntsAt w B A l) (hb : B ≤ B') : IntsAt w B' A l := by
  intro h0
  obtain ⟨b, o, e, hl, hc⟩ := h h0
  exact ⟨b, o, e, by omega, hc⟩

/-- The encodings of numbers one after the other. -/
def enAll (l : List Int) : List UInt8 := l.flatMap enI
/-- The bytes of a list's encoding. -/
def enL (l : List Int) : List UInt8 := enI l.length ++ enAll l
theorem enAll_snoc (l : List Int) (k : Nat) (h : k < l.length) : enAll (l.take (k + 1)) = enAll (l.take k) ++ enI (l.getD k 0) := by
  unfold enAll
  rw [List.take_succ_eq_append_getElem h, List.flatMap_append]
  simp [List.getD, List.getElem?_eq_getElem h]
theorem enAll_length (l : List Int) : (enAll l).length ≤ 10 * l.length := by
  induction l with
  | nil => simp [enAll]
  | cons a l ih =>
    have := enI_length a
    unfold enAll at *
    simp only [List.flatMap_cons, List.length_append, List.length_cons]; omega
theorem enL_length (l : List Int) : (enL l).length ≤ 10 + 10 * l.length := by
  unfold enL; have := enI_length l.length; have := enAll_length l; rw [List.length_append]; omega
theorem all64 {l : List Int} (h : ∀ n ∈ l, I64 n) (k : Nat) (hk : k < l.length) : I64 (l.getD k 0) := by
  apply h; simp [List.getD, List.getElem?_eq_getElem hk]

end Go.Proofs.Yticlcjabhemdiaa.Wire
