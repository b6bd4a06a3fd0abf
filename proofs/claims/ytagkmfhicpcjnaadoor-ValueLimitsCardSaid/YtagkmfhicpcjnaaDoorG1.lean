/- Texts of this proof, one behind the other: no claim of its own. -/
import Derived.Test.YtagkmfhicpcjnaaDoorRows
import Derived.WalkKit
import Derived.ProofKit
import Derived.OpenShut
import Derived.Carry
import Derived.Deep.Slices
import Derived.Deep.Fields
import Derived.Laws.BitsAllLaws
import Derived.Laws.Bits128
import Derived.Laws.BytesArg
import Derived.Lib.Strings
import Derived.WalkSpells
import Derived.WalkLawsBesides
import Derived.Lib.Hide
import Derived.IntWalk
import Derived.Laws.NewBlocks
import Derived.Deep.QuietTactic
import Derived.BigQuiet
import Derived.Laws.DeepNot64
import Derived.LoopN
import Derived.Laws.RangeAny
import Derived.Shelf.Small.Strs
import Derived.Shelf.Strings.Search1
import Derived.Shelf.Strings.Prefix
import Derived.Shelf.Unicode.Decode
import Derived.Shelf.Unicode.DecodeSlow
import Derived.Shelf.Unicode.DecodeAny
import Derived.Test.YtagkmfhicpcjnaaDoorProg
import Derived.Lib.OthersKept
import Derived.BigCall
import Derived.Lib.RuneCountTail
import Derived.Deep.RegionHeld3
import Derived.Deep.AppendLies
/- The last step of a law's row, for every seat: what was there is left alone; small facts of addresses. -/
set_option linter.unusedVariables false
set_option maxRecDepth 100000
namespace Go.Proofs.YtagkmfhicpcjnaaDoor
open Go.RowKit Go.ChangeShapes Go.WideShapes

theorem laidAll : laidOutB Tryd.prog = true := by kernel_rfl

section
variable {H : Type} {enc : TypeId × Value → H}

theorem plain_of {w : World} {a : Addr} {v : Value} (h : w.cell? a = some v) : ∃ b o, a = ⟨b, o, none⟩ := by
  obtain ⟨b, o, s⟩ := a
  have : s = none := World.cell?_spot h
  subst this
  exact ⟨b, o, rfl⟩
theorem add_off (b o n : Nat) : ({ block := b, off := o, spot := none : Addr }).add n = ⟨b, o + n, none⟩ := by
  unfold Addr.add; split <;> simp_all
theorem add_none (a : Addr) : a.add 0 = a := by unfold Addr.add; simp

theorem list_of {α : Type} (n : Nat) {p : Nat → α → Prop} (h : ∀ i, i < n → ∃ a, p i a) : ∃ l : List α, l.length = n ∧ ∀ i (hi : i < l.length), p i l[i] := by
  induction n with
  | zero => exact ⟨[], rfl, fun i hi => absurd hi (by simp)⟩
  | succ n ih =>
    obtain ⟨l, hl, hp⟩ := ih fun i hi => h i (by omega)
    obtain ⟨a, ha⟩ := h n (by omega)
    refine ⟨l ++ [a], by simp [hl], fun i hi => ?_⟩
    by_cases e : i < l.length
    · rw [List.getElem_append_left e]; exact hp i e
    · have : i = n := by simp at hi; omega
      subst this
      rw [List.getElem_append_right (by omega)]
      simp [hl, ha]

/-- What lies below the old end of memory reads as it did. -/
theorem trodAll_below {W W' : World} (hb : Below W.heap.size W W') : ∀ (ts : List TypeId) (vs : List Value) (ds : List (DataW H)) (ps : List MemPlace),
    (∀ t ∈ ts, Tryd.prog.readableRec t = true ∧ t < Tryd.prog.types.size) → DataW.TrodAll enc Tryd.prog W 0 (fun _ => true) true ts vs ds ps → (∀ x ∈ ps, x.block < W.heap.size) →
    DataW.TrodAll enc Tryd.prog W' 0 (fun b => decide (b < W.heap.size)) true ts vs ds ps := by
  intro ts
  induction ts with
  | nil =>
    intro vs ds ps _ h _
    cases vs <;> cases ds <;> simp [DataW.TrodAll] at h ⊢
    exact h
  | cons t ts ih =>
    intro vs ds ps hr h hlt
    obtain ⟨v, vs', d, ds', p, q, rfl, rfl, rfl, h1, h2⟩ := trodAll_cons h
    obtain ⟨r1, r2⟩ := hr t List.mem_cons_self
    exact trodAll_cons_mk (Below.trod laidAll r1 r2 h1 hb fun x hx => hlt x (List.mem_append_left _ hx)) (ih _ _ _ (fun t ht => hr t (List.mem_cons_of_mem _ ht)) h2 fun x hx => hlt x (List.mem_append_right _ hx))

/-- The last step of a law's row: it returned true and left all that was there alone. -/
theorem law_post {f : Func} {s : ChangeSpec} {W W' : World} {args : Array Value} {ds : List (DataW H)} {ps : List MemPlace}
    (hvars : s.vars = []) (hres : f.resultTypes = #[4]) (hfn : (s.fn H (ds ++ [])).results = [.lit (.bool true)]) (hfa : (s.fn H (ds ++ [])).args = ds) (hfv : (s.fn H (ds ++ [])).vars = [])
    (hr : ∀ t ∈ f.params.toList, Tryd.prog.readableRec t = true ∧ t < Tryd.prog.types.size)
    (hW : DataW.Whole enc Tryd.prog f.params.toList s.vars false W args.toList ds [] ps) (hA : DataW.TrodAll enc Tryd.prog W 0 (fun _ => true) true f.params.toList args.toList ds ps) (hb : Below W.heap.size W W') :
    s.post enc Tryd.prog f false true false false W args (.bool true) W' := by
  refine ⟨ds, [], ps, [], ps, [], hW, ?_, ?_, ?_, hb.frame _, fun h => by cases h⟩
  · rw [hres, hfn]
    exact trodAll_cons_mk (p := []) (p' := []) (shut_bool Tryd.underlying4 _) trodAll_mk0
  · rw [hfa]
    exact trodAll_below hb _ _ _ _ hr hA fun x hx => hW.lt x hx
  · rw [hvars, hfv]
    rfl
end
end Go.Proofs.YtagkmfhicpcjnaaDoor
/- Plain mathematics of the binary encoding; no program in sight. -/
set_option linter.unusedVariables false
set_option maxRecDepth 100000
namespace Go.Proofs.YtagkmfhicpcjnaaDoor.Wire
open Go.RowKit

/-- The number fits an int. -/
def I64 (n : Int) : Prop := -9223372036854775808 ≤ n ∧ n ≤ 9223372036854775807

/-- The zigzag form of a number. -/
def zig (n : Int) : Nat := if n < 0 then (-(2 * n) - 1).toNat else (2 * n).toNat
/-- The number of a zigzag form. -/
def unzig (z : Nat) : Int := if z % 2 = 1 then -1 - ((z / 2 : Nat) : Int) else ((z / 2 : Nat) : Int)

theorem zig_lt (n : Int) (h : I64 n) : zig n < 18446744073709551616 := by unfold I64 at h; unfold zig; split <;> omega
theorem unzig_zig (n : Int) : unzig (zig n) = n := by unfold unzig zig; split <;> split <;> omega
theorem zig_unzig (z : Nat) : zig (unzig z) = z := by unfold unzig zig; split <;> split <;> omega
theorem unzig_in (z : Nat) (h : z < 18446744073709551616) : I64 (unzig z) := by unfold I64 unzig; split <;> omega

/-- The groups of a form, at most f of them. -/
def en : Nat → Nat → List UInt8
  | 0, _ => []
  | f + 1, z => if z < 128 then [UInt8.ofNat z] else UInt8.ofNat (z % 128 + 128) :: en f (z / 128)

theorem en_small (f z : Nat) (h : z < 128) : en (f + 1) z = [UInt8.ofNat z] := by unfold en; rw [if_pos h]
theorem en_big (f z : Nat) (h : ¬ z < 128) : en (f + 1) z = UInt8.ofNat (z % 128 + 128) :: en f (z / 128) := by
  conv => lhs; unfold en
  rw [if_neg h]
theorem en_length (f : Nat) : ∀ z, (en f z).length ≤ f := by
  induction f with
  | zero => intro z; simp [en]
  | succ f ih =>
    intro z
    by_cases h : z < 128
    · rw [en_small f z h]; simp
    · rw [en_big f z h]; have := ih (z / 128); simp; omega
theorem en_pos (f z : Nat) : 0 < (en (f + 1) z).length := by
  by_cases h : z < 128
  · rw [en_small f z h]; simp
  · rw [en_big f z h]; simp

/-- The bytes of a number's encoding. -/
def enI (n : Int) : List UInt8 := en 10 (zig n)
/-- A list of bytes as a string. -/
def bs (l : List UInt8) : ByteArray := ⟨l.toArray⟩
theorem bs_data (l : List UInt8) : (bs l).data.toList = l := rfl
theorem bs_size (l : List UInt8) : (bs l).size = l.length := by simp [bs, ByteArray.size]
theorem bs_inj {a b : List UInt8} (h : bs a = bs b) : a = b := by have := congrArg (fun s => s.data.toList) h; simpa [bs] using this
theorem of_data {s t : ByteArray} (h : s.data.toList = t.data.toList) : s = t := by
  apply ByteArray.ext; exact Array.toList_inj.1 h
theorem bs_append (a b : List UInt8) : bs a ++ bs b = bs (a ++ b) := of_data (by simp [bs])
theorem str_bs (l : List UInt8) : strOfNums (l.map fun c => (c.toNat : Int)) = bs l := by
  apply of_data
  rw [strOfNums_data, bs_data, List.map_map]
  conv => rhs; rw [← List.map_id l]
  apply List.map_congr_left
  intro c _
  simp

/-- Reading a form: the form, the number of its bytes, the error. -/
def rd : Nat → Nat → List UInt8 → Nat × Nat × Int
  | _, _, [] => (0, 0, 5)
  | i, acc, c :: l =>
    if (0 < i ∧ c.toNat = 0) ∨ (i = 9 ∧ 1 < c.toNat) then (0, 0, 4)
    else if c.toNat < 128 then (acc + c.toNat * 128 ^ i, i + 1, 0)
    else rd (i + 1) (acc + c.toNat % 128 * 128 ^ i) l

theorem rd_nil (i acc : Nat) : rd i acc [] = (0, 0, 5) := rfl
theorem rd_bad (i acc : Nat) (c : UInt8) (l : List UInt8) (h : (0 < i ∧ c.toNat = 0) ∨ (i = 9 ∧ 1 < c.toNat)) : rd i acc (c :: l) = (0, 0, 4) := by
  conv => lhs; unfold rd
  rw [if_pos h]
theorem rd_last (i acc : Nat) (c : UInt8) (l : List UInt8) (h : ¬ ((0 < i ∧ c.toNat = 0) ∨ (i = 9 ∧ 1 < c.toNat))) (h2 : c.toNat < 128) :
    rd i acc (c :: l) = (acc + c.toNat * 128 ^ i, i + 1, 0) := by
  conv => lhs; unfold rd
  rw [if_neg h, if_pos h2]
theorem rd_more (i acc : Nat) (c : UInt8) (l : List UInt8) (h : ¬ (i = 9 ∧ 1 < c.toNat)) (h2 : ¬ c.toNat < 128) :
    rd i acc (c :: l) = rd (i + 1) (acc + c.toNat % 128 * 128 ^ i) l := by
  conv => lhs; unfold rd
  rw [if_neg (by omega), if_neg h2]

theorem p128 (i : Nat) : 128 ^ (i + 1) = 128 ^ i * 128 := Nat.pow_succ ..

/-- The ways in which reading can end. -/
theorem rd_ends (l : List UInt8) : ∀ (i acc : Nat), i ≤ 9 → acc < 128 ^ i →
    (rd i acc l = (0, 0, 4) ∨ rd i acc l = (0, 0, 5) ∨ ∃ v n, rd i acc l = (v, n, 0) ∧ v < 18446744073709551616 ∧ i < n ∧ n ≤ 10 ∧ n ≤ i + l.length) := by
  induction l with
  | nil => intro i acc hi ha; exact Or.inr (Or.inl rfl)
  | cons c l ih =>
    intro i acc hi ha
    by_cases h : (0 < i ∧ c.toNat = 0) ∨ (i = 9 ∧ 1 < c.toNat)
    · exact Or.inl (rd_bad i acc c l h)
    · by_cases h2 : c.toNat < 128
      · refine Or.inr (Or.inr ⟨_, _, rd_last i acc c l h h2, ?_, by omega, by omega, by simp⟩)
        by_cases h9 : i = 9
        · subst h9
          have : c.toNat ≤ 1 := by omega
          have h3 : c.toNat * 128 ^ 9 ≤ 1 * 128 ^ 9 := Nat.mul_le_mul_right _ this
          omega
        · have h3 : c.toNat * 128 ^ i ≤ 127 * 128 ^ i := Nat.mul_le_mul_right _ (by omega)
          have h4 : 128 ^ i ≤ 128 ^ 8 := Nat.pow_le_pow_right (by omega) (by omega)
          omega
      · rw [rd_more i acc c l (by omega) h2]
        have h9 : i ≠ 9 := by omega
        have h3 : c.toNat % 128 * 128 ^ i ≤ 127 * 128 ^ i := Nat.mul_le_mul_right _ (by omega)
        rcases ih (i + 1) (acc + c.toNat % 128 * 128 ^ i) (by omega) (by rw [p128]; omega) with e | e | ⟨v, n, e, h5, h6, h7, h8⟩
        · exact Or.inl e
        · exact Or.inr (Or.inl e)
        · exact Or.inr (Or.inr ⟨v, n, e, h5, by omega, h7, by simp; omega⟩)

theorem toNat_small (z : Nat) (h : z < 256) : (UInt8.ofNat z).toNat = z := by rw [UInt8.toNat_ofNat']; omega

/-- What was encoded is read back. -/
theorem rd_en (f : Nat) : ∀ (i z acc : Nat) (t : List UInt8), f + i = 10 → z * 128 ^ i < 18446744073709551616 → (0 < i → 0 < z) →
    rd i acc (en f z ++ t) = (acc + z * 128 ^ i, i + (en f z).length, 0) := by
  induction f with
  | zero =>
    intro i z acc t hf hz hp
    obtain rfl : i = 10 := by omega
    have := hp (by omega)
    have h1 : 1 * 128 ^ 10 ≤ z * 128 ^ 10 := Nat.mul_le_mul_right _ this
    omega
  | succ f ih =>
    intro i z acc t hf hz hp
    by_cases h : z < 128
    · rw [en_small f z h]
      have ht := toNat_small z (by omega)
      have hc : ¬ ((0 < i ∧ (UInt8.ofNat z).toNat = 0) ∨ (i = 9 ∧ 1 < (UInt8.ofNat z).toNat)) := by
        rw [ht]
        rintro (⟨h1, h2⟩ | ⟨h1, h2⟩)
        · have := hp h1; omega
        · subst h1
          have h3 : 2 * 128 ^ 9 ≤ z * 128 ^ 9 := Nat.mul_le_mul_right _ (by omega)
          omega
      show rd i acc (UInt8.ofNat z :: t) = _
      rw [rd_last i acc _ t hc (by omega), ht]; rfl
    · rw [en_big f z h]
      have ht := toNat_small (z % 128 + 128) (by omega)
      have h9 : i ≠ 9 := by
        rintro rfl
        have h3 : 128 * 128 ^ 9 ≤ z * 128 ^ 9 := Nat.mul_le_mul_right _ (by omega)
        omega
      show rd i acc (UInt8.ofNat (z % 128 + 128) :: (en f (z / 128) ++ t)) = _
      rw [rd_more i acc _ _ (by omega) (by omega), ht, show (z % 128 + 128) % 128 = z % 128 by omega]
      have hs : z / 128 * 128 ^ (i + 1) + z % 128 * 128 ^ i = z * 128 ^ i := by
        rw [p128, Nat.mul_comm (128 ^ i) 128, ← Nat.mul_assoc, ← Nat.add_mul, Nat.div_add_mod' z 128]
      rw [ih (i + 1) (z / 128) _ t (by omega) (by omega) (by omega)]
      simp only [List.length_cons, Prod.mk.injEq, and_true]
      omega

/-- What is read is the encoding of its form. -/
theorem en_rd (l : List UInt8) : ∀ (i acc v n : Nat), i ≤ 9 → rd i acc l = (v, n, 0) →
    ∃ z, v = acc + z * 128 ^ i ∧ z * 128 ^ i < 18446744073709551616 ∧ i < n ∧ n - i ≤ l.length ∧ l.take (n - i) = en (10 - i) z := by
  induction l with
  | nil => intro i acc v n hi h; rw [rd_nil] at h; cases h
  | cons c l ih =>
    intro i acc v n hi h
    by_cases h1 : (0 < i ∧ c.toNat = 0) ∨ (i = 9 ∧ 1 < c.toNat)
    · rw [rd_bad i acc c l h1] at h; cases h
    · obtain ⟨f, hf⟩ : ∃ f, 10 - i = f + 1 := ⟨9 - i, by omega⟩
      by_cases h2 : c.toNat < 128
      · rw [rd_last i acc c l h1 h2] at h
        cases h
        refine ⟨c.toNat, rfl, ?_, by omega, by simp, ?_⟩
        · by_cases h9 : i = 9
          · subst h9
            have h3 : c.toNat * 128 ^ 9 ≤ 1 * 128 ^ 9 := Nat.mul_le_mul_right _ (by omega)
            omega
          · have h3 : c.toNat * 128 ^ i ≤ 127 * 128 ^ i := Nat.mul_le_mul_right _ (by omega)
            have h4 : 128 ^ i ≤ 128 ^ 8 := Nat.pow_le_pow_right (by omega) (by omega)
            omega
        · rw [show i + 1 - i = 1 by omega, hf, en_small f _ h2]
          simp
      · have h9 : i ≠ 9 := by omega
        rw [rd_more i acc c l (by omega) h2] at h
        obtain ⟨z, hv, hz, hn, hl, ht⟩ := ih (i + 1) _ v n (by omega) h
        have hs : (z * 128 + c.toNat % 128) * 128 ^ i = z * 128 ^ (i + 1) + c.toNat % 128 * 128 ^ i := by
          rw [p128, Nat.add_mul, Nat.mul_assoc, Nat.mul_comm 128 (128 ^ i)]
        have hzpos : 0 < z := by
          rcases Nat.eq_zero_or_pos z with e | e
          · subst e
            exfalso
            rw [show 10 - (i + 1) = (8 - i) + 1 by omega, en_small _ 0 (by omega)] at ht
            have hl1 : (l.take (n - (i + 1))).length = 1 := by rw [ht]; rfl
            cases l with
            | nil => simp at hl; omega
            | cons d l =>
              rw [List.length_take] at hl1
              have hn1 : n - (i + 1) = 1 := by simp at hl1 hl; omega
              rw [hn1] at ht
              have hd : d = UInt8.ofNat 0 := by simpa using ht
              rw [rd_bad (i + 1) _ d l (Or.inl ⟨by omega, by rw [hd]; rfl⟩)] at h
              cases h
          · exact e
        refine ⟨z * 128 + c.toNat % 128, by omega, ?_, by omega, by simp; omega, ?_⟩
        · have hc : c.toNat % 128 * 128 ^ i ≤ 127 * 128 ^ i := Nat.mul_le_mul_right _ (by omega)
          rw [hs]
          have hdiv : 128 ^ (i + 1) * (18446744073709551616 / 128 ^ (i + 1)) = 18446744073709551616 := by
            have : i = 0 ∨ i = 1 ∨ i = 2 ∨ i = 3 ∨ i = 4 ∨ i = 5 ∨ i = 6 ∨ i = 7 ∨ i = 8 := by omega
            rcases this with e | e | e | e | e | e | e | e | e <;> subst e <;> decide +kernel
          have hlt : z < 18446744073709551616 / 128 ^ (i + 1) := by
            rw [Nat.lt_div_iff_mul_lt' (by exact ⟨_, hdiv.symm⟩)]
            rw [Nat.mul_comm]; exact hz
          have h5 : (z + 1) * 128 ^ (i + 1) ≤ 18446744073709551616 / 128 ^ (i + 1) * 128 ^ (i + 1) := Nat.mul_le_mul_right _ hlt
          rw [Nat.mul_comm (18446744073709551616 / 128 ^ (i + 1)), hdiv, Nat.add_mul] at h5
          rw [p128] at h5 hz ⊢
          have hpos : 0 < 128 ^ i := Nat.pow_pos (by omega)
          omega
        · rw [hf, en_big f _ (by omega), show n - i = (n - (i + 1)) + 1 by omega, List.take_succ_cons, ht]
          rw [show (z * 128 + c.toNat % 128) / 128 = z by omega, show (z * 128 + c.toNat % 128) % 128 = c.toNat % 128 by omega, show 10 - (i + 1) = f by omega]
          congr 1
          apply UInt8.toNat_inj.1
          have := c.toNat_lt
          rw [toNat_small _ (by omega)]
          omega
end Go.Proofs.YtagkmfhicpcjnaaDoor.Wire
/- Contracts of the encoding functions of wire and of the reference. -/
set_option linter.unusedVariables false
set_option maxRecDepth 100000
namespace Go.Proofs.YtagkmfhicpcjnaaDoor.Wire
open Go.RowKit

theorem ret_int {k : IntKind} {a b : Int} (h : a = b) : Ending.returned (.int k a) = .returned (.int k b) := by rw [h]
theorem ret_str {a b : ByteArray} (h : a = b) : Ending.returned (.string a) = .returned (.string b) := by rw [h]
theorem val_int {k : IntKind} {a b : Int} (h : a = b) : Value.int k a = .int k b := by rw [h]

theorem zig_neg (n : Int) (h : n < 0) : ((zig n : Nat) : Int) = -(2 * n) - 1 := by unfold zig; rw [if_pos h]; omega
theorem zig_pos (n : Int) (h : ¬ n < 0) : ((zig n : Nat) : Int) = 2 * n := by unfold zig; rw [if_neg h]; omega

theorem u64_not (x : Nat) (h : x < 18446744073709551616) : bits .xor .u64 IntKind.u64.max (x : Int) = 18446744073709551615 - (x : Int) := by
  show IntKind.u64.wrap ((BitVec.ofInt 64 IntKind.u64.max ^^^ BitVec.ofInt 64 (x : Int)).toNat : Int) = _
  rw [show BitVec.ofInt 64 IntKind.u64.max = BitVec.allOnes 64 by decide, BitVec.allOnes_xor, BitVec.toNat_not, ofInt_u64 x h, IntKind.wrap_u64]
  omega
theorem u64_not' (x : Int) (h0 : 0 ≤ x) (h : x < 18446744073709551616) : bits .xor .u64 IntKind.u64.max x = 18446744073709551615 - x := by
  obtain ⟨a, rfl⟩ := Int.eq_ofNat_of_zero_le h0
  exact u64_not a (by omega)
theorem u64_wr (n : Int) : IntKind.u64.wrap n = n % 18446744073709551616 := IntKind.wrap_u64 n
theorem zig_form (n : Int) (h1 : -9223372036854775808 ≤ n) (h : n < 0) : bits .xor .u64 IntKind.u64.max (IntKind.u64.wrap (IntKind.u64.wrap n * 2)) = ((zig n : Nat) : Int) := by
  rw [zig_neg n h, u64_not' _ (by rw [u64_wr]; omega) (by rw [u64_wr]; omega), u64_wr, u64_wr]
  omega

theorem zigzag_any (n : Int) (w : World) (hn : I64 n) :
    Calls Tryd.prog 78 #[.int .i64 n] w fun e w' => e = .returned (.int .u64 (zig n : Nat)) ∧ w = w' := by
  obtain ⟨h1, h2⟩ := hn
  have Z1 := Lib.hid (zig_form n h1)
  have Z2 := Lib.hid (zig_pos n)
  go_enter Tryd.func78, Tryd.ntmps78
  go_wp2_with fail
  · go_ret
    exact ⟨ret_int (Z1.out (by assumption)), rfl⟩
  · go_ret
    exact ⟨ret_int (by rw [Z2.out (by omega)]; omega), rfl⟩

/-- Bytes as the cells of a row. -/
def u8s (l : List UInt8) : List Value := l.map fun c => Value.int .u8 (c.toNat : Int)
theorem u8s_append (a b : List UInt8) : u8s a ++ u8s b = u8s (a ++ b) := by unfold u8s; rw [List.map_append]
theorem u8s_length (a : List UInt8) : (u8s a).length = a.length := by unfold u8s; rw [List.length_map]
theorem u8s_one (c : UInt8) : u8s [c] = [.int .u8 (c.toNat : Int)] := rfl
theorem and127 (z : Nat) (h : z < 18446744073709551616) : bits .and .u64 (z : Int) 127 = (z : Int) % 128 := by
  have e := u64_and_nat z 127 h (by omega)
  have e2 := Nat.and_two_pow_sub_one_eq_mod z 7
  simp only [show 2 ^ 7 - 1 = 127 from rfl, show 2 ^ 7 = 128 from rfl] at e2
  rw [e2] at e; exact e.trans (by omega)
theorem or128 (z : Nat) (h : z < 128) : bits .or .u64 (z : Int) 128 = (z : Int) + 128 := by
  have e := u64_or_nat z 128 (by omega) (by omega)
  have e2 := nat_join 7 128 z (by omega) (by omega)
  rw [Nat.or_comm] at e2
  rw [e2] at e; exact e.trans (by omega)
theorem or128m (z : Nat) : bits .or .u64 ((z : Int) % 128) 128 = (z : Int) % 128 + 128 := by
  have := or128 (z % 128) (by omega)
  rw [show ((z % 128 : Nat) : Int) = (z : Int) % 128 by omega] at this
  exact this

theorem u8s_snoc (ys : List UInt8) (z : Nat) (h : z < 256) : u8s ys ++ [.int .u8 (z : Int)] = u8s (ys ++ [UInt8.ofNat z]) := by
  rw [← u8s_append, u8s_one, toNat_small z h]
theorem u8s_snoc' (ys : List UInt8) (z : Nat) : u8s ys ++ [.int .u8 ((z : Int) % 128 + 128)] = u8s (ys ++ [UInt8.ofNat (z % 128 + 128)]) := by
  rw [← u8s_snoc ys (z % 128 + 128) (by omega)]; rfl
theorem snoc_len (ys : List UInt8) (c : UInt8) : (ys ++ [c]).length = ys.length + 1 := by simp
/-- The cell of a new row of one element. -/
theorem one_cell (w : World) (c : Value) (T : TypeId) : ∀ (j : Nat) (u : Value), [c][j]? = some u → (w.alloc (Obj.cells #[c] T)).cell? ({ block := w.heap.size, off := 0 : Addr }.add j) = some u := by
  intro j u h
  cases j with
  | zero => simp at h; subst h; simp [Addr.add, World.cell?_alloc_new]
  | succ j => simp at h

/-- A row of the call's own that reads as these bytes is handed back. -/
def OutB (base : Nat) (w : World) (ys : List UInt8) (e : Ending) (w' : World) : Prop :=
  ∃ v, e = .returned v ∧ w'.ownsRow base 5 1 v ys.length (u8s ys) ∧ Below base w w'

theorem info_u8 : (Tryd.prog.info? 5).map (fun i => (i.zero, i.size, i.bytes)) = some (some (.int .u8 0), 1, 1) := by kernel_rfl

set_option maxHeartbeats 1000000 in
theorem app_any (base : Nat) (v : Value) (xs : List UInt8) (m : Int) (w : World) (hm : I64 m) (hown0 : w.ownsRow base 5 1 v xs.length (u8s xs)) (hb : base ≤ w.heap.size) (hn : xs.length ≤ 100000) :
    Calls Tryd.prog 56 #[v, .int .i64 m] w (OutB base w (xs ++ enI m)) := by
  obtain ⟨i0, hi, hz0, hz1, hz2⟩ := info_parts info_u8
  have hz := zig_lt m hm
  have E := Lib.hid (show enI m = en 10 (zig m) from rfl)
  go_enter Tryd.func56, Tryd.ntmps56
  go_wp2_with fail
  refine (zigzag_any _ _ hm).mono ?_
  rintro e w' ⟨rfl, rfl⟩
  go_wp2_with fail
  go_loopw [0, 5] (fun v form wr => ∃ (f z : Nat) (ys : List UInt8), z < 18446744073709551616 ∧ form = .int .u64 (z : Nat) ∧ ys ++ en (f + 1) z = xs ++ enI m ∧ ys.length + f + 1 ≤ xs.length + 10 ∧ z < 128 ^ (f + 1) ∧ wr.ownsRow base 5 1 v ys.length (u8s ys) ∧ Below base w wr) (fun _ form _ => (intOf form).toNat)
  case atStart => exact ⟨9, zig m, xs, hz, rfl, by rw [E.out], by omega, by omega, hown0, Below.refl _ _⟩
  case round =>
    obtain ⟨f, z, ys, hzl, rfl, hys, hlen, hzf, hown, hnx⟩ := hrel
    have HY := Lib.hid hys
    have hA := and127 z hzl
    have hO := or128m z
    have hsz := hnx.size
    clear hys
    have hz7 : z / 128 < 18446744073709551616 := by omega
    have hbw : base ≤ wr.heap.size := by omega
    have HL := Lib.hid (fun k (hk : u0.ownBlock = some k) => (hown.lt k hk).1)
    by_cases h : z < 128
    · have ES := Lib.hid (en_small f z h)
      go_wp2_with (at_builtin; refine wpList_append_own _ rfl (.tmp 19) (.tmp 22) 65 rfl base 5 i0 (.int .u8 0) 1 1 Tryd.underlying65 hi hz0 hz1 hz2 rfl (by decide) _ _ _ rfl (hown.alloc _) ⟨wr.heap.size, 0, none⟩ 1 1 [.int .u8 (z : Int)] rfl rfl (one_cell _ _ _) ?c2 ?c3 ?c4 ?c5 ?_)
      case c2 => intro u hu; simp at hu; subst hu; rfl
      case c3 => unfold maxLen; omega
      case c4 => omega
      case c5 => simp; omega
      intro v' w1 hown' hgrow _
      have R := Lib.hid hown'
      clear hown' hown
      go_wp2_with fail
      go_ret
      refine ⟨_, rfl, ?_, (hnx.alloc hbw _).grown hgrow (by simp; omega) HL.out⟩
      have := R.out
      rw [u8s_snoc ys z (by omega)] at this
      rw [← HY.out, ES.out, snoc_len]; exact this
    · have EB := Lib.hid (en_big f z h)
      have hf : 1 ≤ f := by
        rcases Nat.eq_zero_or_pos f with e | e
        · subst e; omega
        · exact e
      obtain ⟨g, rfl⟩ : ∃ g, f = g + 1 := ⟨f - 1, by omega⟩
      have hp := p128 (g + 1)
      have hzg : z / 128 < 128 ^ (g + 1) := by rw [Nat.div_lt_iff_lt_mul (by omega)]; omega
      have HP := Lib.hid hzg
      clear hp hzg hzf
      go_wp2_with (at_builtin; refine wpList_append_own _ rfl (.tmp 10) (.tmp 15) 65 rfl base 5 i0 (.int .u8 0) 1 1 Tryd.underlying65 hi hz0 hz1 hz2 rfl (by decide) _ _ _ rfl (hown.alloc _) ⟨wr.heap.size, 0, none⟩ 1 1 [.int .u8 ((z : Int) % 128 + 128)] rfl rfl (one_cell _ _ _) ?c2 ?c3 ?c4 ?c5 ?_)
      case c2 => intro u hu; simp at hu; subst hu; rfl
      case c3 => unfold maxLen; omega
      case c4 => omega
      case c5 => simp; omega
      intro v' w1 hown' hgrow _
      have R := Lib.hid hown'
      clear hown' hown
      go_wp2_with fail
      go_roundw
      case rel =>
        refine ⟨g, z / 128, ys ++ [UInt8.ofNat (z % 128 + 128)], hz7, by go_num, by rw [← HY.out, EB.out]; simp, by rw [snoc_len]; omega, HP.out, ?_, (hnx.alloc hbw _).grown hgrow (by simp; omega) HL.out⟩
        have := R.out
        rw [u8s_snoc' ys z] at this
        rw [snoc_len]; exact this
      case measure => simp [intOf]; omega

theorem conv_own {w : World} {base n : Nat} {v : Value} {ys : List UInt8} (h : w.ownsRow base 5 1 v n (u8s ys)) :
    (convert 65 9 v).run Tryd.prog w = .ok (.string (bs ys)) w := by
  have hl := h.1
  rw [u8s_length] at hl
  rcases h.2 with ⟨rfl, h0⟩ | ⟨g, cap, cur, rfl, h2, h3, h4⟩
  · rw [run_convert_bytes_nil w 65 5 Tryd.underlying65 Tryd.underlying5 0 0 9 Tryd.underlying9]
    have : ys = [] := List.eq_nil_of_length_eq_zero (by omega)
    subst this; rfl
  · rw [← str_bs]
    refine run_convert_bytes_arg w 65 5 Tryd.underlying65 Tryd.underlying5 g 0 n cap _ (by simp; omega) (fun i hi => ?_) 9 Tryd.underlying9
    have := h.cells (g := g) rfl i (.int .u8 ((ys.map fun c => (c.toNat : Int)).getD i 0)) (by
      unfold u8s
      rw [List.getElem?_map]
      have hi2 : i < ys.length := by omega
      simp [List.getD, List.getElem?_eq_getElem hi2])
    rw [show ({ block := g, off := 0, spot := none : Addr }.add i) = ⟨g, i, none⟩ by unfold Addr.add; split <;> simp_all] at this
    rw [Nat.zero_add]; exact this

/-- A string is handed back, and memory has only grown. -/
def OutS (w : World) (s : ByteArray) (e : Ending) (w' : World) : Prop := e = .returned (.string s) ∧ Below w.heap.size w w'

set_option maxHeartbeats 400000 in
theorem int_any (n : Int) (w : World) (hn : I64 n) :
    Calls Tryd.prog 29 #[.int .i64 n] w (OutS w (bs (enI n))) := by
  have N := World.ownsRow_nil w w.heap.size 5 1
  go_enter Tryd.func29, Tryd.ntmps29
  go_wp2_with fail
  refine (app_any w.heap.size _ [] n _ hn N (Nat.le_refl _) (by simp)).mono ?_
  rintro e w' ⟨v, rfl, hown, hb⟩
  have hcv := conv_own hown
  simp only [List.nil_append] at hcv
  go_wp2_with fail
  go_ret
  exact ⟨rfl, hb⟩

theorem toNat_bytes (s : ByteArray) : s.data.toList.length = s.size := by simp

/-- The bytes of a string's encoding. -/
def enT (s : ByteArray) : List UInt8 := enI s.size ++ s.data.toList
theorem enT_str (s : ByteArray) : bs (enI s.size) ++ s = bs (enT s) := by
  apply of_data; unfold enT; simp [bs]
theorem enI_length (n : Int) : (enI n).length ≤ 10 := en_length 10 _
theorem enT_length (s : ByteArray) : (enT s).length ≤ s.size + 10 := by
  have := enI_length s.size
  unfold enT; rw [List.length_append, toNat_bytes]; omega
theorem nat_i64 (n : Nat) (h : n ≤ 1000000) : I64 (n : Int) := by unfold I64; omega

set_option maxHeartbeats 400000 in
theorem text_any (s : ByteArray) (w : World) (hs : s.size ≤ 100000) :
    Calls Tryd.prog 53 #[.string s] w (OutS w (bs (enT s))) := by
  have E := Lib.hid (enT_str s)
  have hl : (bs (enI s.size)).size ≤ 10 := by rw [bs_size]; exact enI_length _
  go_enter Tryd.func53, Tryd.ntmps53
  go_wp2_with fail
  refine (int_any s.size _ (nat_i64 _ (by omega))).mono ?_
  rintro e w' ⟨rfl, hb⟩
  go_wp2_with fail
  go_ret
  exact ⟨ret_str E.out, hb⟩

/-- The byte of a boolean. -/
def enB (b : Bool) : List UInt8 := if b then [1] else [0]
/-- The slice value with this address reads as these numbers, below block B. -/
def IntsAt (w : World) (B : Nat) (A : Option Addr) (l : List Int) : Prop :=
  0 < l.length → ∃ b o, A = some ⟨b, o, none⟩ ∧ b < B ∧ ∀ i, i < l.length → w.cell? ⟨b, o + i, none⟩ = some (.int .i64 (l.getD i 0))
theorem IntsAt.below {w w' : World} {B : Nat} {A : Option Addr} {l : List Int} (h : IntsAt w B A l) (hb : Below B w w') : IntsAt w' B A l := by
  intro h0
  obtain ⟨b, o, e, hl, hc⟩ := h h0
  exact ⟨b, o, e, hl, fun i hi => (hb.cell (p := ⟨b, o + i, none⟩) hl).trans (hc i hi)⟩
theorem IntsAt.more {w : World} {B B' : Nat} {A : Option Addr} {l : List Int} (h : IntsAt w B A l) (hb : B ≤ B') : IntsAt w B' A l := by
  intro h0
  obtain ⟨b, o, e, hl, hc⟩ := h h0
  exact ⟨b, o, e, by omega, hc⟩

/-- The encodings of numbers one after the other. -/
def enAll (l : List Int) : List UInt8 := l.flatMap enI
/-- The bytes of a list's encoding. -/
def enL (l : List Int) : List UInt8 := enI l.length ++ enAll l
theorem enAll_snoc (l : List Int) (k : Nat) (h : k < l.length) : enAll (l.take (k + 1)) = enAll (l.take k) ++ enI (l.getD k 0) := by
  unfold enAll
  rw [List.take_succ_eq_append_getElem h, List.flatMap_append]
  simp [List.getD, List.getElem?_eq_getElem h]
theorem enAll_length (l : List Int) : (enAll l).length ≤ 10 * l.length := by
  induction l with
  | nil => simp [enAll]
  | cons a l ih =>
    have := enI_length a
    unfold enAll at *
    simp only [List.flatMap_cons, List.length_append, List.length_cons]; omega
theorem enL_length (l : List Int) : (enL l).length ≤ 10 + 10 * l.length := by
  unfold enL; have := enI_length l.length; have := enAll_length l; rw [List.length_append]; omega
theorem all64 {l : List Int} (h : ∀ n ∈ l, I64 n) (k : Nat) (hk : k < l.length) : I64 (l.getD k 0) := by
  apply h; simp [List.getD, List.getElem?_eq_getElem hk]

end Go.Proofs.YtagkmfhicpcjnaaDoor.Wire
/- Contracts of the Reader of wire: the form of a number. -/
set_option linter.unusedVariables false
set_option maxRecDepth 100000
namespace Go.Proofs.YtagkmfhicpcjnaaDoor.Wire
open Go.RowKit

theorem ret_uint {a b : Int} (h : a = b) : Ending.returned (.int .u64 a) = .returned (.int .u64 b) := by rw [h]

theorem i64_not' (a : Int) (h0 : 0 ≤ a) (h : a < 9223372036854775808) : bits .xor .i64 (-1) a = -1 - a := by
  obtain ⟨b, rfl⟩ := Int.eq_ofNat_of_zero_le h0
  exact i64_not b (by omega)
theorem u64_and1 (z : Nat) (h : z < 18446744073709551616) : bits .and .u64 (z : Int) 1 = ((z % 2 : Nat) : Int) := by
  have e := u64_and_nat z 1 h (by omega)
  have e2 := Nat.and_two_pow_sub_one_eq_mod z 1
  simp only [show 2 ^ 1 - 1 = 1 from rfl, show 2 ^ 1 = 2 from rfl] at e2
  rw [e2] at e; exact e
theorem unzig_odd (z : Nat) (h : z < 18446744073709551616) (hb : (bits .and .u64 (z : Int) 1 != 0) = true) : bits .xor .i64 (-1) ((z : Int) / 2) = unzig z := by
  rw [u64_and1 z h] at hb
  have hz : z % 2 = 1 := by
    have : ((z % 2 : Nat) : Int) ≠ 0 := by simpa using hb
    omega
  rw [i64_not' _ (by omega) (by omega)]
  unfold unzig; rw [if_pos hz]; omega
theorem unzig_even (z : Nat) (h : z < 18446744073709551616) (hb : (bits .and .u64 (z : Int) 1 != 0) = false) : (z : Int) / 2 = unzig z := by
  rw [u64_and1 z h] at hb
  have hz : ¬ z % 2 = 1 := by
    have : ((z % 2 : Nat) : Int) = 0 := by simpa using hb
    omega
  unfold unzig; rw [if_neg hz]; omega

theorem unzigzag_any (z : Nat) (w : World) (hz : z < 18446744073709551616) :
    Calls Tryd.prog 61 #[.int .u64 (z : Int)] w fun e w' => e = .returned (.int .i64 (unzig z)) ∧ w = w' := by
  have U1 := Lib.hid (unzig_odd z hz)
  have U2 := Lib.hid (unzig_even z hz)
  go_enter Tryd.func61, Tryd.ntmps61
  go_wp2_with fail
  · go_ret
    exact ⟨ret_int (U1.out (by assumption)), rfl⟩
  · go_ret
    exact ⟨ret_int (U2.out (by assumption)), rfl⟩

theorem u8_and127 (c : Nat) (h : c < 256) : bits .and .u8 (c : Int) 127 = ((c % 128 : Nat) : Int) := by
  have e := u8_and_nat c 127 h (by omega)
  have e2 := Nat.and_two_pow_sub_one_eq_mod c 7
  simp only [show 2 ^ 7 - 1 = 127 from rfl, show 2 ^ 7 = 128 from rfl] at e2
  rw [e2] at e; exact e
theorem u8_and128_lo (c : Nat) (h : c < 128) : bits .and .u8 (c : Int) 128 = 0 := by
  have e := u8_and_nat c 128 (by omega) (by omega)
  have e2 := nat_bit 7 c
  simp only [show 2 ^ 7 = 128 from rfl] at e2
  rw [e2, show c / 128 = 0 by omega] at e; exact e
theorem u8_and128_hi (c : Nat) (h : ¬ c < 128) (h2 : c < 256) : bits .and .u8 (c : Int) 128 = 128 := by
  have e := u8_and_nat c 128 (by omega) (by omega)
  have e2 := nat_bit 7 c
  simp only [show 2 ^ 7 = 128 from rfl] at e2
  rw [e2, show c / 128 = 1 by omega] at e; exact e
theorem two128 (k : Nat) : (2 : Int) ^ (7 * k) = ((128 ^ k : Nat) : Int) := by
  rw [Int.pow_mul]; simp
theorem p128_8 (k : Nat) (h : k ≤ 8) : 128 ^ k ≤ 72057594037927936 := by
  have : 128 ^ k ≤ 128 ^ 8 := Nat.pow_le_pow_right (by omega) h
  omega
/-- The group's place is free. -/
theorem join_form (acc k m : Nat) (hk : k ≤ 9) (ha : acc < 128 ^ k) (hm : m < 128) (h9 : k = 9 → m ≤ 1) :
    bits .or .u64 (acc : Int) (IntKind.u64.wrap (IntKind.u64.wrap (m : Int) * 2 ^ (7 * k))) = ((acc + m * 128 ^ k : Nat) : Int) := by
  have hb : m * 128 ^ k < 18446744073709551616 ∧ acc < 18446744073709551616 := by
    by_cases e : k = 9
    · have h1 := h9 e
      subst e
      have h2 : m * 128 ^ 9 ≤ 1 * 128 ^ 9 := Nat.mul_le_mul_right _ h1
      omega
    · have h1 := p128_8 k (by omega)
      have h2 : m * 128 ^ k ≤ 127 * 128 ^ k := Nat.mul_le_mul_right _ (by omega)
      omega
  have hw : IntKind.u64.wrap (m : Int) = (m : Int) := by rw [u64_wr]; omega
  have hw2 : IntKind.u64.wrap ((m : Int) * ((128 ^ k : Nat) : Int)) = ((m * 128 ^ k : Nat) : Int) := by
    rw [u64_wr, ← Int.natCast_mul]; omega
  rw [two128, hw, hw2, u64_or_nat acc (m * 128 ^ k) hb.2 hb.1]
  have h1 : 128 ^ k = 2 ^ (7 * k) := by rw [Nat.pow_mul]
  have e := nat_join (7 * k) (m * 128 ^ k) acc (by rw [← h1]; exact Nat.mul_mod_left _ _) (by rw [← h1]; exact ha)
  rw [Nat.or_comm, e, Nat.add_comm]

/-- What readForm returns. -/
def FormIs (v n : Nat) (e : Int) : Ending := .returned (.tuple #[.int .u64 (v : Int), .int .i64 (n : Int), .int .i64 e])
theorem drop_cons (s : ByteArray) (k : Nat) (h : k < s.size) : s.data.toList.drop k = s[k] :: s.data.toList.drop (k + 1) := by
  rw [List.drop_eq_getElem_cons (by simpa using h)]; rfl
theorem tup3 {a a' b b' e e' : Int} (h1 : a = a') (h2 : b = b') (h3 : e = e') : Ending.returned (.tuple #[.int .u64 a, .int .i64 b, .int .i64 e]) = .returned (.tuple #[.int .u64 a', .int .i64 b', .int .i64 e']) := by rw [h1, h2, h3]
theorem rd_out {a b : Nat} {c : Int} {v n : Nat} {e : Int} (h : (a, b, c) = (v, n, e)) : (a : Int) = v ∧ (b : Int) = n ∧ c = e := by
  cases h; exact ⟨rfl, rfl, rfl⟩

set_option maxRecDepth 100000 in
set_option maxHeartbeats 2000000 in
theorem form_any (s : ByteArray) (w : World) (hs : s.size ≤ 100000) (v n : Nat) (e : Int) (hrd : rd 0 0 s.data.toList = (v, n, e)) :
    Calls Tryd.prog 60 #[.string s] w fun r w' => r = .returned (.tuple #[.int .u64 (v : Int), .int .i64 (n : Int), .int .i64 e]) ∧ w = w' := by
  have HR := Lib.hid hrd
  clear hrd
  go_enter Tryd.func60, Tryd.ntmps60
  go_wp2_with fail
  go_loop [5, 6, 9] (fun form _ i => ∃ (k acc : Nat), k ≤ 9 ∧ k ≤ s.size ∧ acc < 128 ^ k ∧ i = .int .i64 k ∧ form = .int .u64 (acc : Nat) ∧ rd k acc (s.data.toList.drop k) = (v, n, e)) (fun _ _ i => s.size - (intOf i).toNat)
  case atStart => exact ⟨0, 0, by omega, by omega, by decide, rfl, rfl, HR.out⟩
  case round =>
    obtain ⟨k, acc, hk9, hks, hacc, rfl, rfl, hr⟩ := hrel
    by_cases hlt : k < s.size
    · have hc := (s[k]).toNat_lt
      rw [drop_cons s k hlt] at hr
      by_cases hbad : (0 < k ∧ s[k].toNat = 0) ∨ (k = 9 ∧ 1 < s[k].toNat)
      · rw [rd_bad _ _ _ _ hbad] at hr
        have H := Lib.hid (rd_out hr)
        clear hr hacc
        by_cases hz : s[k].toNat = 0
        · have h0 : 0 < k := by omega
          clear hbad
          go_wp2_with fail
          exact bodyPost_ret (v := .tuple #[.int .u64 0, .int .i64 0, .int .i64 4]) (by simp [results, Tryd.results60, go_sem]) rfl ⟨tup3 H.out.1 H.out.2.1 H.out.2.2, rfl⟩
        · have h9 : k = 9 := by omega
          subst h9
          have h1 : 1 < s[9].toNat := by omega
          clear hbad
          go_wp2_with fail
          exact bodyPost_ret (v := .tuple #[.int .u64 0, .int .i64 0, .int .i64 4]) (by simp [results, Tryd.results60, go_sem]) rfl ⟨tup3 H.out.1 H.out.2.1 H.out.2.2, rfl⟩
      · by_cases hl : s[k].toNat < 128
        · rw [rd_last _ _ _ _ hbad hl] at hr
          have H := Lib.hid (rd_out hr)
          have hB := u8_and128_lo _ hl
          have hM := Lib.hid (u8_and127 _ (by omega : s[k].toNat < 256))
          have hJ := Lib.hid (join_form acc k s[k].toNat hk9 hacc hl (by omega))
          have hm : s[k].toNat % 128 = s[k].toNat := by omega
          have HM := Lib.hid hm
          clear hr hacc hm
          by_cases h9 : k = 9
          · subst h9
            have h1 : s[9].toNat ≤ 1 := by omega
            have hz : ((s[9].toNat : Int) == 0) = false := by simp; omega
            have hJ9 := hJ.out
            rw [show (2 : Int) ^ (7 * 9) = 9223372036854775808 from rfl] at hJ9
            have HJ := Lib.hid hJ9
            clear hbad hJ9 hJ
            go_wp2_with fail
            exact bodyPost_ret (v := .tuple #[.int .u64 (bits BinOp.or IntKind.u64 (acc : Int) (IntKind.u64.wrap (IntKind.u64.wrap (bits BinOp.and IntKind.u8 (s[9].toNat : Int) 127) * 9223372036854775808))), .int .i64 10, .int .i64 0]) (by simp [results, Tryd.results60, go_sem]) rfl ⟨tup3 (by rw [← H.out.1, ← HJ.out, hM.out, HM.out]) (by have := H.out.2.1; omega) H.out.2.2, rfl⟩
          · by_cases h0 : 0 < k
            · have hz : ¬ s[k].toNat = 0 := by omega
              clear hbad
              go_wp2_with fail
              exact bodyPost_ret (v := .tuple #[.int .u64 (bits BinOp.or IntKind.u64 (acc : Int) (IntKind.u64.wrap (IntKind.u64.wrap (bits BinOp.and IntKind.u8 (s[k].toNat : Int) 127) * 2 ^ (7 * k)))), .int .i64 ((k : Int) + 1), .int .i64 0]) (by simp [results, Tryd.results60, go_sem]) rfl ⟨tup3 (by rw [← H.out.1, ← hJ.out, hM.out, HM.out]) (by have := H.out.2.1; omega) H.out.2.2, rfl⟩
            · clear hbad
              go_wp2_with fail
              exact bodyPost_ret (v := .tuple #[.int .u64 (bits BinOp.or IntKind.u64 (acc : Int) (IntKind.u64.wrap (IntKind.u64.wrap (bits BinOp.and IntKind.u8 (s[k].toNat : Int) 127) * 2 ^ (7 * k)))), .int .i64 ((k : Int) + 1), .int .i64 0]) (by simp [results, Tryd.results60, go_sem]) rfl ⟨tup3 (by rw [← H.out.1, ← hJ.out, hM.out, HM.out]) (by have := H.out.2.1; omega) H.out.2.2, rfl⟩
        · have h9 : ¬ k = 9 := by omega
          rw [rd_more _ _ _ _ (by omega) hl] at hr
          have H := Lib.hid hr
          have hB := u8_and128_hi _ hl (by omega)
          have hM := Lib.hid (u8_and127 _ (by omega : s[k].toNat < 256))
          have hJ := Lib.hid (join_form acc k (s[k].toNat % 128) hk9 hacc (by omega) (by omega))
          have hacc2 : acc + s[k].toNat % 128 * 128 ^ k < 128 ^ (k + 1) := by
            have : s[k].toNat % 128 * 128 ^ k ≤ 127 * 128 ^ k := Nat.mul_le_mul_right _ (by omega)
            rw [p128]; omega
          have HA := Lib.hid hacc2
          have hz : ¬ s[k].toNat = 0 := by omega
          clear hr hacc hacc2 hbad
          by_cases h0 : 0 < k
          all_goals
            go_wp2_with fail
            go_round
            case rel => exact ⟨k + 1, acc + s[k].toNat % 128 * 128 ^ k, by omega, by omega, HA.out, by go_num, val_int (by rw [← hJ.out, hM.out]), H.out⟩
            case measure => simp [intOf]; omega
    · have hr2 : rd k acc [] = (v, n, e) := by
        rw [List.drop_of_length_le (by simp; omega)] at hr; exact hr
      rw [rd_nil] at hr2
      have H := Lib.hid (rd_out hr2)
      clear hr hr2 hacc
      go_wp2_with fail
      exact bodyPost_ret (v := .tuple #[.int .u64 0, .int .i64 0, .int .i64 5]) (by simp [results, Tryd.results60, go_sem]) rfl ⟨tup3 H.out.1 H.out.2.1 H.out.2.2, rfl⟩
end Go.Proofs.YtagkmfhicpcjnaaDoor.Wire
/- Contracts of the methods of wire's Reader that read no list. -/
set_option linter.unusedVariables false
set_option maxRecDepth 100000
namespace Go.Proofs.YtagkmfhicpcjnaaDoor.Wire
open Go.RowKit

/-- Block b is a Reader of wire: what is left, the error, whether New returned it. -/
def PB (w : World) (b : Nat) (s : ByteArray) (e : Int) (m : Bool) : Prop :=
  w.heap[b]? = some (.cells #[.string s, .int .i64 e, .bool m] 68 (0, 0))

section
variable {w w' : World} {b : Nat} {s : ByteArray} {e : Int} {m : Bool}
theorem PB.lt (h : PB w b s e m) : b < w.heap.size := (Array.getElem?_eq_some_iff.1 h).1
theorem PB.c0 (h : PB w b s e m) : w.cell? ⟨b, 0, none⟩ = some (.string s) := cell_of_row w b 0 _ _ (0, 0) h
theorem PB.c1 (h : PB w b s e m) : w.cell? ⟨b, 1, none⟩ = some (.int .i64 e) := cell_of_row w b 1 _ _ (0, 0) h
theorem PB.c2 (h : PB w b s e m) : w.cell? ⟨b, 2, none⟩ = some (.bool m) := cell_of_row w b 2 _ _ (0, 0) h
theorem PB.fr (h : PB w b s e m) (i : Nat) : w.frozen? ⟨b, i, none⟩ = false := by
  unfold PB at h; simp [World.frozen?, h]
theorem PB.set0 (h : PB w b s e m) (t : ByteArray) : PB (w.setCell ⟨b, 0, none⟩ (.string t)) b t e m := by
  unfold PB at h ⊢; simp [World.setCell, Array.getElem?_modify, h]
theorem PB.set1 (h : PB w b s e m) (f : Int) : PB (w.setCell ⟨b, 1, none⟩ (.int .i64 f)) b s f m := by
  unfold PB at h ⊢; simp [World.setCell, Array.getElem?_modify, h]
theorem PB.kept {r : Option Nat} (h : PB w b s e m) (hg : w.grownBy w' r) (hne : some b ≠ r) : PB w' b s e m := (hg.block b h.lt hne).trans h
theorem PB.below {B : Nat} (h : PB w b s e m) (hb : Below B w w') (hlt : b < B) : PB w' b s e m := (hb.block b hlt).trans h
end
theorem gb_refl (w : World) (r : Option Nat) : w.grownBy w r := ⟨rfl, rfl, rfl, Nat.le_refl _, fun _ _ _ => rfl⟩
theorem gb_trans {a b c : World} {r : Option Nat} (h : a.grownBy b r) (k : b.grownBy c r) : a.grownBy c r :=
  ⟨k.os.trans h.os, k.tape.trans h.tape, k.output.trans h.output, Nat.le_trans h.size k.size, fun i hi hne => (k.block i (Nat.lt_of_lt_of_le hi h.size) hne).trans (h.block i hi hne)⟩
theorem gb_set (w : World) (b i : Nat) (u : Value) : w.grownBy (w.setCell ⟨b, i, none⟩ u) (some b) :=
  ⟨rfl, rfl, rfl, by simp [World.setCell], fun k hk hne => Below.heap_setCell w ⟨b, i, none⟩ u k (by intro e; exact hne (by rw [e]))⟩
theorem gb_below {a b : World} {r : Option Nat} (h : Below a.heap.size a b) : a.grownBy b r :=
  ⟨h.os, h.tape, h.output, h.size, fun k hk _ => h.block k hk⟩
theorem gb_drewN (w : World) (n : Nat) (r : Option Nat) : w.grownBy (w.drewN n) r := ⟨rfl, rfl, rfl, Nat.le_refl _, fun _ _ _ => rfl⟩

/-- The pointer to a block. -/
abbrev pt (b : Nat) : Value := .pointer (some ⟨b, 0, none⟩)

theorem err_live (b : Nat) (s : ByteArray) (e : Int) (w : World) (h : PB w b s e true) :
    Calls Tryd.prog 59 #[pt b] w fun r w' => r = .returned (.int .i64 e) ∧ w = w' := by
  have h1 := h.c1
  have h2 := h.c2
  clear h
  go_enter Tryd.func59, Tryd.ntmps59
  go_wp2_with fail
  go_ret
  exact ⟨rfl, rfl⟩
theorem err_zero (b : Nat) (s : ByteArray) (e : Int) (w : World) (h : PB w b s e false) :
    Calls Tryd.prog 59 #[pt b] w fun r w' => r = .returned (.int .i64 15) ∧ w = w' := by
  have h2 := h.c2
  clear h
  go_enter Tryd.func59, Tryd.ntmps59
  go_wp2_with fail
  go_ret
  exact ⟨rfl, rfl⟩
theorem err_nil (w : World) :
    Calls Tryd.prog 59 #[.pointer none] w fun r w' => r = .returned (.int .i64 15) ∧ w = w' := by
  go_enter Tryd.func59, Tryd.ntmps59
  go_wp2_with fail
  go_ret
  exact ⟨rfl, rfl⟩

/-- A Reader that has an error. -/
def Dead (p : Value) (w : World) (k : Int) : Prop :=
  (k == 0) = false ∧ (k != 0) = true ∧ Calls Tryd.prog 59 #[p] w fun r w' => r = .returned (.int .i64 k) ∧ w = w'
theorem dead_mk {p : Value} {w : World} {k : Int} (h : k ≠ 0) (hc : Calls Tryd.prog 59 #[p] w fun r w' => r = .returned (.int .i64 k) ∧ w = w') : Dead p w k :=
  ⟨by simpa using h, by simpa using h, hc⟩

theorem dead_int (p : Value) (w : World) (k : Int) (h : Dead p w k) :
    Calls Tryd.prog 32 #[p] w fun r w' => r = .returned (.int .i64 0) ∧ w = w' := by
  obtain ⟨h1, h2, hc⟩ := h
  have HC := Lib.hid hc
  clear hc
  go_enter Tryd.func32, Tryd.ntmps32
  go_wp2_with fail
  refine HC.out.mono ?_
  rintro e w' ⟨rfl, rfl⟩
  go_wp2_with fail
  go_ret
  exact ⟨rfl, rfl⟩
theorem dead_fail (p : Value) (w : World) (k f : Int) (h : Dead p w k) :
    Calls Tryd.prog 58 #[p, .int .i64 f] w fun r w' => r = .returned (.tuple #[]) ∧ w = w' := by
  obtain ⟨h1, h2, hc⟩ := h
  have HC := Lib.hid hc
  clear hc
  go_enter Tryd.func58, Tryd.ntmps58
  go_wp2_with fail
  refine HC.out.mono ?_
  rintro e w' ⟨rfl, rfl⟩
  go_wp2_with fail
  go_end0
  exact ⟨rfl, rfl⟩
theorem dead_take (p : Value) (w : World) (k n : Int) (h : Dead p w k) :
    Calls Tryd.prog 79 #[p, .int .i64 n] w fun r w' => r = .returned (.string ByteArray.empty) ∧ w = w' := by
  obtain ⟨h1, h2, hc⟩ := h
  have HC := Lib.hid hc
  clear hc
  go_enter Tryd.func79, Tryd.ntmps79
  go_wp2_with fail
  refine HC.out.mono ?_
  rintro e w' ⟨rfl, rfl⟩
  go_wp2_with fail
  go_ret
  exact ⟨rfl, rfl⟩
theorem dead_count (p : Value) (w : World) (k n : Int) (h : Dead p w k) :
    Calls Tryd.prog 80 #[p, .int .i64 n] w fun r w' => r = .returned (.int .i64 0) ∧ w = w' := by
  have HD := Lib.hid h
  clear h
  have hm : 0 ≤ max n 0 := by omega
  go_enter Tryd.func80, Tryd.ntmps80
  go_wp2_with fail
  refine (dead_int p _ k HD.out).mono ?_
  rintro e w' ⟨rfl, rfl⟩
  go_wp2_with fail
  all_goals (go_ret; exact ⟨rfl, rfl⟩)
theorem dead_text (p : Value) (w : World) (k n : Int) (h : Dead p w k) :
    Calls Tryd.prog 57 #[p, .int .i64 n] w fun r w' => r = .returned (.string ByteArray.empty) ∧ w = w' := by
  have HD := Lib.hid h
  clear h
  go_enter Tryd.func57, Tryd.ntmps57
  go_wp2_with fail
  refine (dead_count p _ k n HD.out).mono ?_
  rintro e w' ⟨rfl, rfl⟩
  go_wp2_with fail
  refine (dead_take p _ k 0 HD.out).mono ?_
  rintro e w' ⟨rfl, rfl⟩
  go_wp2_with fail
  go_ret
  exact ⟨rfl, rfl⟩
theorem dead_left (p : Value) (w : World) (k : Int) (h : Dead p w k) :
    Calls Tryd.prog 62 #[p] w fun r w' => r = .returned (.int .i64 0) ∧ w = w' := by
  obtain ⟨h1, h2, hc⟩ := h
  have HC := Lib.hid hc
  clear hc
  go_enter Tryd.func62, Tryd.ntmps62
  go_wp2_with fail
  refine HC.out.mono ?_
  rintro e w' ⟨rfl, rfl⟩
  go_wp2_with fail
  go_ret
  exact ⟨rfl, rfl⟩
theorem dead_end (p : Value) (w : World) (k : Int) (h : Dead p w k) :
    Calls Tryd.prog 33 #[p] w fun r w' => r = .returned (.int .i64 k) ∧ w = w' := by
  have HD := Lib.hid h
  clear h
  go_enter Tryd.func33, Tryd.ntmps33
  go_wp2_with fail
  refine (dead_left p _ k HD.out).mono ?_
  rintro e w' ⟨rfl, rfl⟩
  go_wp2_with fail
  refine HD.out.2.2.mono ?_
  rintro e w' ⟨rfl, rfl⟩
  go_wp2_with fail
  go_ret
  exact ⟨rfl, rfl⟩

/-! ### A Reader without an error -/

/-- What a call leaves: the value, what is left to read, the error. -/
def Out (b : Nat) (w : World) (v : Value) (s : ByteArray) (e : Int) (r : Ending) (w' : World) : Prop :=
  r = .returned v ∧ PB w' b s e true ∧ w.grownBy w' (some b)

theorem pb_dead {b : Nat} {s : ByteArray} {e : Int} {w : World} (h : PB w b s e true) (he : e ≠ 0) : Dead (pt b) w e := dead_mk he (err_live b s e w h)

theorem live_fail (b : Nat) (s : ByteArray) (f : Int) (w : World) (h : PB w b s 0 true) :
    Calls Tryd.prog 58 #[pt b, .int .i64 f] w (Out b w (.tuple #[]) s f) := by
  have H := Lib.hid h
  have h1 := h.c1
  have hf := h.fr 1
  clear h
  go_enter Tryd.func58, Tryd.ntmps58
  go_wp2_with fail
  refine (err_live b s 0 _ H.out).mono ?_
  rintro e w' ⟨rfl, rfl⟩
  go_wp2_with fail
  go_end0
  exact ⟨rfl, H.out.set1 f, gb_set _ _ _ _⟩

/-- What the number at the beginning says. -/
def fInt (s : ByteArray) : Int × ByteArray × Int :=
  (unzig (rd 0 0 s.data.toList).1, s.extract (rd 0 0 s.data.toList).2.1 s.size, (rd 0 0 s.data.toList).2.2)

theorem rd_facts (s : ByteArray) (hs : s.size ≤ 100000) : (rd 0 0 s.data.toList).1 < 18446744073709551616 ∧ (rd 0 0 s.data.toList).2.1 ≤ s.size ∧ (rd 0 0 s.data.toList).2.2 ∈ [0, 4, 5] ∧
    ((rd 0 0 s.data.toList).2.2 ≠ 0 → (rd 0 0 s.data.toList).1 = 0 ∧ (rd 0 0 s.data.toList).2.1 = 0) := by
  rcases rd_ends s.data.toList 0 0 (by omega) (by omega) with e | e | ⟨v, n, e, h1, h2, h3, h4⟩
  · rw [e]; exact ⟨by decide, Nat.zero_le _, by simp, fun _ => ⟨rfl, rfl⟩⟩
  · rw [e]; exact ⟨by decide, Nat.zero_le _, by simp, fun _ => ⟨rfl, rfl⟩⟩
  · rw [e]; exact ⟨h1, by simp at h4; omega, by simp, fun h => absurd rfl h⟩

theorem live_int (b : Nat) (s : ByteArray) (w : World) (hs : s.size ≤ 100000) (h : PB w b s 0 true) :
    Calls Tryd.prog 32 #[pt b] w (Out b w (.int .i64 (fInt s).1) (fInt s).2.1 (fInt s).2.2) := by
  obtain ⟨f1, f2, f3, f4⟩ := rd_facts s hs
  obtain ⟨v, n, e, hr⟩ : ∃ v n e, rd 0 0 s.data.toList = (v, n, e) := ⟨_, _, _, rfl⟩
  have E := Lib.hid (show fInt s = (unzig v, s.extract n s.size, e) by unfold fInt; rw [hr])
  rw [hr] at f1 f2 f3 f4
  have hc := Lib.hid (form_any s w hs v n e hr)
  have H := Lib.hid h
  have h0 := h.c0
  have hf := h.fr 0
  clear h hr
  simp only at f1 f2 f3 f4
  clear f3 f4
  go_enter Tryd.func32, Tryd.ntmps32
  go_wp2_with fail
  refine (err_live b s 0 _ H.out).mono ?_
  rintro r w' ⟨rfl, rfl⟩
  go_wp2_with fail
  refine hc.out.mono ?_
  rintro r w' ⟨rfl, rfl⟩
  go_wp2_with fail
  refine (live_fail b s e _ H.out).mono ?_
  rintro r w' ⟨rfl, hp, hg⟩
  have HP := Lib.hid hp
  have HG := Lib.hid hg
  have h0' := hp.c0
  have hf' := hp.fr 0
  clear hp hg h0 hf
  go_wp2_with fail
  refine (unzigzag_any v _ f1).mono ?_
  rintro r w'' ⟨rfl, rfl⟩
  go_wp2_with fail
  go_ret
  refine ⟨ret_int (by rw [E.out]), ?_, gb_trans HG.out (gb_set _ _ _ _)⟩
  rw [E.out]; exact HP.out.set0 _

/-- So many bytes. -/
def fTake (n : Nat) (s : ByteArray) : ByteArray × ByteArray × Int :=
  if s.size < n then (ByteArray.empty, s, 5) else (s.extract 0 n, s.extract n s.size, 0)

theorem live_take (b n : Nat) (s : ByteArray) (w : World) (hs : s.size ≤ 100000) (hn : n ≤ 9223372036854775807) (h : PB w b s 0 true) :
    Calls Tryd.prog 79 #[pt b, .int .i64 (n : Int)] w (Out b w (.string (fTake n s).1) (fTake n s).2.1 (fTake n s).2.2) := by
  have H := Lib.hid h
  have h0 := h.c0
  have hf := h.fr 0
  clear h
  by_cases hlt : s.size < n
  · have E := Lib.hid (show fTake n s = (ByteArray.empty, s, 5) by unfold fTake; rw [if_pos hlt])
    go_enter Tryd.func79, Tryd.ntmps79
    go_wp2_with fail
    refine (err_live b s 0 _ H.out).mono ?_
    rintro r w' ⟨rfl, rfl⟩
    go_wp2_with fail
    refine (live_fail b s 5 _ H.out).mono ?_
    rintro r w' ⟨rfl, hp, hg⟩
    have HP := Lib.hid hp
    have HG := Lib.hid hg
    clear hp hg
    go_wp2_with fail
    go_ret
    rw [E.out]
    exact ⟨rfl, HP.out, HG.out⟩
  · have E := Lib.hid (show fTake n s = (s.extract 0 n, s.extract n s.size, 0) by unfold fTake; rw [if_neg hlt])
    go_enter Tryd.func79, Tryd.ntmps79
    go_wp2_with fail
    refine (err_live b s 0 _ H.out).mono ?_
    rintro r w' ⟨rfl, rfl⟩
    go_wp2_with fail
    go_ret
    rw [E.out]
    exact ⟨rfl, H.out.set0 _, gb_set _ _ _ _⟩

/-- The length of a list, at most so many. -/
def fCount (most : Int) (s : ByteArray) : Int × ByteArray × Int :=
  if (fInt s).2.2 ≠ 0 then (0, (fInt s).2.1, (fInt s).2.2)
  else if (fInt s).1 < 0 then (0, (fInt s).2.1, 4)
  else if max most 0 < (fInt s).1 then (0, (fInt s).2.1, 3)
  else ((fInt s).1, (fInt s).2.1, 0)

theorem fInt_bad (s : ByteArray) (hs : s.size ≤ 100000) (h : (fInt s).2.2 ≠ 0) : (fInt s).1 = 0 := by
  have := (rd_facts s hs).2.2.2 h
  unfold fInt; rw [this.1]; rfl
theorem fInt_size (s : ByteArray) (hs : s.size ≤ 100000) : (fInt s).2.1.size ≤ s.size := by unfold fInt; simp
theorem fInt_64 (s : ByteArray) (hs : s.size ≤ 100000) : I64 (fInt s).1 := unzig_in _ (rd_facts s hs).1

theorem live_count (b : Nat) (most : Int) (s : ByteArray) (w : World) (hs : s.size ≤ 100000) (h : PB w b s 0 true) :
    Calls Tryd.prog 80 #[pt b, .int .i64 most] w (Out b w (.int .i64 (fCount most s).1) (fCount most s).2.1 (fCount most s).2.2) := by
  have H := Lib.hid h
  have F := Lib.hid (show fCount most s = if (fInt s).2.2 ≠ 0 then (0, (fInt s).2.1, (fInt s).2.2) else if (fInt s).1 < 0 then (0, (fInt s).2.1, 4) else if max most 0 < (fInt s).1 then (0, (fInt s).2.1, 3) else ((fInt s).1, (fInt s).2.1, 0) from rfl)
  have B := Lib.hid (fInt_bad s hs)
  have L := Lib.hid (live_int b s w hs h)
  clear h
  obtain ⟨v, t, e, hr⟩ : ∃ v t e, fInt s = (v, t, e) := ⟨_, _, _, rfl⟩
  rw [hr] at F B L
  clear hr
  by_cases he : e = 0
  · subst he
    by_cases h1 : v < 0
    · have E := Lib.hid (show fCount most s = (0, t, 4) by rw [F.out]; simp [h1])
      go_enter Tryd.func80, Tryd.ntmps80
      go_wp2_with fail
      refine L.out.mono ?_
      rintro r w1 ⟨rfl, hp, hg⟩
      have HP := Lib.hid hp
      have HG := Lib.hid hg
      clear hp hg
      go_wp2_with fail
      refine (live_fail b t 4 _ HP.out).mono ?_
      rintro r w2 ⟨rfl, hp2, hg2⟩
      have HP2 := Lib.hid hp2
      have HG2 := Lib.hid hg2
      clear hp2 hg2
      go_wp2_with fail
      go_ret
      rw [E.out]
      exact ⟨rfl, HP2.out, gb_trans HG.out HG2.out⟩
    · by_cases h2 : max most 0 < v
      · have E := Lib.hid (show fCount most s = (0, t, 3) by rw [F.out]; simp [h1, h2])
        have h3 : most < v := by omega
        have h4 : 0 < v := by omega
        go_enter Tryd.func80, Tryd.ntmps80
        go_wp2_with fail
        refine L.out.mono ?_
        rintro r w1 ⟨rfl, hp, hg⟩
        have HP := Lib.hid hp
        have HG := Lib.hid hg
        clear hp hg
        go_wp2_with fail
        all_goals
          refine (live_fail b t 3 _ HP.out).mono ?_
          rintro r w2 ⟨rfl, hp2, hg2⟩
          have HP2 := Lib.hid hp2
          have HG2 := Lib.hid hg2
          clear hp2 hg2
          go_wp2_with fail
          go_ret
          rw [E.out]
          exact ⟨rfl, HP2.out, gb_trans HG.out HG2.out⟩
      · have E := Lib.hid (show fCount most s = (v, t, 0) by rw [F.out]; simp [h1, h2])
        go_enter Tryd.func80, Tryd.ntmps80
        go_wp2_with fail
        refine L.out.mono ?_
        rintro r w1 ⟨rfl, hp, hg⟩
        have HP := Lib.hid hp
        have HG := Lib.hid hg
        clear hp hg
        go_wp2_with fail
        all_goals
          go_ret
          rw [E.out]
          exact ⟨rfl, HP.out, HG.out⟩
  · have E := Lib.hid (show fCount most s = (0, t, e) by rw [F.out]; simp [he])
    obtain rfl : v = 0 := B.out he
    have hm : 0 ≤ max most 0 := by omega
    go_enter Tryd.func80, Tryd.ntmps80
    go_wp2_with fail
    refine L.out.mono ?_
    rintro r w1 ⟨rfl, hp, hg⟩
    have HP := Lib.hid hp
    have HG := Lib.hid hg
    clear hp hg
    go_wp2_with fail
    all_goals
      go_ret
      rw [E.out]
      exact ⟨rfl, HP.out, HG.out⟩
end Go.Proofs.YtagkmfhicpcjnaaDoor.Wire
/- Contracts of wire's Reader: strings, booleans, what is left, the end. -/
set_option linter.unusedVariables false
set_option maxRecDepth 100000
namespace Go.Proofs.YtagkmfhicpcjnaaDoor.Wire
open Go.RowKit

theorem fCount_e (most : Int) (s : ByteArray) (hs : s.size ≤ 100000) (h : (fCount most s).2.2 ≠ 0) : (fCount most s).1 = 0 := by
  unfold fCount at *; (repeat' split at *) <;> simp_all
theorem fCount_bd (most : Int) (s : ByteArray) (hm : most ≤ 9223372036854775807) : 0 ≤ (fCount most s).1 ∧ (fCount most s).1 ≤ max most 0 := by
  unfold fCount; (repeat' split) <;> simp <;> omega
theorem fCount_size (most : Int) (s : ByteArray) (hs : s.size ≤ 100000) : (fCount most s).2.1.size ≤ s.size := by
  have := fInt_size s hs
  unfold fCount; (repeat' split) <;> exact this

/-- A string of at most so many bytes. -/
def fText (most : Int) (s : ByteArray) : ByteArray × ByteArray × Int :=
  if (fCount most s).2.2 ≠ 0 then (ByteArray.empty, (fCount most s).2.1, (fCount most s).2.2) else fTake (fCount most s).1.toNat (fCount most s).2.1

theorem live_text (b : Nat) (most : Int) (s : ByteArray) (w : World) (hs : s.size ≤ 100000) (hm : most ≤ 9223372036854775807) (h : PB w b s 0 true) :
    Calls Tryd.prog 57 #[pt b, .int .i64 most] w (Out b w (.string (fText most s).1) (fText most s).2.1 (fText most s).2.2) := by
  have F := Lib.hid (show fText most s = if (fCount most s).2.2 ≠ 0 then (ByteArray.empty, (fCount most s).2.1, (fCount most s).2.2) else fTake (fCount most s).1.toNat (fCount most s).2.1 from rfl)
  have L := Lib.hid (live_count b most s w hs h)
  have B := Lib.hid (fCount_bd most s hm)
  have Z := fCount_size most s hs
  have V := Lib.hid (fCount_e most s hs)
  clear h
  obtain ⟨v, t, e, hr⟩ : ∃ v t e, fCount most s = (v, t, e) := ⟨_, _, _, rfl⟩
  rw [hr] at F B L Z V
  clear hr
  simp only at Z
  by_cases he : e = 0
  · subst he
    obtain ⟨n, rfl⟩ := Int.eq_ofNat_of_zero_le B.out.1
    have hn : n ≤ 9223372036854775807 := by have := B.out.2; simp only at this; omega
    have E := Lib.hid (show fText most s = fTake n t by rw [F.out]; simp)
    go_enter Tryd.func57, Tryd.ntmps57
    go_wp2_with fail
    refine L.out.mono ?_
    rintro r w1 ⟨rfl, hp, hg⟩
    have HP := Lib.hid hp
    have HG := Lib.hid hg
    clear hp hg
    go_wp2_with fail
    refine (live_take b n t _ (by omega) hn HP.out).mono ?_
    rintro r w2 ⟨rfl, hp2, hg2⟩
    have HP2 := Lib.hid hp2
    have HG2 := Lib.hid hg2
    clear hp2 hg2
    go_wp2_with fail
    go_ret
    rw [E.out]
    exact ⟨rfl, HP2.out, gb_trans HG.out HG2.out⟩
  · have E := Lib.hid (show fText most s = (ByteArray.empty, t, e) by rw [F.out]; simp [he])
    obtain rfl : v = 0 := V.out he
    go_enter Tryd.func57, Tryd.ntmps57
    go_wp2_with fail
    refine L.out.mono ?_
    rintro r w1 ⟨rfl, hp, hg⟩
    have HP := Lib.hid hp
    have HG := Lib.hid hg
    clear hp hg
    go_wp2_with fail
    refine (dead_take (pt b) _ e 0 (pb_dead HP.out he)).mono ?_
    rintro r w2 ⟨rfl, rfl⟩
    go_wp2_with fail
    go_ret
    rw [E.out]
    exact ⟨rfl, HP.out, HG.out⟩

theorem live_left (b : Nat) (s : ByteArray) (w : World) (h : PB w b s 0 true) :
    Calls Tryd.prog 62 #[pt b] w fun r w' => r = .returned (.int .i64 (s.size : Int)) ∧ w = w' := by
  have H := Lib.hid h
  have h0 := h.c0
  clear h
  go_enter Tryd.func62, Tryd.ntmps62
  go_wp2_with fail
  refine (err_live b s 0 _ H.out).mono ?_
  rintro e w' ⟨rfl, rfl⟩
  go_wp2_with fail
  go_ret
  exact ⟨rfl, rfl⟩
theorem live_end (b : Nat) (s : ByteArray) (w : World) (h : PB w b s 0 true) :
    Calls Tryd.prog 33 #[pt b] w fun r w' => r = .returned (.int .i64 (if s.size = 0 then 0 else 23)) ∧ w = w' := by
  have H := Lib.hid h
  clear h
  by_cases h0 : s.size = 0
  · rw [if_pos h0]
    have hz : s.size ≤ 0 := by omega
    clear h0
    go_enter Tryd.func33, Tryd.ntmps33
    go_wp2_with fail
    refine (live_left b s _ H.out).mono ?_
    rintro e w' ⟨rfl, rfl⟩
    go_wp2_with fail
    refine (err_live b s 0 _ H.out).mono ?_
    rintro e w' ⟨rfl, rfl⟩
    go_wp2_with fail
    go_ret
    exact ⟨rfl, rfl⟩
  · rw [if_neg h0]
    have hz : 0 < s.size := by omega
    clear h0
    go_enter Tryd.func33, Tryd.ntmps33
    go_wp2_with fail
    refine (live_left b s _ H.out).mono ?_
    rintro e w' ⟨rfl, rfl⟩
    go_wp2_with fail
    go_ret
    exact ⟨rfl, rfl⟩

theorem first_byte (s : ByteArray) (h : 0 < s.size) : (s.extract 0 1).toList = [s[0]] := by
  rw [Lib.extract_toList]
  simp only [List.drop_zero]
  rw [show s.data.toList = s.data.toList.drop 0 from rfl, drop_cons s 0 h]
  rfl
theorem less_hi (c : UInt8) (h : 1 < c.toNat) : Op.bytesLess [c] [1] = false ∧ (c == 1) = false := by
  have h1 : (c == 1) = false := by
    rw [beq_eq_false_iff_ne]; rintro rfl; revert h; decide
  refine ⟨?_, h1⟩
  unfold Op.bytesLess
  rw [h1, Bool.false_and, Bool.or_false, decide_eq_false]
  intro hl; have : c.toNat < 1 := hl; omega
theorem less_lo (c : UInt8) (h : c.toNat = 0) : Op.bytesLess [c] [1] = true ∧ (c == 1) = false := by
  obtain rfl : c = 0 := UInt8.toNat_inj.1 h
  exact ⟨by decide, by decide⟩
theorem less_one (c : UInt8) (h : c.toNat = 1) : Op.bytesLess [c] [1] = false ∧ (c == 1) = true := by
  obtain rfl : c = 1 := UInt8.toNat_inj.1 h
  exact ⟨by decide, by decide⟩

/-- A boolean. -/
def fBool (s : ByteArray) : Bool × ByteArray × Int :=
  match s.data.toList with
  | [] => (false, s, 5)
  | c :: _ => if 1 < c.toNat then (false, s.extract 1 s.size, 4) else (decide (c.toNat = 1), s.extract 1 s.size, 0)
theorem fBool_nil (s : ByteArray) (h : s.size = 0) : fBool s = (false, s, 5) := by
  have : s.data.toList = [] := List.eq_nil_of_length_eq_zero (by rw [toNat_bytes]; exact h)
  unfold fBool; rw [this]
theorem fBool_cons (s : ByteArray) (h : 0 < s.size) : fBool s = if 1 < s[0].toNat then (false, s.extract 1 s.size, 4) else (decide (s[0].toNat = 1), s.extract 1 s.size, 0) := by
  have : s.data.toList = s[0] :: s.data.toList.drop 1 := drop_cons s 0 h
  unfold fBool; rw [this]

end Go.Proofs.YtagkmfhicpcjnaaDoor.Wire
/- Contracts of wire's Reader: lists. -/
set_option linter.unusedVariables false
set_option maxRecDepth 100000
namespace Go.Proofs.YtagkmfhicpcjnaaDoor.Wire
open Go.RowKit

/-- A method of the Reader at block b as a value. -/
abbrev mv (f : Nat) (p : Value) : Value := .func (.func f) #[p] #[]

/-- So many numbers. -/
def gInts : Nat → ByteArray → List Int × ByteArray × Int
  | 0, t => ([], t, 0)
  | n + 1, t =>
    if (fInt t).2.2 ≠ 0 then ([], (fInt t).2.1, (fInt t).2.2)
    else if (gInts n (fInt t).2.1).2.2 ≠ 0 then ([], (gInts n (fInt t).2.1).2.1, (gInts n (fInt t).2.1).2.2)
    else ((fInt t).1 :: (gInts n (fInt t).2.1).1, (gInts n (fInt t).2.1).2.1, 0)
/-- A list of at most so many numbers. -/
def fInts (most : Int) (s : ByteArray) : List Int × ByteArray × Int :=
  if (fCount most s).2.2 ≠ 0 then ([], (fCount most s).2.1, (fCount most s).2.2) else gInts (fCount most s).1.toNat (fCount most s).2.1
/-- What was read so far, ahead of a result. -/
def ahead (ys : List Int) (r : List Int × ByteArray × Int) : List Int × ByteArray × Int := if r.2.2 ≠ 0 then ([], r.2.1, r.2.2) else (ys ++ r.1, r.2.1, 0)
theorem gInts_e (n : Nat) : ∀ t, (gInts n t).2.2 ≠ 0 → (gInts n t).1 = [] := by
  induction n with
  | zero => intro t h; rfl
  | succ n ih => intro t h; unfold gInts at *; (repeat' split at *) <;> simp_all
theorem gInts_eta (n : Nat) (t : ByteArray) : gInts n t = ahead [] (gInts n t) := by
  have h := gInts_e n t
  unfold ahead
  rcases hg : gInts n t with ⟨l, u, e⟩
  rw [hg] at h
  by_cases he : e = 0
  · simp [he]
  · have : l = [] := h he
    simp [he, this]
theorem ahead_bad (ys : List Int) (n : Nat) (t : ByteArray) (h : (fInt t).2.2 ≠ 0) : ahead ys (gInts (n + 1) t) = ([], (fInt t).2.1, (fInt t).2.2) := by
  conv => lhs; unfold gInts ahead
  simp [h]
theorem ahead_good (ys : List Int) (n : Nat) (t : ByteArray) (h : (fInt t).2.2 = 0) : ahead ys (gInts (n + 1) t) = ahead (ys ++ [(fInt t).1]) (gInts n (fInt t).2.1) := by
  conv => lhs; unfold gInts ahead
  unfold ahead
  by_cases h2 : (gInts n (fInt t).2.1).2.2 = 0 <;> simp [h, h2]
theorem ahead_done (ys : List Int) (t : ByteArray) : ahead ys (gInts 0 t) = (ys, t, 0) := by simp [ahead, gInts]

/-- Numbers as the cells of a row. -/
def i64s (l : List Int) : List Value := l.map (Value.int .i64)
theorem i64s_snoc (ys : List Int) (v : Int) : i64s ys ++ [.int .i64 v] = i64s (ys ++ [v]) := by unfold i64s; rw [List.map_append]; rfl
theorem isnoc_len (ys : List Int) (v : Int) : (ys ++ [v]).length = ys.length + 1 := by simp
theorem info_int : (Tryd.prog.info? 3).map (fun i => (i.zero, i.size, i.bytes)) = some (some (.int .i64 0), 1, 8) := by kernel_rfl
theorem gb_row {w w1 w2 : World} {r row : Option Nat} (h : w.grownBy w1 r) (k : w1.grownBy w2 row) (hr : ∀ g, row = some g → w.heap.size ≤ g) : w.grownBy w2 r :=
  ⟨k.os.trans h.os, k.tape.trans h.tape, k.output.trans h.output, Nat.le_trans h.size k.size, fun i hi hne =>
    (k.block i (Nat.lt_of_lt_of_le hi h.size) (fun e => by have := hr i e.symm; omega)).trans (h.block i hi hne)⟩
theorem gb_alloc {w w1 : World} {r : Option Nat} (h : w.grownBy w1 r) (o : Obj) : w.grownBy (w1.alloc o) r := gb_trans h (World.grownBy_alloc w1 o r)

theorem fInt_less (s : ByteArray) (hs : s.size ≤ 100000) (h : (fInt s).2.2 = 0) : (fInt s).2.1.size + 1 ≤ s.size := by
  unfold fInt at *
  rcases rd_ends s.data.toList 0 0 (by omega) (by omega) with e | e | ⟨v, n, e, h1, h2, h3, h4⟩
  · rw [e] at h; cases h
  · rw [e] at h; cases h
  · rw [e]; simp at h4 ⊢; omega

/-- What a call that reads a list leaves. -/
def OutL (b : Nat) (w : World) (q : List Int × ByteArray × Int) (r : Ending) (w' : World) : Prop :=
  ∃ v, r = .returned v ∧ PB w' b q.2.1 q.2.2 true ∧ w.grownBy w' (some b) ∧ w'.ownsRow w.heap.size 3 1 v q.1.length (i64s q.1)

end Go.Proofs.YtagkmfhicpcjnaaDoor.Wire
/- Contracts of the encoding functions of the reference. -/
set_option linter.unusedVariables false
set_option maxRecDepth 100000
namespace Go.Proofs.YtagkmfhicpcjnaaDoor.Wire
open Go.RowKit

theorem zig_pos2 (n : Int) (h1 : n ≤ 9223372036854775807) (h : 0 ≤ n) : n * 2 = ((zig n : Nat) : Int) := by rw [zig_pos n (by omega)]; omega

set_option maxRecDepth 100000 in
set_option maxHeartbeats 1000000 in
theorem rint_loop (base : Nat) (n : Int) (w : World) (hn : I64 n) :
    Calls Tryd.prog 54 #[.int .i64 n] w (OutS w (bs (enI n))) := by
  obtain ⟨i0, hi, hz0, hz1, hz2⟩ := info_parts info_u8
  have hz := zig_lt n hn
  obtain ⟨h1, h2⟩ := hn
  have E := Lib.hid (show enI n = en 10 (zig n) from rfl)
  have Z1 := zig_form n h1
  have Z2 := zig_pos2 n h2
  have N := World.ownsRow_nil w w.heap.size 5 1
  by_cases hneg : n < 0
  all_goals
    first | (have Z := Z1 hneg) | (have Z := Z2 (by omega))
    clear Z1 Z2
    go_enter Tryd.func54, Tryd.ntmps54
    go_wp2_with fail
    have HZ := Lib.hid Z
    clear Z
    go_loopw [3, 4] (fun form v wr => ∃ (f z : Nat) (ys : List UInt8), z < 18446744073709551616 ∧ form = .int .u64 (z : Nat) ∧ ys ++ en (f + 1) z = enI n ∧ ys.length + f + 1 ≤ 10 ∧ z < 128 ^ (f + 1) ∧ wr.ownsRow w.heap.size 5 1 v ys.length (u8s ys) ∧ Below w.heap.size w wr) (fun form _ _ => (intOf form).toNat)
    case atStart => exact ⟨9, zig n, [], hz, val_int (by first | rfl | exact HZ.out), by rw [E.out]; rfl, by simp, by omega, N, Below.refl _ _⟩
    case round =>
      obtain ⟨f, z, ys, hzl, rfl, hys, hlen, hzf, hown, hnx⟩ := hrel
      have HY := Lib.hid hys
      have hsz := hnx.size
      clear hys N hz h1 h2
      have hz7 : z / 128 < 18446744073709551616 := by omega
      have HL := Lib.hid (fun k (hk : u4.ownBlock = some k) => (hown.lt k hk).1)
      by_cases h : z < 128
      · have ES := Lib.hid (en_small f z h)
        go_wp2_with (at_builtin; refine wpList_append_own _ rfl (.tmp 23) (.tmp 26) 65 rfl w.heap.size 5 i0 (.int .u8 0) 1 1 Tryd.underlying65 hi hz0 hz1 hz2 rfl (by decide) _ _ _ rfl (hown.alloc _) ⟨wr.heap.size, 0, none⟩ 1 1 [.int .u8 (z : Int)] rfl rfl (one_cell _ _ _) ?c2 ?c3 ?c4 ?c5 ?_)
        case c2 => intro u hu; simp at hu; subst hu; rfl
        case c3 => unfold maxLen; omega
        case c4 => omega
        case c5 => simp; omega
        intro v' w1 hown' hgrow _
        rw [u8s_snoc ys z (by omega)] at hown'
        have hcv := conv_own hown'
        have R := Lib.hid hown'
        clear hown' hown
        go_wp2_with fail
        go_ret
        exact ⟨ret_str (by rw [← HY.out, ES.out]), (hnx.alloc hsz _).grown hgrow (by simp; omega) HL.out⟩
      · have EB := Lib.hid (en_big f z h)
        have hf : 1 ≤ f := by
          rcases Nat.eq_zero_or_pos f with e | e
          · subst e; omega
          · exact e
        obtain ⟨g, rfl⟩ : ∃ g, f = g + 1 := ⟨f - 1, by omega⟩
        have hp := p128 (g + 1)
        have hzg : z / 128 < 128 ^ (g + 1) := by rw [Nat.div_lt_iff_lt_mul (by omega)]; omega
        have HP := Lib.hid hzg
        clear hp hzg hzf
        go_wp2_with (at_builtin; refine wpList_append_own _ rfl (.tmp 14) (.tmp 19) 65 rfl w.heap.size 5 i0 (.int .u8 0) 1 1 Tryd.underlying65 hi hz0 hz1 hz2 rfl (by decide) _ _ _ rfl (hown.alloc _) ⟨wr.heap.size, 0, none⟩ 1 1 [.int .u8 ((z : Int) % 128 + 128)] rfl rfl (one_cell _ _ _) ?c2 ?c3 ?c4 ?c5 ?_)
        case c2 => intro u hu; simp at hu; subst hu; rfl
        case c3 => unfold maxLen; omega
        case c4 => omega
        case c5 => simp; omega
        intro v' w1 hown' hgrow _
        have R := Lib.hid hown'
        clear hown' hown
        go_wp2_with fail
        go_roundw
        case rel =>
          refine ⟨g, z / 128, ys ++ [UInt8.ofNat (z % 128 + 128)], hz7, by go_num, by rw [← HY.out, EB.out]; simp, by rw [snoc_len]; omega, HP.out, ?_, (hnx.alloc hsz _).grown hgrow (by simp; omega) HL.out⟩
          have := R.out
          rw [u8s_snoc' ys z] at this
          rw [snoc_len]; exact this
        case measure => simp [intOf]; omega

theorem rint_any (n : Int) (w : World) (hn : I64 n) :
    Calls Tryd.prog 54 #[.int .i64 n] w (OutS w (bs (enI n))) := rint_loop 0 n w hn

set_option maxHeartbeats 400000 in
theorem rtext_any (s : ByteArray) (w : World) (hs : s.size ≤ 100000) :
    Calls Tryd.prog 55 #[.string s] w (OutS w (bs (enT s))) := by
  have E := Lib.hid (enT_str s)
  have hl : (bs (enI s.size)).size ≤ 10 := by rw [bs_size]; exact enI_length _
  go_enter Tryd.func55, Tryd.ntmps55
  go_wp2_with fail
  refine (rint_any s.size _ (nat_i64 _ (by omega))).mono ?_
  rintro e w' ⟨rfl, hb⟩
  go_wp2_with fail
  go_ret
  exact ⟨ret_str E.out, hb⟩

end Go.Proofs.YtagkmfhicpcjnaaDoor.Wire
/- Contracts of the reference's Reader. -/
set_option linter.unusedVariables false
set_option maxRecDepth 100000
namespace Go.Proofs.YtagkmfhicpcjnaaDoor.Wire
open Go.RowKit

/-- Block c is a Reader of the reference: the string, the position, the error. -/
def RB (w : World) (c : Nat) (S : ByteArray) (a : Nat) (e : Int) : Prop :=
  w.heap[c]? = some (.cells #[.string S, .int .i64 (a : Int), .int .i64 e, .bool true] 81 (0, 0))

section
variable {w w' : World} {c : Nat} {S : ByteArray} {a : Nat} {e : Int}
theorem RB.lt (h : RB w c S a e) : c < w.heap.size := (Array.getElem?_eq_some_iff.1 h).1
theorem RB.c0 (h : RB w c S a e) : w.cell? ⟨c, 0, none⟩ = some (.string S) := cell_of_row w c 0 _ _ (0, 0) h
theorem RB.c1 (h : RB w c S a e) : w.cell? ⟨c, 1, none⟩ = some (.int .i64 (a : Int)) := cell_of_row w c 1 _ _ (0, 0) h
theorem RB.c2 (h : RB w c S a e) : w.cell? ⟨c, 2, none⟩ = some (.int .i64 e) := cell_of_row w c 2 _ _ (0, 0) h
theorem RB.c3 (h : RB w c S a e) : w.cell? ⟨c, 3, none⟩ = some (.bool true) := cell_of_row w c 3 _ _ (0, 0) h
theorem RB.fr (h : RB w c S a e) (i : Nat) : w.frozen? ⟨c, i, none⟩ = false := by
  unfold RB at h; simp [World.frozen?, h]
theorem RB.set1 (h : RB w c S a e) (n : Nat) (x : Int) (hx : x = (n : Int)) : RB (w.setCell ⟨c, 1, none⟩ (.int .i64 x)) c S n e := by
  unfold RB at h ⊢; simp [World.setCell, Array.getElem?_modify, h, hx]
theorem RB.set2 (h : RB w c S a e) (f : Int) : RB (w.setCell ⟨c, 2, none⟩ (.int .i64 f)) c S a f := by
  unfold RB at h ⊢; simp [World.setCell, Array.getElem?_modify, h]
theorem RB.kept {r : Option Nat} (h : RB w c S a e) (hg : w.grownBy w' r) (hne : some c ≠ r) : RB w' c S a e := (hg.block c h.lt hne).trans h
theorem RB.drewN (h : RB w c S a e) (n : Nat) : RB (w.drewN n) c S a e := h
end

theorem rerr_any (c : Nat) (S : ByteArray) (a : Nat) (e : Int) (w : World) (h : RB w c S a e) :
    Calls Tryd.prog 76 #[pt c] w fun r w' => r = .returned (.int .i64 e) ∧ w = w' := by
  have h1 := h.c2
  have h2 := h.c3
  clear h
  go_enter Tryd.func76, Tryd.ntmps76
  go_wp2_with fail
  go_ret
  exact ⟨rfl, rfl⟩

/-- The world is the same but for draws. -/
def Same (w w' : World) : Prop := ∃ n, w' = w.drewN n

theorem rfail_any (c : Nat) (S : ByteArray) (a : Nat) (f : Int) (w : World) (h : RB w c S a 0) :
    Calls Tryd.prog 77 #[pt c, .int .i64 f] w fun r w' => r = .returned (.tuple #[]) ∧ RB w' c S a f ∧ w.grownBy w' (some c) := by
  have H := Lib.hid h
  have h1 := h.c2
  have hf := h.fr 2
  clear h
  go_enter Tryd.func77, Tryd.ntmps77
  go_wp2_with fail
  refine (rerr_any c S a 0 _ H.out).mono ?_
  rintro e w' ⟨rfl, rfl⟩
  go_wp2_with fail
  go_end0
  exact ⟨rfl, H.out.set2 f, gb_set _ _ _ _⟩
theorem rfail_dead (c : Nat) (S : ByteArray) (a : Nat) (e f : Int) (w : World) (h : RB w c S a e) (he : e ≠ 0) :
    Calls Tryd.prog 77 #[pt c, .int .i64 f] w fun r w' => r = .returned (.tuple #[]) ∧ w = w' := by
  have H := Lib.hid h
  have he' : (e == 0) = false := by simpa using he
  clear h he
  go_enter Tryd.func77, Tryd.ntmps77
  go_wp2_with fail
  refine (rerr_any c S a e _ H.out).mono ?_
  rintro r w' ⟨rfl, rfl⟩
  go_wp2_with fail
  go_end0
  exact ⟨rfl, rfl⟩

theorem rend_dead (c : Nat) (S : ByteArray) (a : Nat) (e : Int) (w : World) (h : RB w c S a e) (he : e ≠ 0) :
    Calls Tryd.prog 52 #[pt c] w fun r w' => r = .returned (.int .i64 e) ∧ w = w' := by
  have H := Lib.hid h
  have he' : (e != 0) = true := by simpa using he
  clear h he
  go_enter Tryd.func52, Tryd.ntmps52
  go_wp2_with fail
  refine (rerr_any c S a e _ H.out).mono ?_
  rintro r w' ⟨rfl, rfl⟩
  go_wp2_with fail
  refine (rerr_any c S a e _ H.out).mono ?_
  rintro r w' ⟨rfl, rfl⟩
  go_wp2_with fail
  go_ret
  exact ⟨rfl, rfl⟩
theorem rend_live (c : Nat) (S : ByteArray) (a : Nat) (w : World) (hs : S.size ≤ 100000) (ha : a ≤ S.size) (h : RB w c S a 0) :
    Calls Tryd.prog 52 #[pt c] w fun r w' => r = .returned (.int .i64 (if S.size - a = 0 then 0 else 23)) ∧ Same w w' := by
  have H := Lib.hid h
  have h0 := h.c0
  have h1 := h.c1
  clear h
  by_cases hlt : a < S.size
  all_goals
    first | rw [if_neg (by omega)] | rw [if_pos (by omega)]
    go_enter Tryd.func52, Tryd.ntmps52
    go_wp2_with fail
    refine (rerr_any c S a 0 _ H.out).mono ?_
    rintro r w' ⟨rfl, rfl⟩
    go_wp2_with fail
    go_quiet (fail)
    go_wp2_with fail
    go_ret
    exact ⟨rfl, _, rfl⟩

theorem rint_dead (c : Nat) (S : ByteArray) (a : Nat) (e : Int) (w : World) (h : RB w c S a e) (he : e ≠ 0) :
    Calls Tryd.prog 74 #[pt c] w fun r w' => r = .returned (.int .i64 0) ∧ w = w' := by
  have H := Lib.hid h
  have he' : (e != 0) = true := by simpa using he
  clear h he
  go_enter Tryd.func74, Tryd.ntmps74
  go_wp2_with fail
  refine (rerr_any c S a e _ H.out).mono ?_
  rintro r w' ⟨rfl, rfl⟩
  go_wp2_with fail
  go_ret
  exact ⟨rfl, rfl⟩

theorem drop_at (S : ByteArray) (a : Nat) : (S.extract a S.size).data.toList = S.data.toList.drop a := by
  rw [Lib.extract_data, List.take_of_length_le (by simp)]
theorem extract_extract (S : ByteArray) (a n : Nat) (ha : a ≤ S.size) : (S.extract a S.size).extract n (S.extract a S.size).size = S.extract (a + n) S.size := by
  apply of_data
  rw [drop_at, drop_at, drop_at, List.drop_drop]

/-- What a call of the reference's Reader leaves. -/
def OutR (c : Nat) (S : ByteArray) (w : World) (v : Value) (s : ByteArray) (e : Int) (r : Ending) (w' : World) : Prop :=
  r = .returned v ∧ (∃ a, a ≤ S.size ∧ RB w' c S a e ∧ (e = 0 → s = S.extract a S.size)) ∧ w.grownBy w' (some c)

theorem join_form2 (acc k m : Nat) (hk : k ≤ 9) (ha : acc < 128 ^ k) (h9 : k = 9 → m % 128 ≤ 1) :
    bits .or .u64 (acc : Int) (IntKind.u64.wrap ((m : Int) % 128 * 2 ^ (7 * k))) = ((acc + m % 128 * 128 ^ k : Nat) : Int) := by
  have h := join_form acc k (m % 128) hk ha (by omega) h9
  rw [show IntKind.u64.wrap ((m % 128 : Nat) : Int) = (m : Int) % 128 by rw [u64_wr]; omega] at h
  exact h
theorem rint_odd (v : Nat) (h : ((v : Int) % 2 == 1) = true) : -1 - (v : Int) / 2 = unzig v := by
  have h : (v : Int) % 2 = 1 := by simpa using h
  unfold unzig; rw [if_pos (by omega)]; omega
theorem rint_even (v : Nat) (h : ((v : Int) % 2 == 1) = false) : (v : Int) / 2 = unzig v := by
  have h : ¬ (v : Int) % 2 = 1 := by simpa using h
  unfold unzig; rw [if_neg (by omega)]; omega
theorem rem128 (c : Nat) : ((c : Int).tmod 128) = ((c % 128 : Nat) : Int) := by
  rw [Int.tmod_eq_emod_of_nonneg (by omega)]; omega

set_option maxRecDepth 100000 in
set_option maxHeartbeats 2000000 in
theorem rint_live (c : Nat) (S : ByteArray) (a : Nat) (w : World) (hs : S.size ≤ 100000) (ha : a ≤ S.size) (h : RB w c S a 0) :
    Calls Tryd.prog 74 #[pt c] w (OutR c S w (.int .i64 (fInt (S.extract a S.size)).1) (fInt (S.extract a S.size)).2.1 (fInt (S.extract a S.size)).2.2) := by
  have hsz : (S.extract a S.size).size ≤ 100000 := by simp; omega
  obtain ⟨f1, f2, f3, f4⟩ := rd_facts _ hsz
  obtain ⟨v, n, e, hr⟩ : ∃ v n e, rd 0 0 (S.extract a S.size).data.toList = (v, n, e) := ⟨_, _, _, rfl⟩
  have E := Lib.hid (show fInt (S.extract a S.size) = (unzig v, (S.extract a S.size).extract n (S.extract a S.size).size, e) by unfold fInt; rw [hr])
  rw [hr] at f1 f2 f3 f4
  rw [drop_at] at hr
  have HR := Lib.hid hr
  have H := Lib.hid h
  have F := Lib.hid f4
  have HX := Lib.hid (extract_extract S a n ha)
  clear h hr f2 f3 f4 hsz
  simp only at f1
  go_enter Tryd.func74, Tryd.ntmps74
  go_wp2_with fail
  refine (rerr_any c S a 0 _ H.out).mono ?_
  rintro r w' ⟨rfl, rfl⟩
  go_wp2_with fail
  go_loopw [3, 4, 5, 6] (fun form i _ _ wr => ∃ (k acc : Nat), k ≤ 9 ∧ a + k ≤ S.size ∧ acc < 128 ^ k ∧ i = .int .i64 k ∧ form = .int .u64 (acc : Nat) ∧ rd k acc (S.data.toList.drop (a + k)) = (v, n, e) ∧ RB wr c S a 0 ∧ w.grownBy wr (some c)) (fun _ i _ _ _ => S.size - (intOf i).toNat)
  case atStart => exact ⟨0, 0, by omega, by omega, by decide, rfl, rfl, HR.out, H.out, gb_refl _ _⟩
  case round =>
    obtain ⟨k, acc, hk9, hks, hacc, rfl, rfl, hr, hrb, hg⟩ := hrel
    have h0 := hrb.c0
    have h1 := hrb.c1
    have h2 := hrb.c2
    have hf1 := hrb.fr 1
    have hf2 := hrb.fr 2
    have R := Lib.hid hrb
    have G := Lib.hid hg
    clear hrb hg
    by_cases hlt : a + k < S.size
    · have hc := (S[a + k]).toNat_lt
      rw [drop_cons S (a + k) hlt] at hr
      have hi : (a : Int) + (k : Int) < S.size := by omega
      have hk10 : (k : Int) < 10 := by omega
      have HRD := Lib.hid hr
      clear hr
      have hd : (S[a + k]).toNat < 256 := hc
      clear hc
      go_wp2_with fail
      go_quiet (fail)
      go_wp2_with fail
      have hq1 : IntKind.i64.wrap ((a : Int) + (k : Int)) = (a : Int) + (k : Int) := IntWalk.i64_in _ (by omega)
      have hq2 : 0 ≤ (a : Int) + (k : Int) := by omega
      have hq3 : ((a : Int) + (k : Int)).toNat = a + k := by omega
      go_quiet (fail)
      obtain ⟨d, hdd⟩ : ∃ d, (S[a + k]).toNat = d := ⟨_, rfl⟩
      have hr := HRD.out
      clear HRD
      generalize (S[a + k]) = q at *
      clear hq1 hq2 hq3
      rw [hdd] at hd ⊢
      by_cases hbad : (0 < k ∧ q.toNat = 0) ∨ (k = 9 ∧ 1 < q.toNat)
      · rw [rd_bad _ _ _ _ hbad] at hr
        rw [hdd] at hbad
        cases hr
        clear hacc hdd
        by_cases hz : d = 0
        · subst hz
          have hk0 : 0 < k := by omega
          clear hbad
          go_wp2_with fail
          go_ret
          refine ⟨ret_int (by rw [E.out]; rfl), ⟨a, ha, ?_, fun h => ?_⟩, ?_⟩
          · rw [E.out]; exact (R.out.drewN _).set2 4
          · rw [E.out] at h; cases h
          · exact gb_trans (gb_trans G.out (gb_drewN _ _ _)) (gb_set _ _ _ _)
        · have hk0 : 9 ≤ k := by omega
          have hd1 : 1 < d := by omega
          clear hbad
          go_wp2_with fail
          go_ret
          refine ⟨ret_int (by rw [E.out]; rfl), ⟨a, ha, ?_, fun h => ?_⟩, ?_⟩
          · rw [E.out]; exact (R.out.drewN _).set2 4
          · rw [E.out] at h; cases h
          · exact gb_trans (gb_trans G.out (gb_drewN _ _ _)) (gb_set _ _ _ _)
      · by_cases hl : q.toNat < 128
        · rw [rd_last _ _ _ _ hbad hl] at hr
          rw [hdd] at hbad hl hr
          have hJ := join_form2 acc k d hk9 hacc (by omega)
          rw [show d % 128 = d by omega] at hJ
          obtain ⟨hv, hn, he⟩ : acc + d * 128 ^ k = v ∧ k + 1 = n ∧ 0 = e := by cases hr; exact ⟨rfl, rfl, rfl⟩
          rw [hv] at hJ
          subst he hn
          have HV := Lib.hid hJ
          clear hr hv hdd hacc
          by_cases h9 : k = 9
          · subst h9
            have hz : ((d : Int) == 0) = false := by simp; omega
            have hd1 : d ≤ 1 := by omega
            have hJ9 : bits .or .u64 (acc : Int) ((d : Int) % 128 * 9223372036854775808) = (v : Int) := by
              have h := HV.out
              rw [show (2 : Int) ^ (7 * 9) = 9223372036854775808 from rfl, show IntKind.u64.wrap ((d : Int) % 128 * 9223372036854775808) = (d : Int) % 128 * 9223372036854775808 by rw [u64_wr]; omega] at h
              exact h
            clear hbad hJ
            go_wp2_with fail
            · go_ret
              refine ⟨ret_int (by rw [E.out]; exact rint_odd v (by assumption)), ⟨a + (9 + 1), by omega, ?_, fun _ => ?_⟩, ?_⟩
              · rw [E.out]; exact (R.out.drewN _).set1 _ _ (by omega)
              · rw [E.out]; exact HX.out
              · exact gb_trans (gb_trans G.out (gb_drewN _ _ _)) (gb_set _ _ _ _)
            · go_ret
              refine ⟨ret_int (by rw [E.out]; exact rint_even v (by assumption)), ⟨a + (9 + 1), by omega, ?_, fun _ => ?_⟩, ?_⟩
              · rw [E.out]; exact (R.out.drewN _).set1 _ _ (by omega)
              · rw [E.out]; exact HX.out
              · exact gb_trans (gb_trans G.out (gb_drewN _ _ _)) (gb_set _ _ _ _)
          · have hz : 0 < k → ¬ d = 0 := by omega
            clear hbad
            by_cases h0 : 0 < k
            · have hz2 := hz h0
              clear hz
              go_wp2_with fail
              · go_ret
                refine ⟨ret_int (by rw [E.out]; exact rint_odd v (by assumption)), ⟨a + (k + 1), by omega, ?_, fun _ => ?_⟩, ?_⟩
                · rw [E.out]; exact (R.out.drewN _).set1 _ _ (by omega)
                · rw [E.out]; exact HX.out
                · exact gb_trans (gb_trans G.out (gb_drewN _ _ _)) (gb_set _ _ _ _)
              · go_ret
                refine ⟨ret_int (by rw [E.out]; exact rint_even v (by assumption)), ⟨a + (k + 1), by omega, ?_, fun _ => ?_⟩, ?_⟩
                · rw [E.out]; exact (R.out.drewN _).set1 _ _ (by omega)
                · rw [E.out]; exact HX.out
                · exact gb_trans (gb_trans G.out (gb_drewN _ _ _)) (gb_set _ _ _ _)
            · clear hz
              go_wp2_with fail
              · go_ret
                refine ⟨ret_int (by rw [E.out]; exact rint_odd v (by assumption)), ⟨a + (k + 1), by omega, ?_, fun _ => ?_⟩, ?_⟩
                · rw [E.out]; exact (R.out.drewN _).set1 _ _ (by omega)
                · rw [E.out]; exact HX.out
                · exact gb_trans (gb_trans G.out (gb_drewN _ _ _)) (gb_set _ _ _ _)
              · go_ret
                refine ⟨ret_int (by rw [E.out]; exact rint_even v (by assumption)), ⟨a + (k + 1), by omega, ?_, fun _ => ?_⟩, ?_⟩
                · rw [E.out]; exact (R.out.drewN _).set1 _ _ (by omega)
                · rw [E.out]; exact HX.out
                · exact gb_trans (gb_trans G.out (gb_drewN _ _ _)) (gb_set _ _ _ _)
        · rw [rd_more _ _ _ _ (by omega) hl] at hr
          rw [hdd] at hbad hl hr
          have hk8 : k ≤ 8 := by omega
          have hJ := Lib.hid (join_form2 acc k d hk9 hacc (by omega))
          have hacc2 : acc + d % 128 * 128 ^ k < 128 ^ (k + 1) := by
            have : d % 128 * 128 ^ k ≤ 127 * 128 ^ k := Nat.mul_le_mul_right _ (by omega)
            rw [p128]; omega
          have HA := Lib.hid hacc2
          have HRD := Lib.hid hr
          have hz : ¬ d = 0 := by omega
          clear hr hdd hacc hacc2 hbad
          by_cases h0 : 0 < k
          all_goals
            go_wp2_with fail
            go_roundw
            case rel => exact ⟨k + 1, acc + d % 128 * 128 ^ k, by omega, by omega, HA.out, by go_num, val_int (by rw [← hJ.out]), HRD.out, R.out.drewN _, gb_trans G.out (gb_drewN _ _ _)⟩
            case measure => simp [intOf]; omega
    · have hr2 : rd k acc [] = (v, n, e) := by
        rw [List.drop_of_length_le (by simp; omega)] at hr; exact hr
      rw [rd_nil] at hr2
      cases hr2
      have hi : (S.size : Int) ≤ (a : Int) + (k : Int) := by omega
      have hk10 : (k : Int) < 10 := by omega
      clear hr hacc
      go_wp2_with fail
      go_quiet (fail)
      go_wp2_with fail
      go_ret
      refine ⟨ret_int (by rw [E.out]; rfl), ⟨a, ha, ?_, fun h => ?_⟩, ?_⟩
      · rw [E.out]; exact (R.out.drewN _).set2 5
      · rw [E.out] at h; cases h
      · exact gb_trans (gb_trans G.out (gb_drewN _ _ _)) (gb_set _ _ _ _)
end Go.Proofs.YtagkmfhicpcjnaaDoor.Wire
/- What was written is read back; what is read is the encoding of what it says: no program in sight. -/
set_option linter.unusedVariables false
set_option maxRecDepth 100000
namespace Go.Proofs.YtagkmfhicpcjnaaDoor.Wire
open Go.RowKit

theorem extract_bs (a t : List UInt8) (n : Nat) (h : n = a.length) : (bs (a ++ t)).extract n (bs (a ++ t)).size = bs t := by
  apply of_data
  rw [drop_at, bs_data, bs_data, h, List.drop_left]
theorem fInt_back (n : Int) (t : List UInt8) (hn : I64 n) : fInt (bs (enI n ++ t)) = (n, bs t, 0) := by
  have h : rd 0 0 (enI n ++ t) = (zig n, (enI n).length, 0) := by
    have h := rd_en 10 0 (zig n) 0 t rfl (by have := zig_lt n hn; omega) (fun h => absurd h (by omega))
    unfold enI
    rw [h]; simp
  unfold fInt
  rw [bs_data, h, unzig_zig, extract_bs _ _ _ rfl]
theorem fCount_back (m n : Int) (t : List UInt8) (hn : I64 n) (h0 : 0 ≤ n) (hm : n ≤ m) : fCount m (bs (enI n ++ t)) = (n, bs t, 0) := by
  unfold fCount
  rw [fInt_back n t hn]
  simp only [ne_eq, not_true, if_false]
  rw [if_neg (by omega), if_neg (by omega)]
theorem fTake_back (s : ByteArray) (t : List UInt8) : fTake s.size (bs (s.data.toList ++ t)) = (s, bs t, 0) := by
  unfold fTake
  rw [if_neg (by rw [bs_size, List.length_append, toNat_bytes]; omega), extract_bs _ _ _ (toNat_bytes s).symm]
  congr 1
  apply of_data
  rw [Lib.extract_data, bs_data, List.drop_zero, Nat.sub_zero, ← toNat_bytes, List.take_left]
theorem fText_back (s : ByteArray) (t : List UInt8) (hs : s.size ≤ 100000) : fText s.size (bs (enT s ++ t)) = (s, bs t, 0) := by
  unfold fText enT
  rw [List.append_assoc, fCount_back _ _ _ (nat_i64 _ (by omega)) (by omega) (Int.le_refl _)]
  simp only [ne_eq, not_true, if_false, Int.toNat_natCast]
  exact fTake_back s t
theorem fBool_back (q : Bool) (t : List UInt8) : fBool (bs (enB q ++ t)) = (q, bs t, 0) := by
  have hx : ∀ c : UInt8, (bs (c :: t)).extract 1 (bs (c :: t)).size = bs t := fun c => extract_bs [c] t 1 rfl
  cases q
  · show fBool (bs (0 :: t)) = _
    unfold fBool
    rw [bs_data]
    simp only [hx]
    rfl
  · show fBool (bs (1 :: t)) = _
    unfold fBool
    rw [bs_data]
    simp only [hx]
    rfl
theorem gInts_back (l : List Int) : ∀ t : List UInt8, (∀ n ∈ l, I64 n) → gInts l.length (bs (enAll l ++ t)) = (l, bs t, 0) := by
  induction l with
  | nil => intro t _; rfl
  | cons n l ih =>
    intro t h
    have e : enAll (n :: l) ++ t = enI n ++ (enAll l ++ t) := by unfold enAll; rw [List.flatMap_cons, List.append_assoc]
    rw [e, List.length_cons]
    unfold gInts
    rw [fInt_back n _ (h n List.mem_cons_self)]
    simp only [ne_eq, not_true, if_false]
    rw [ih t fun m hm => h m (List.mem_cons_of_mem _ hm)]
    simp
theorem fInts_back (m : Int) (l : List Int) (t : List UInt8) (hl : (l.length : Int) ≤ m) (hlen : l.length ≤ 100000) (h : ∀ n ∈ l, I64 n) : fInts m (bs (enL l ++ t)) = (l, bs t, 0) := by
  unfold fInts enL
  rw [List.append_assoc, fCount_back _ _ _ (nat_i64 _ (by omega)) (by omega) hl]
  simp only [ne_eq, not_true, if_false, Int.toNat_natCast]
  exact gInts_back l t h

/-- The encoding of what was read, and what is left, is what there was. -/
theorem fInt_canon (s t : ByteArray) (v : Int) (hs : s.size ≤ 100000) (h : fInt s = (v, t, 0)) : I64 v ∧ s.data.toList = enI v ++ t.data.toList := by
  unfold fInt at h
  obtain ⟨h1, h2, h3⟩ : unzig (rd 0 0 s.data.toList).1 = v ∧ s.extract (rd 0 0 s.data.toList).2.1 s.size = t ∧ (rd 0 0 s.data.toList).2.2 = 0 := by
    simpa using h
  have hrd : rd 0 0 s.data.toList = ((rd 0 0 s.data.toList).1, (rd 0 0 s.data.toList).2.1, 0) := by rw [← h3]
  obtain ⟨z, hz, hz2, hn, hl, ht⟩ := en_rd s.data.toList 0 0 _ _ (by omega) hrd
  simp only [Nat.pow_zero, Nat.mul_one, Nat.zero_add, Nat.sub_zero] at hz hz2 ht
  rw [hz] at h1
  refine ⟨h1 ▸ unzig_in z hz2, ?_⟩
  have e : enI v = en 10 z := by unfold enI; rw [← h1, zig_unzig]
  rw [e, ← ht, ← h2, drop_at, List.take_append_drop]
theorem fCount_canon (m v : Int) (s t : ByteArray) (hs : s.size ≤ 100000) (h : fCount m s = (v, t, 0)) : 0 ≤ v ∧ v ≤ max m 0 ∧ I64 v ∧ s.data.toList = enI v ++ t.data.toList := by
  unfold fCount at h
  by_cases h1 : (fInt s).2.2 = 0
  · rw [if_neg (by simpa using h1)] at h
    by_cases h2 : (fInt s).1 < 0
    · rw [if_pos h2] at h; cases h
    · rw [if_neg h2] at h
      by_cases h3 : max m 0 < (fInt s).1
      · rw [if_pos h3] at h; cases h
      · rw [if_neg h3] at h
        obtain ⟨e1, e2⟩ : (fInt s).1 = v ∧ (fInt s).2.1 = t := by simpa using h
        obtain ⟨c1, c2⟩ := fInt_canon s t v hs (by rw [← e1, ← e2, ← h1])
        exact ⟨by omega, by omega, c1, c2⟩
  · rw [if_pos h1] at h
    have : (fInt s).2.2 = 0 := by have := congrArg (fun x => x.2.2) h; simpa using this
    exact absurd this h1
theorem fTake_canon (n : Nat) (s u t : ByteArray) (h : fTake n s = (u, t, 0)) : n = u.size ∧ s.data.toList = u.data.toList ++ t.data.toList := by
  unfold fTake at h
  by_cases h1 : s.size < n
  · rw [if_pos h1] at h; cases h
  · rw [if_neg h1] at h
    obtain ⟨rfl, rfl⟩ : s.extract 0 n = u ∧ s.extract n s.size = t := by simpa using h
    refine ⟨by simp; omega, ?_⟩
    rw [drop_at, Lib.extract_data, List.drop_zero, Nat.sub_zero, List.take_append_drop]
theorem fText_canon (m : Int) (s u t : ByteArray) (hs : s.size ≤ 100000) (h : fText m s = (u, t, 0)) : (u.size : Int) ≤ max m 0 ∧ s.data.toList = enT u ++ t.data.toList := by
  unfold fText at h
  by_cases h1 : (fCount m s).2.2 = 0
  · rw [if_neg (by simpa using h1)] at h
    obtain ⟨c0, c1, c2, c3⟩ := fCount_canon m _ s (fCount m s).2.1 hs (by rw [← h1])
    obtain ⟨t1, t2⟩ := fTake_canon _ _ _ _ h
    have e : (fCount m s).1 = (u.size : Int) := by omega
    rw [e] at c1 c3
    refine ⟨c1, ?_⟩
    rw [c3, t2]; unfold enT; rw [List.append_assoc]
  · rw [if_pos h1] at h
    have : (fCount m s).2.2 = 0 := by have := congrArg (fun x => x.2.2) h; simpa using this
    exact absurd this h1
theorem fBool_canon (q : Bool) (s t : ByteArray) (h : fBool s = (q, t, 0)) : s.data.toList = enB q ++ t.data.toList := by
  by_cases h0 : 0 < s.size
  · rw [fBool_cons s h0] at h
    by_cases h1 : 1 < s[0].toNat
    · rw [if_pos h1] at h; cases h
    · rw [if_neg h1] at h
      obtain ⟨rfl, rfl⟩ : decide (s[0].toNat = 1) = q ∧ s.extract 1 s.size = t := by simpa using h
      rw [drop_at]
      have e : s.data.toList = s[0] :: s.data.toList.drop 1 := drop_cons s 0 h0
      conv => lhs; rw [e]
      by_cases h2 : s[0].toNat = 1
      · have : s[0] = 1 := UInt8.toNat_inj.1 h2
        rw [decide_eq_true h2, this]; rfl
      · have : s[0] = 0 := UInt8.toNat_inj.1 (by show s[0].toNat = 0; omega)
        rw [decide_eq_false h2, this]; rfl
  · rw [fBool_nil s (by omega)] at h; cases h
theorem gInts_canon (n : Nat) : ∀ (s t : ByteArray) (l : List Int), s.size ≤ 100000 → gInts n s = (l, t, 0) → l.length = n ∧ (∀ m ∈ l, I64 m) ∧ s.data.toList = enAll l ++ t.data.toList := by
  induction n with
  | zero =>
    intro s t l hs h
    cases h
    exact ⟨rfl, fun _ h => absurd h List.not_mem_nil, rfl⟩
  | succ n ih =>
    intro s t l hs h
    unfold gInts at h
    by_cases h1 : (fInt s).2.2 = 0
    · rw [if_neg (by simpa using h1)] at h
      by_cases h2 : (gInts n (fInt s).2.1).2.2 = 0
      · rw [if_neg (by simpa using h2)] at h
        obtain ⟨rfl, e2⟩ : (fInt s).1 :: (gInts n (fInt s).2.1).1 = l ∧ (gInts n (fInt s).2.1).2.1 = t := by simpa using h
        obtain ⟨c1, c2⟩ := fInt_canon s (fInt s).2.1 (fInt s).1 hs (by rw [← h1])
        have hz := fInt_size s hs
        obtain ⟨d1, d2, d3⟩ := ih (fInt s).2.1 t (gInts n (fInt s).2.1).1 (by omega) (by rw [← e2, ← h2])
        refine ⟨by rw [List.length_cons, d1], fun m hm => ?_, ?_⟩
        · rcases List.mem_cons.1 hm with rfl | hm
          · exact c1
          · exact d2 m hm
        · rw [c2, d3]; unfold enAll; rw [List.flatMap_cons, List.append_assoc]
      · rw [if_pos h2] at h
        have : (gInts n (fInt s).2.1).2.2 = 0 := by have := congrArg (fun x => x.2.2) h; simpa using this
        exact absurd this h2
    · rw [if_pos h1] at h
      have : (fInt s).2.2 = 0 := by have := congrArg (fun x => x.2.2) h; simpa using this
      exact absurd this h1
theorem fInts_canon (m : Int) (s t : ByteArray) (l : List Int) (hs : s.size ≤ 100000) (h : fInts m s = (l, t, 0)) : (l.length : Int) ≤ max m 0 ∧ (∀ m ∈ l, I64 m) ∧ s.data.toList = enL l ++ t.data.toList := by
  unfold fInts at h
  by_cases h1 : (fCount m s).2.2 = 0
  · rw [if_neg (by simpa using h1)] at h
    obtain ⟨c0, c1, c2, c3⟩ := fCount_canon m _ s (fCount m s).2.1 hs (by rw [← h1])
    have hz := fCount_size m s hs
    obtain ⟨d1, d2, d3⟩ := gInts_canon _ _ _ _ (by omega) h
    have e : (fCount m s).1 = (l.length : Int) := by omega
    rw [e] at c1 c3
    refine ⟨c1, d2, ?_⟩
    rw [c3, d3]; unfold enL; rw [List.append_assoc]
  · rw [if_pos h1] at h
    have : (fCount m s).2.2 = 0 := by have := congrArg (fun x => x.2.2) h; simpa using this
    exact absurd this h1
end Go.Proofs.YtagkmfhicpcjnaaDoor.Wire
/- Plain mathematics of names, quoted forms and the parts of a line; no program in sight. -/
set_option linter.unusedVariables false
set_option maxRecDepth 100000
namespace Go.Proofs.YtagkmfhicpcjnaaDoor.Names
open Go.RowKit

/-- A byte that is its own form. -/
def pl (c : UInt8) : Bool := decide (32 ≤ c.toNat ∧ c.toNat ≤ 126 ∧ c.toNat ≠ 34 ∧ c.toNat ≠ 92)
/-- A hexadecimal digit. -/
def hx (n : Nat) : UInt8 := UInt8.ofNat (if n < 10 then 48 + n else 87 + n)
/-- The value of a hexadecimal digit; 16 if it is none. -/
def hv (c : UInt8) : Nat := if 48 ≤ c.toNat ∧ c.toNat ≤ 57 then c.toNat - 48 else if 97 ≤ c.toNat ∧ c.toNat ≤ 102 then c.toNat - 87 else 16
/-- The form of a byte. -/
def fm (c : UInt8) : List UInt8 :=
  if c.toNat = 34 ∨ c.toNat = 92 then [92, c] else if c.toNat < 32 ∨ 126 < c.toNat then [92, 120, hx (c.toNat / 16), hx (c.toNat % 16)] else [c]
/-- The forms of these bytes. -/
def qb (l : List UInt8) : List UInt8 := l.flatMap fm
/-- The quoted form. -/
def quo (l : List UInt8) : List UInt8 := 34 :: (qb l ++ [34])
theorem qb_nil : qb [] = [] := rfl
theorem qb_cons (c : UInt8) (l : List UInt8) : qb (c :: l) = fm c ++ qb l := rfl
theorem qb_append (a b : List UInt8) : qb (a ++ b) = qb a ++ qb b := by unfold qb; rw [List.flatMap_append]
theorem qb_snoc (a : List UInt8) (c : UInt8) : qb (a ++ [c]) = qb a ++ fm c := by rw [qb_append, qb_cons, qb_nil, List.append_nil]

theorem hv_hx (n : Nat) (h : n < 16) : hv (hx n) = n := by
  unfold hv hx
  by_cases h1 : n < 10
  · rw [if_pos h1, UInt8.toNat_ofNat', Nat.mod_eq_of_lt (by omega), if_pos (by omega)]; omega
  · rw [if_neg h1, UInt8.toNat_ofNat', Nat.mod_eq_of_lt (by omega), if_neg (by omega), if_pos (by omega)]; omega
theorem hx_hv (c : UInt8) (h : hv c < 16) : hx (hv c) = c := by
  have hc := c.toNat_lt
  apply UInt8.toNat_inj.1
  by_cases h1 : 48 ≤ c.toNat ∧ c.toNat ≤ 57
  · have e : hv c = c.toNat - 48 := by unfold hv; rw [if_pos h1]
    rw [e]; unfold hx; rw [if_pos (by omega), UInt8.toNat_ofNat']; omega
  · by_cases h2 : 97 ≤ c.toNat ∧ c.toNat ≤ 102
    · have e : hv c = c.toNat - 87 := by unfold hv; rw [if_neg h1, if_pos h2]
      rw [e]; unfold hx; rw [if_neg (by omega), UInt8.toNat_ofNat']; omega
    · have e : hv c = 16 := by unfold hv; rw [if_neg h1, if_neg h2]
      omega
theorem hx_byte (n : Nat) (h : n < 16) : 48 ≤ (hx n).toNat ∧ (hx n).toNat ≤ 102 ∧ (hx n).toNat ≠ 92 := by
  unfold hx
  split <;> rw [UInt8.toNat_ofNat'] <;> omega
theorem hv_byte (c : UInt8) (h : hv c < 16) : c.toNat < 128 := by
  unfold hv at h
  split at h
  · omega
  · split at h
    · omega
    · omega

/-- What stands behind a backslash: the byte, the whole escape's size. -/
def esc : List UInt8 → Option (UInt8 × Nat)
  | [] => none
  | a :: r => if a.toNat = 34 ∨ a.toNat = 92 then some (a, 2) else if a.toNat = 120 then
      match r with
      | h :: g :: _ => if hv h < 16 ∧ hv g < 16 ∧ ¬ (32 ≤ 16 * hv h + hv g ∧ 16 * hv h + hv g ≤ 126) then some (UInt8.ofNat (16 * hv h + hv g), 4) else none
      | _ => none
    else none
/-- The byte with whose form these bytes begin, and the form's size. -/
def stp : List UInt8 → Option (UInt8 × Nat)
  | [] => none
  | c :: r => if c.toNat = 92 then esc r else if pl c then some (c, 1) else none
/-- The text up to the closing quote, and the number of bytes with the quote. -/
def rd : Nat → List UInt8 → Option (List UInt8 × Nat)
  | 0, _ => none
  | f + 1, l => if l.head? = some 34 then some ([], 1) else
    match stp l with
    | none => none
    | some (c, n) => (rd f (l.drop n)).map fun x => (c :: x.1, n + x.2)
/-- The text with whose quoted form these bytes begin, and that form's size. -/
def rdq (l : List UInt8) : Option (List UInt8 × Nat) := if l.head? = some 34 then (rd l.length (l.drop 1)).map fun x => (x.1, 1 + x.2) else none

theorem stp_cons (a : UInt8) (r : List UInt8) : stp (a :: r) = if a.toNat = 92 then esc r else if pl a then some (a, 1) else none := rfl
theorem esc_self (a : UInt8) (r : List UInt8) (h : a.toNat = 34 ∨ a.toNat = 92) : esc (a :: r) = some (a, 2) := by
  simp only [esc]; rw [if_pos h]
theorem esc_other (a : UInt8) (r : List UInt8) (h : ¬ (a.toNat = 34 ∨ a.toNat = 92)) (h2 : ¬ a.toNat = 120) : esc (a :: r) = none := by
  simp only [esc]; rw [if_neg h, if_neg h2]
theorem esc_short0 (a : UInt8) (h : a.toNat = 120) : esc [a] = none := by
  simp only [esc]; rw [if_neg (by omega), if_pos h]
theorem esc_short1 (a b : UInt8) (h : a.toNat = 120) : esc [a, b] = none := by
  simp only [esc]; rw [if_neg (by omega), if_pos h]
theorem esc_hex (a b c : UInt8) (r : List UInt8) (h : a.toNat = 120) : esc (a :: b :: c :: r) = if hv b < 16 ∧ hv c < 16 ∧ ¬ (32 ≤ 16 * hv b + hv c ∧ 16 * hv b + hv c ≤ 126) then some (UInt8.ofNat (16 * hv b + hv c), 4) else none := by
  simp only [esc]; rw [if_neg (by omega), if_pos h]
theorem esc_sound {r : List UInt8} {c : UInt8} {n : Nat} (h : esc r = some (c, n)) : ∃ t, 92 :: r = fm c ++ t ∧ n = (fm c).length := by
  match r, h with
  | a :: r, h =>
    by_cases h1 : a.toNat = 34 ∨ a.toNat = 92
    · rw [esc_self a r h1] at h
      cases h
      refine ⟨r, ?_, ?_⟩ <;> unfold fm <;> rw [if_pos h1] <;> rfl
    · by_cases h2 : a.toNat = 120
      · have ha : a = 120 := UInt8.toNat_inj.1 (by rw [h2]; rfl)
        match r, h with
        | [], h => rw [esc_short0 a h2] at h; cases h
        | [b], h => rw [esc_short1 a b h2] at h; cases h
        | h' :: g :: r, h =>
          rw [esc_hex a h' g r h2] at h
          split at h
          · rename_i hc
            obtain ⟨hc1, hc2, hc3⟩ := hc
            cases h
            have e : (UInt8.ofNat (16 * hv h' + hv g)).toNat = 16 * hv h' + hv g := by rw [UInt8.toNat_ofNat']; omega
            have ef : fm (UInt8.ofNat (16 * hv h' + hv g)) = [92, 120, h', g] := by
              unfold fm
              rw [e, if_neg (by omega), if_pos (by omega), show (16 * hv h' + hv g) / 16 = hv h' by omega, show (16 * hv h' + hv g) % 16 = hv g by omega, hx_hv _ hc1, hx_hv _ hc2]
            exact ⟨r, by rw [ef, ha]; rfl, by rw [ef]; rfl⟩
          · cases h
      · rw [esc_other a r h1 h2] at h; cases h
theorem pl_fm {c : UInt8} (h : pl c = true) : fm c = [c] := by
  unfold pl at h
  have h := of_decide_eq_true h
  unfold fm
  rw [if_neg (by omega), if_neg (by omega)]
theorem stp_sound {l : List UInt8} {c : UInt8} {n : Nat} (h : stp l = some (c, n)) : ∃ t, l = fm c ++ t ∧ n = (fm c).length := by
  match l, h with
  | a :: r, h =>
    rw [stp_cons] at h
    by_cases h1 : a.toNat = 92
    · rw [if_pos h1] at h
      have ha : a = 92 := UInt8.toNat_inj.1 (by rw [h1]; rfl)
      rw [ha]
      exact esc_sound h
    · rw [if_neg h1] at h
      by_cases h2 : pl a = true
      · rw [if_pos h2] at h
        cases h
        exact ⟨r, by rw [pl_fm h2]; rfl, by rw [pl_fm h2]; rfl⟩
      · rw [if_neg h2] at h; cases h
theorem fm_length (c : UInt8) : 1 ≤ (fm c).length ∧ (fm c).length ≤ 4 := by
  unfold fm; split
  · simp
  · split <;> simp
theorem stp_fm (c : UInt8) (t : List UInt8) : stp (fm c ++ t) = some (c, (fm c).length) := by
  have hc := c.toNat_lt
  by_cases h1 : c.toNat = 34 ∨ c.toNat = 92
  · have e : fm c = [92, c] := by unfold fm; rw [if_pos h1]
    rw [e]
    exact esc_self c t h1
  · by_cases h2 : c.toNat < 32 ∨ 126 < c.toNat
    · have e : fm c = [92, 120, hx (c.toNat / 16), hx (c.toNat % 16)] := by unfold fm; rw [if_neg h1, if_pos h2]
      rw [e]
      show esc (120 :: hx (c.toNat / 16) :: hx (c.toNat % 16) :: t) = _
      rw [esc_hex _ _ _ _ rfl, hv_hx _ (by omega), hv_hx _ (by omega), if_pos (by omega), show 16 * (c.toNat / 16) + c.toNat % 16 = c.toNat by omega]
      simp
    · have hp : pl c = true := by unfold pl; exact decide_eq_true (by omega)
      rw [pl_fm hp]
      show stp (c :: t) = _
      rw [stp_cons, if_neg (by omega), if_pos hp]; rfl
theorem fm_head (c : UInt8) (t : List UInt8) : (fm c ++ t).head? ≠ some 34 := by
  unfold fm
  split
  · simp
  · split
    · simp
    · rename_i h1 h2
      intro h
      simp at h
      rw [h] at h1
      exact h1 (Or.inl rfl)

theorem rd_quote (f : Nat) (l : List UInt8) (h : l.head? = some 34) : rd (f + 1) l = some ([], 1) := by
  show (if l.head? = some 34 then _ else _) = _
  rw [if_pos h]
theorem rd_none (f : Nat) (l : List UInt8) (h : l.head? ≠ some 34) (h2 : stp l = none) : rd (f + 1) l = none := by
  show (if l.head? = some 34 then _ else _) = _
  rw [if_neg h, h2]
theorem rd_some (f : Nat) (l : List UInt8) (c : UInt8) (n : Nat) (h : l.head? ≠ some 34) (h2 : stp l = some (c, n)) : rd (f + 1) l = (rd f (l.drop n)).map fun x => (c :: x.1, n + x.2) := by
  show (if l.head? = some 34 then _ else _) = _
  rw [if_neg h, h2]

theorem drop_len {a b : List UInt8} {n : Nat} (h : n = a.length) : (a ++ b).drop n = b := by rw [h, List.drop_left]

theorem rd_sound (f : Nat) : ∀ (l : List UInt8) (t : List UInt8) (m : Nat), rd f l = some (t, m) → ∃ r, l = qb t ++ 34 :: r ∧ m = (qb t).length + 1 := by
  induction f with
  | zero => intro l t m h; cases h
  | succ f ih =>
    intro l t m h
    by_cases h1 : l.head? = some 34
    · rw [rd_quote f l h1] at h
      cases h
      match l, h1 with
      | a :: r, h1 => simp at h1; exact ⟨r, by rw [h1]; rfl, rfl⟩
    · rcases h2 : stp l with _ | ⟨c, n⟩
      · rw [rd_none f l h1 h2] at h; cases h
      · rw [rd_some f l c n h1 h2] at h
        obtain ⟨r, rfl, hn⟩ := stp_sound h2
        rw [drop_len hn] at h
        rcases h3 : rd f r with _ | ⟨t', m'⟩
        · rw [h3] at h; cases h
        · rw [h3] at h
          cases h
          obtain ⟨r', rfl, hm⟩ := ih _ _ _ h3
          exact ⟨r', by rw [qb_cons, List.append_assoc], by dsimp only; rw [qb_cons, List.length_append, hm, hn]; omega⟩
theorem rd_complete (t : List UInt8) : ∀ (f : Nat) (r : List UInt8), t.length < f → rd f (qb t ++ 34 :: r) = some (t, (qb t).length + 1) := by
  induction t with
  | nil =>
    intro f r h
    obtain ⟨f, rfl⟩ : ∃ g, f = g + 1 := ⟨f - 1, by omega⟩
    rw [rd_quote f _ rfl]; rfl
  | cons c t ih =>
    intro f r h
    obtain ⟨f, rfl⟩ : ∃ g, f = g + 1 := ⟨f - 1, by omega⟩
    rw [qb_cons, List.append_assoc, rd_some f _ c _ (fm_head c _) (stp_fm c _), List.drop_left, ih f r (by simp at h; omega)]
    simp; omega
theorem qb_length (t : List UInt8) : t.length ≤ (qb t).length ∧ (qb t).length ≤ 4 * t.length := by
  induction t with
  | nil => exact ⟨Nat.le_refl _, Nat.le_refl _⟩
  | cons c t ih =>
    have := fm_length c
    rw [qb_cons, List.length_append, List.length_cons]; omega
theorem quo_length (t : List UInt8) : (quo t).length = (qb t).length + 2 := by unfold quo; simp

theorem rdq_sound {l t : List UInt8} {m : Nat} (h : rdq l = some (t, m)) : ∃ r, l = quo t ++ r ∧ m = (quo t).length := by
  unfold rdq at h
  split at h
  · rename_i h1
    match l, h1 with
    | a :: l, h1 =>
      simp at h1
      subst h1
      rcases h3 : rd (34 :: l).length l with _ | ⟨t', m'⟩
      · rw [show (34 :: l).drop 1 = l from rfl, h3] at h; cases h
      · rw [show (34 :: l).drop 1 = l from rfl, h3] at h
        cases h
        obtain ⟨r, e, hm⟩ := rd_sound _ _ _ _ h3
        exact ⟨r, by rw [e]; unfold quo; simp, by dsimp only; rw [quo_length, hm]; omega⟩
  · cases h
theorem rdq_complete (t r : List UInt8) : rdq (quo t ++ r) = some (t, (quo t).length) := by
  have hl := qb_length t
  unfold rdq
  rw [if_pos (show (quo t ++ r).head? = some 34 from rfl)]
  have e : (quo t ++ r).drop 1 = qb t ++ 34 :: r := by unfold quo; simp
  rw [e, rd_complete t _ r (by rw [List.length_append, quo_length]; omega), quo_length]
  simp; omega
theorem rdq_size {l t : List UInt8} {m : Nat} (h : rdq l = some (t, m)) : m ≤ l.length ∧ 2 ≤ m ∧ t.length + 2 ≤ m := by
  obtain ⟨r, rfl, hm⟩ := rdq_sound h
  have hl := qb_length t
  rw [List.length_append, hm, quo_length]; omega
theorem quo_inj {a b : List UInt8} (h : quo a = quo b) : a = b := by
  have h1 := rdq_complete a []
  rw [h, rdq_complete b []] at h1
  cases h1; rfl

/-! ### The reference's way: read, then quote -/
/-- What stands behind a backslash, any byte in hexadecimal digits. -/
def wesc : List UInt8 → Option (UInt8 × Nat)
  | [] => none
  | a :: r => if a.toNat = 34 ∨ a.toNat = 92 then some (a, 2) else if a.toNat = 120 then
      match r with
      | h :: g :: _ => if hv h < 16 ∧ hv g < 16 then some (UInt8.ofNat (16 * hv h + hv g), 4) else none
      | _ => none
    else none
/-- The text up to a quote or the end, and the number of bytes before. -/
def wk : Nat → List UInt8 → Option (List UInt8 × Nat)
  | 0, _ => none
  | f + 1, l =>
    match l with
    | [] => some ([], 0)
    | c :: r => if c.toNat = 34 then some ([], 0) else if c.toNat = 92 then
        match wesc r with
        | none => none
        | some (b, n) => (wk f ((c :: r).drop n)).map fun x => (b :: x.1, n + x.2)
      else (wk f r).map fun x => (c :: x.1, 1 + x.2)
theorem wk_nil (f : Nat) : wk (f + 1) [] = some ([], 0) := rfl
theorem wk_quote (f : Nat) (c : UInt8) (r : List UInt8) (h : c.toNat = 34) : wk (f + 1) (c :: r) = some ([], 0) := by
  show (if c.toNat = 34 then _ else _) = _
  rw [if_pos h]
theorem wk_plain (f : Nat) (c : UInt8) (r : List UInt8) (h : ¬ c.toNat = 34) (h2 : ¬ c.toNat = 92) : wk (f + 1) (c :: r) = (wk f r).map fun x => (c :: x.1, 1 + x.2) := by
  show (if c.toNat = 34 then _ else if c.toNat = 92 then _ else _) = _
  rw [if_neg h, if_neg h2]
theorem wk_bad (f : Nat) (c : UInt8) (r : List UInt8) (h2 : c.toNat = 92) (h3 : wesc r = none) : wk (f + 1) (c :: r) = none := by
  show (if c.toNat = 34 then _ else if c.toNat = 92 then _ else _) = _
  rw [if_neg (by omega), if_pos h2, h3]
theorem wk_esc (f : Nat) (c : UInt8) (r : List UInt8) (b : UInt8) (n : Nat) (h2 : c.toNat = 92) (h3 : wesc r = some (b, n)) : wk (f + 1) (c :: r) = (wk f ((c :: r).drop n)).map fun x => (b :: x.1, n + x.2) := by
  show (if c.toNat = 34 then _ else if c.toNat = 92 then _ else _) = _
  rw [if_neg (by omega), if_pos h2, h3]
theorem wesc_self (a : UInt8) (r : List UInt8) (h : a.toNat = 34 ∨ a.toNat = 92) : wesc (a :: r) = some (a, 2) := by
  simp only [wesc]; rw [if_pos h]
theorem wesc_other (a : UInt8) (r : List UInt8) (h : ¬ (a.toNat = 34 ∨ a.toNat = 92)) (h2 : ¬ a.toNat = 120) : wesc (a :: r) = none := by
  simp only [wesc]; rw [if_neg h, if_neg h2]
theorem wesc_short0 (a : UInt8) (h : a.toNat = 120) : wesc [a] = none := by
  simp only [wesc]; rw [if_neg (by omega), if_pos h]
theorem wesc_short1 (a b : UInt8) (h : a.toNat = 120) : wesc [a, b] = none := by
  simp only [wesc]; rw [if_neg (by omega), if_pos h]
theorem wesc_hex (a b c : UInt8) (r : List UInt8) (h : a.toNat = 120) : wesc (a :: b :: c :: r) = if hv b < 16 ∧ hv c < 16 then some (UInt8.ofNat (16 * hv b + hv c), 4) else none := by
  simp only [wesc]; rw [if_neg (by omega), if_pos h]
theorem esc_wesc {r : List UInt8} {c : UInt8} {n : Nat} (h : esc r = some (c, n)) : wesc r = some (c, n) := by
  match r, h with
  | a :: r, h =>
    by_cases h1 : a.toNat = 34 ∨ a.toNat = 92
    · rw [esc_self a r h1] at h; rw [wesc_self a r h1]; exact h
    · by_cases h2 : a.toNat = 120
      · match r, h with
        | [], h => rw [esc_short0 a h2] at h; cases h
        | [b], h => rw [esc_short1 a b h2] at h; cases h
        | h' :: g :: r, h =>
          rw [esc_hex a h' g r h2] at h
          rw [wesc_hex a h' g r h2]
          split at h
          · rename_i hc
            rw [if_pos ⟨hc.1, hc.2.1⟩]; exact h
          · cases h
      · rw [esc_other a r h1 h2] at h; cases h
theorem rd_wk (f : Nat) : ∀ (l : List UInt8) (t : List UInt8) (m : Nat), rd f l = some (t, m) → wk f l = some (t, m - 1) := by
  induction f with
  | zero => intro l t m h; cases h
  | succ f ih =>
    intro l t m h
    by_cases h1 : l.head? = some 34
    · rw [rd_quote f l h1] at h
      cases h
      match l, h1 with
      | a :: r, h1 => simp at h1; exact wk_quote f a r (by rw [h1]; rfl)
    · rcases h2 : stp l with _ | ⟨c, n⟩
      · rw [rd_none f l h1 h2] at h; cases h
      · rw [rd_some f l c n h1 h2] at h
        rcases h3 : rd f (l.drop n) with _ | ⟨t', m'⟩
        · rw [h3] at h; cases h
        · rw [h3] at h
          cases h
          have hw := ih _ _ _ h3
          obtain ⟨_, _, hm⟩ := rd_sound _ _ _ _ h3
          match l, h1, h2, hw with
          | a :: r, h1, h2, hw =>
            rw [stp_cons] at h2
            by_cases h4 : a.toNat = 92
            · rw [if_pos h4] at h2
              rw [wk_esc f a r c n h4 (esc_wesc h2), hw]
              simp; omega
            · rw [if_neg h4] at h2
              by_cases h5 : pl a = true
              · rw [if_pos h5] at h2
                cases h2
                have h6 := of_decide_eq_true h5
                have hw' : wk f r = some (t', m' - 1) := hw
                rw [wk_plain f _ r (by omega) h4, hw']
                simp; omega
              · rw [if_neg h5] at h2; cases h2
/-- What the reference makes of what it read. -/
def fin (l : List UInt8) (x : List UInt8 × Nat) : Option (List UInt8 × Nat) := if x.2 < l.length ∧ quo x.1 = 34 :: l.take (x.2 + 1) then some (x.1, x.2 + 2) else none
theorem wk_rdq (l : List UInt8) : rdq (34 :: l) = (wk (l.length + 1) l).bind (fin l) := by
  have e0 : rdq (34 :: l) = (rd (l.length + 1) l).map fun x => (x.1, 1 + x.2) := rfl
  rw [e0]
  rcases h : rd (l.length + 1) l with _ | ⟨t, m⟩
  · rcases h2 : wk (l.length + 1) l with _ | ⟨t', n⟩
    · rfl
    · show none = fin l (t', n)
      unfold fin
      rw [if_neg]
      rintro ⟨h3, h4⟩
      unfold quo at h4
      have h5 := (List.cons.inj h4).2
      dsimp only at h3 h5
      have h6 : l = qb t' ++ 34 :: l.drop (n + 1) := by
        have := List.take_append_drop (n + 1) l
        rw [← h5, List.append_assoc] at this
        exact this.symm
      have hl := qb_length t'
      have h7 := congrArg List.length h5
      rw [List.length_take, List.length_append, List.length_singleton] at h7
      rw [h6, rd_complete t' _ _ (by rw [List.length_append]; simp; omega)] at h
      cases h
  · have hw := rd_wk _ _ _ _ h
    obtain ⟨r, e, hm⟩ := rd_sound _ _ _ _ h
    rw [hw]
    show some (t, 1 + m) = fin l (t, m - 1)
    unfold fin
    have e1 : m - 1 = (qb t).length := by omega
    dsimp only
    rw [e1, if_pos]
    · simp; omega
    · have e2 : l = (qb t ++ [34]) ++ r := by rw [e]; simp
      refine ⟨by rw [e]; simp, ?_⟩
      rw [e2, List.take_left' (by simp)]
      rfl

/-! ### The parts of a line -/
/-- The size of the part at the beginning; 0 if there is none. -/
def psz (l : List UInt8) : Nat := if l.head? = some 34 then ((rdq l).getD ([], 0)).2 else (l.takeWhile fun c => decide (32 < c.toNat)).length
/-- The parts of these bytes, which are not the empty line. -/
def fl : Nat → List UInt8 → Option (List (List UInt8))
  | 0, _ => none
  | f + 1, l => if psz l = 0 then none else if psz l = l.length then some [l.take (psz l)] else if (l.getD (psz l) 0).toNat = 32 then (fl f (l.drop (psz l + 1))).map fun x => l.take (psz l) :: x else none
/-- The parts of a line. -/
def fld (l : List UInt8) : Option (List (List UInt8)) := if l = [] then some [] else fl l.length l
theorem fl_none (f : Nat) (l : List UInt8) (h : psz l = 0) : fl (f + 1) l = none := by
  show (if psz l = 0 then _ else _) = _
  rw [if_pos h]
theorem fl_last (f : Nat) (l : List UInt8) (h : psz l ≠ 0) (h2 : psz l = l.length) : fl (f + 1) l = some [l.take (psz l)] := by
  show (if psz l = 0 then _ else if psz l = l.length then _ else _) = _
  rw [if_neg h, if_pos h2]
theorem fl_bad (f : Nat) (l : List UInt8) (h2 : psz l ≠ l.length) (h3 : (l.getD (psz l) 0).toNat ≠ 32) : fl (f + 1) l = none := by
  show (if psz l = 0 then _ else if psz l = l.length then _ else if (l.getD (psz l) 0).toNat = 32 then _ else _) = _
  by_cases h : psz l = 0
  · rw [if_pos h]
  · rw [if_neg h, if_neg h2, if_neg h3]
theorem fl_more (f : Nat) (l : List UInt8) (h : psz l ≠ 0) (h2 : psz l ≠ l.length) (h3 : (l.getD (psz l) 0).toNat = 32) : fl (f + 1) l = (fl f (l.drop (psz l + 1))).map fun x => l.take (psz l) :: x := by
  show (if psz l = 0 then _ else if psz l = l.length then _ else if (l.getD (psz l) 0).toNat = 32 then _ else _) = _
  rw [if_neg h, if_neg h2, if_pos h3]
theorem psz_nil : psz [] = 0 := rfl
theorem psz_le (l : List UInt8) : psz l ≤ l.length := by
  unfold psz
  split
  · rcases h : rdq l with _ | ⟨t, m⟩
    · simp
    · simpa using (rdq_size h).1
  · exact (List.takeWhile_sublist _).length_le

/-- What Unquote returns. -/
def unq (l : List UInt8) : List UInt8 × Int :=
  match rdq l with
  | none => ([], 4)
  | some (t, n) => if n < l.length then ([], 4) else if 60 < t.length then ([], 3) else (t, 0)

/-! ### Names -/
/-- A byte that may stand at this place of a name. -/
def nmB (i : Nat) (c : UInt8) : Bool := decide (97 ≤ c.toNat ∧ c.toNat ≤ 122) || (decide (i ≠ 0) && decide ((48 ≤ c.toNat ∧ c.toNat ≤ 57) ∨ c.toNat = 95 ∨ c.toNat = 45))
def nmF : Nat → List UInt8 → Bool
  | _, [] => true
  | i, c :: r => nmB i c && nmF (i + 1) r
/-- A name. -/
def nm (l : List UInt8) : Bool := decide (1 ≤ l.length ∧ l.length ≤ 24) && nmF 0 l

/-! ### The bytes of a rune -/
theorem decode_fits (s : ByteArray) (pos : Nat) (h : pos < s.size) (ha : 128 ≤ (s[pos]'h).toNat) :
    pos + (Utf8.decode s pos).2 ≤ s.size ∧ ∀ k (hk : pos + k < s.size), k < (Utf8.decode s pos).2 → 128 ≤ (s[pos + k]'hk).toNat := by
  have hn : ¬ (s[pos]'h).toNat < 128 := by omega
  have g : ∀ k (hk : pos + k < s.size), s.get! (pos + k) = s[pos + k]'hk := by
    intro k hk
    show s.data[pos + k]! = _
    rw [getElem!_pos s.data (pos + k) hk]; rfl
  have one : ∀ k (hk : pos + k < s.size), k < 1 → 128 ≤ (s[pos + k]'hk).toNat := by
    intro k hk h1
    obtain rfl : k = 0 := by omega
    exact ha
  have two : ∀ k (hk : pos + k < s.size), ((s.get! (pos + k)).toNat / 64 == 2) = true → 128 ≤ (s[pos + k]'hk).toNat := by
    intro k hk e
    rw [g k hk] at e
    have := eq_of_beq e
    omega
  simp only [Utf8.decode, get_at s pos h, hn, if_false]
  repeat' split
  all_goals first | exact ⟨by show pos + 1 ≤ _; omega, one⟩ | skip
  · rename_i h1 h2
    simp only [Bool.and_eq_true, decide_eq_true_eq] at h1
    refine ⟨by show pos + 2 ≤ _; omega, fun k hk hk2 => ?_⟩
    have hk2 : k < 2 := hk2
    match k, hk, hk2 with
    | 0, hk, _ => exact one 0 hk (by omega)
    | 1, hk, _ => exact two 1 hk h1.2.2
  · rename_i h0 h1 h2
    simp only [Bool.and_eq_true, decide_eq_true_eq] at h1
    refine ⟨by show pos + 3 ≤ _; omega, fun k hk hk2 => ?_⟩
    have hk2 : k < 3 := hk2
    match k, hk, hk2 with
    | 0, hk, _ => exact one 0 hk (by omega)
    | 1, hk, _ => exact two 1 hk h1.1.2.2
    | 2, hk, _ => exact two 2 hk h1.2.2
  · rename_i h0 h00 h1 h2
    simp only [Bool.and_eq_true, decide_eq_true_eq] at h1
    refine ⟨by show pos + 4 ≤ _; omega, fun k hk hk2 => ?_⟩
    have hk2 : k < 4 := hk2
    match k, hk, hk2 with
    | 0, hk, _ => exact one 0 hk (by omega)
    | 1, hk, _ => exact two 1 hk h1.1.1.2.2
    | 2, hk, _ => exact two 2 hk h1.1.2.2
    | 3, hk, _ => exact two 3 hk h1.2.2
end Go.Proofs.YtagkmfhicpcjnaaDoor.Names
/- The contracts of the library that this program can use, in plain words. -/
namespace Go.Proofs
open Go.Shelf
def Tryd.lays137_ren : Go.Shelf.Ren := ⟨fun | 137 => 105 | 217 => 106 | 266 => 107 | n => n, fun | 9 => 9 | 5 => 5 | 3 => 3 | n => n, fun | n => n⟩
theorem Tryd.lays137 : Go.Proofs.Lays.n137 Tryd.prog Tryd.lays137_ren := {
  mixed := by kernel_rfl
  f137 := Tryd.func105.trans (congrArg some (by kernel_rfl))
  f217 := Tryd.func106.trans (congrArg some (by kernel_rfl))
  f266 := Tryd.func107.trans (congrArg some (by kernel_rfl))
  t3 := Tryd.underlying3
  a3 := Tryd.isAgg3
  z3 := Tryd.sizeOf3
  v3 := Tryd.zeroValue3
  t5 := Tryd.underlying5
  a5 := Tryd.isAgg5
  z5 := Tryd.sizeOf5
  v5 := Tryd.zeroValue5
  t9 := Tryd.underlying9
  a9 := Tryd.isAgg9
  z9 := Tryd.sizeOf9
  v9 := Tryd.zeroValue9 }
open Go.RowKit in
theorem Tryd.strings_IndexByte (s : ByteArray) (c : Int) (w : World) :
    Calls Tryd.prog 105 #[.string s, .int .u8 c] w fun e w' => e = .returned (.int .i64 (Lib.indexByte s.data.toList c.toNat.toUInt8)) ∧ w' = w := Any.strings_IndexByte Tryd.lays137 s c w
def Tryd.lays217_ren : Go.Shelf.Ren := ⟨fun | 217 => 106 | 266 => 107 | n => n, fun | 9 => 9 | 5 => 5 | 3 => 3 | n => n, fun | n => n⟩
theorem Tryd.lays217 : Go.Proofs.Lays.n217 Tryd.prog Tryd.lays217_ren := {
  mixed := by kernel_rfl
  f217 := Tryd.func106.trans (congrArg some (by kernel_rfl))
  f266 := Tryd.func107.trans (congrArg some (by kernel_rfl))
  t3 := Tryd.underlying3
  a3 := Tryd.isAgg3
  z3 := Tryd.sizeOf3
  v3 := Tryd.zeroValue3
  t5 := Tryd.underlying5
  a5 := Tryd.isAgg5
  z5 := Tryd.sizeOf5
  v5 := Tryd.zeroValue5
  t9 := Tryd.underlying9
  a9 := Tryd.isAgg9
  z9 := Tryd.sizeOf9
  v9 := Tryd.zeroValue9 }
open Go.RowKit Go.Lib in
theorem Tryd.stringslite_IndexByte (s : ByteArray) (c : Int) (w : World) :
    Calls Tryd.prog 106 #[.string s, .int .u8 c] w fun e w' => e = .returned (.int .i64 (Lib.indexByte s.data.toList c.toNat.toUInt8)) ∧ w' = w := Any.stringslite_IndexByte Tryd.lays217 s c w
def Tryd.lays206_ren : Go.Shelf.Ren := ⟨fun | 206 => 102 | n => n, fun | 9 => 9 | 4 => 4 | 3 => 3 | n => n, fun | n => n⟩
theorem Tryd.lays206 : Go.Proofs.Lays.n206 Tryd.prog Tryd.lays206_ren := {
  mixed := by kernel_rfl
  f206 := Tryd.func102.trans (congrArg some (by kernel_rfl))
  t3 := Tryd.underlying3
  a3 := Tryd.isAgg3
  z3 := Tryd.sizeOf3
  v3 := Tryd.zeroValue3
  t4 := Tryd.underlying4
  a4 := Tryd.isAgg4
  z4 := Tryd.sizeOf4
  v4 := Tryd.zeroValue4
  t9 := Tryd.underlying9
  a9 := Tryd.isAgg9
  z9 := Tryd.sizeOf9
  v9 := Tryd.zeroValue9 }
open Go.RowKit Go.Lib in
theorem Tryd.stringslite_HasPrefix (s p : ByteArray) (w : World) :
    Calls Tryd.prog 102 #[.string s, .string p] w fun e w' => e = .returned (.bool (Lib.hasPrefix s.data.toList p.data.toList)) ∧ w' = w := Any.stringslite_HasPrefix Tryd.lays206 s p w
def Tryd.lays99_ren : Go.Shelf.Ren := ⟨fun | 99 => 95 | 206 => 102 | n => n, fun | 9 => 9 | 4 => 4 | 3 => 3 | n => n, fun | n => n⟩
theorem Tryd.lays99 : Go.Proofs.Lays.n99 Tryd.prog Tryd.lays99_ren := {
  mixed := by kernel_rfl
  f99 := Tryd.func95.trans (congrArg some (by kernel_rfl))
  f206 := Tryd.func102.trans (congrArg some (by kernel_rfl))
  t3 := Tryd.underlying3
  a3 := Tryd.isAgg3
  z3 := Tryd.sizeOf3
  v3 := Tryd.zeroValue3
  t4 := Tryd.underlying4
  a4 := Tryd.isAgg4
  z4 := Tryd.sizeOf4
  v4 := Tryd.zeroValue4
  t9 := Tryd.underlying9
  a9 := Tryd.isAgg9
  z9 := Tryd.sizeOf9
  v9 := Tryd.zeroValue9 }
open Go.RowKit Go.Lib in
theorem Tryd.strings_HasPrefix (s p : ByteArray) (w : World) :
    Calls Tryd.prog 95 #[.string s, .string p] w fun e w' => e = .returned (.bool (Lib.hasPrefix s.data.toList p.data.toList)) ∧ w' = w := Any.strings_HasPrefix Tryd.lays99 s p w
def Tryd.lays208_ren : Go.Shelf.Ren := ⟨fun | 208 => 98 | 206 => 102 | n => n, fun | 9 => 9 | 4 => 4 | 3 => 3 | n => n, fun | n => n⟩
theorem Tryd.lays208 : Go.Proofs.Lays.n208 Tryd.prog Tryd.lays208_ren := {
  mixed := by kernel_rfl
  f206 := Tryd.func102.trans (congrArg some (by kernel_rfl))
  f208 := Tryd.func98.trans (congrArg some (by kernel_rfl))
  t3 := Tryd.underlying3
  a3 := Tryd.isAgg3
  z3 := Tryd.sizeOf3
  v3 := Tryd.zeroValue3
  t4 := Tryd.underlying4
  a4 := Tryd.isAgg4
  z4 := Tryd.sizeOf4
  v4 := Tryd.zeroValue4
  t9 := Tryd.underlying9
  a9 := Tryd.isAgg9
  z9 := Tryd.sizeOf9
  v9 := Tryd.zeroValue9 }
open Go.RowKit Go.Lib in
theorem Tryd.stringslite_TrimPrefix (s p : ByteArray) (w : World) :
    Calls Tryd.prog 98 #[.string s, .string p] w fun e w' => e = .returned (.string ⟨(Lib.trimPrefix s.data.toList p.data.toList).toArray⟩) ∧ w' = w := Any.stringslite_TrimPrefix Tryd.lays208 s p w
def Tryd.lays101_ren : Go.Shelf.Ren := ⟨fun | 101 => 83 | 208 => 98 | 206 => 102 | n => n, fun | 9 => 9 | 4 => 4 | 3 => 3 | n => n, fun | n => n⟩
theorem Tryd.lays101 : Go.Proofs.Lays.n101 Tryd.prog Tryd.lays101_ren := {
  mixed := by kernel_rfl
  f101 := Tryd.func83.trans (congrArg some (by kernel_rfl))
  f206 := Tryd.func102.trans (congrArg some (by kernel_rfl))
  f208 := Tryd.func98.trans (congrArg some (by kernel_rfl))
  t3 := Tryd.underlying3
  a3 := Tryd.isAgg3
  z3 := Tryd.sizeOf3
  v3 := Tryd.zeroValue3
  t4 := Tryd.underlying4
  a4 := Tryd.isAgg4
  z4 := Tryd.sizeOf4
  v4 := Tryd.zeroValue4
  t9 := Tryd.underlying9
  a9 := Tryd.isAgg9
  z9 := Tryd.sizeOf9
  v9 := Tryd.zeroValue9 }
open Go.RowKit Go.Lib in
theorem Tryd.strings_TrimPrefix (s p : ByteArray) (w : World) :
    Calls Tryd.prog 83 #[.string s, .string p] w fun e w' => e = .returned (.string ⟨(Lib.trimPrefix s.data.toList p.data.toList).toArray⟩) ∧ w' = w := Any.strings_TrimPrefix Tryd.lays101 s p w
def Tryd.lays197_ren : Go.Shelf.Ren := ⟨fun | 197 => 90 | 260 => 101 | n => n, fun | 9 => 9 | 21 => 21 | 3 => 3 | 4 => 4 | 5 => 5 | 105 => 91 | 119 => 102 | 0 => 0 | 46 => 70 | 139 => 105 | 138 => 104 | n => n, fun | 3 => 1 | 4 => 2 | n => n⟩
theorem Tryd.lays197 : Go.Proofs.Lays.n197 Tryd.prog Tryd.lays197_ren := {
  mixed := by kernel_rfl
  f197 := Tryd.func90.trans (congrArg some (by kernel_rfl))
  f260 := Tryd.func101.trans (congrArg some (by kernel_rfl))
  t0 := Tryd.underlying0
  a0 := Tryd.isAgg0
  z0 := Tryd.sizeOf0
  v0 := Tryd.zeroValue0
  t3 := Tryd.underlying3
  a3 := Tryd.isAgg3
  z3 := Tryd.sizeOf3
  v3 := Tryd.zeroValue3
  t4 := Tryd.underlying4
  a4 := Tryd.isAgg4
  z4 := Tryd.sizeOf4
  v4 := Tryd.zeroValue4
  t5 := Tryd.underlying5
  a5 := Tryd.isAgg5
  z5 := Tryd.sizeOf5
  v5 := Tryd.zeroValue5
  t9 := Tryd.underlying9
  a9 := Tryd.isAgg9
  z9 := Tryd.sizeOf9
  v9 := Tryd.zeroValue9
  t21 := Tryd.underlying21
  a21 := Tryd.isAgg21
  z21 := Tryd.sizeOf21
  v21 := Tryd.zeroValue21
  t46 := Tryd.underlying70
  a46 := Tryd.isAgg70
  z46 := Tryd.sizeOf70
  v46 := Tryd.zeroValue70
  t105 := Tryd.underlying91
  a105 := Tryd.isAgg91
  z105 := Tryd.sizeOf91
  v105 := Tryd.zeroValue91
  t119 := Tryd.underlying102
  a119 := Tryd.isAgg102
  z119 := Tryd.sizeOf102
  t138 := Tryd.underlying104
  a138 := Tryd.isAgg104
  z138 := Tryd.sizeOf104
  v138 := Tryd.zeroValue104
  t139 := Tryd.underlying105
  a139 := Tryd.isAgg105
  z139 := Tryd.sizeOf105
  v139 := Tryd.zeroValue105
  g3 := by kernel_rfl
  g4 := by kernel_rfl }
open Go.RowKit Go.Lib in
theorem Tryd.utf8_DecodeRuneInString_ascii (s : ByteArray) (x : UInt8) (w : World) (h0 : s.data.toList[0]? = some x) (hx : x.toNat < 128) :
    Calls Tryd.prog 90 #[.string s] w fun e w' => e = .returned (.tuple #[.int .i32 x.toNat, .int .i64 1]) ∧ w' = w := Any.utf8_DecodeRuneInString_ascii Tryd.lays197 s x w h0 hx
def Tryd.lays260_ren : Go.Shelf.Ren := ⟨fun | 260 => 101 | n => n, fun | 9 => 9 | 21 => 21 | 3 => 3 | 4 => 4 | 5 => 5 | 119 => 102 | 0 => 0 | 46 => 70 | 139 => 105 | 138 => 104 | n => n, fun | 3 => 1 | 4 => 2 | n => n⟩
theorem Tryd.lays260 : Go.Proofs.Lays.n260 Tryd.prog Tryd.lays260_ren := {
  mixed := by kernel_rfl
  f260 := Tryd.func101.trans (congrArg some (by kernel_rfl))
  t0 := Tryd.underlying0
  a0 := Tryd.isAgg0
  z0 := Tryd.sizeOf0
  v0 := Tryd.zeroValue0
  t3 := Tryd.underlying3
  a3 := Tryd.isAgg3
  z3 := Tryd.sizeOf3
  v3 := Tryd.zeroValue3
  t4 := Tryd.underlying4
  a4 := Tryd.isAgg4
  z4 := Tryd.sizeOf4
  v4 := Tryd.zeroValue4
  t5 := Tryd.underlying5
  a5 := Tryd.isAgg5
  z5 := Tryd.sizeOf5
  v5 := Tryd.zeroValue5
  t9 := Tryd.underlying9
  a9 := Tryd.isAgg9
  z9 := Tryd.sizeOf9
  v9 := Tryd.zeroValue9
  t21 := Tryd.underlying21
  a21 := Tryd.isAgg21
  z21 := Tryd.sizeOf21
  v21 := Tryd.zeroValue21
  t46 := Tryd.underlying70
  a46 := Tryd.isAgg70
  z46 := Tryd.sizeOf70
  v46 := Tryd.zeroValue70
  t119 := Tryd.underlying102
  a119 := Tryd.isAgg102
  z119 := Tryd.sizeOf102
  t138 := Tryd.underlying104
  a138 := Tryd.isAgg104
  z138 := Tryd.sizeOf104
  v138 := Tryd.zeroValue104
  t139 := Tryd.underlying105
  a139 := Tryd.isAgg105
  z139 := Tryd.sizeOf105
  v139 := Tryd.zeroValue105
  g3 := by kernel_rfl
  g4 := by kernel_rfl }
open Go.RowKit Go.Lib in
theorem Tryd.utf8_decodeRuneInStringSlow (s : ByteArray) (w : World) (hT : Lib.Utf8Tabs 1 2 w) :
    Calls Tryd.prog 101 #[.string s] w fun e w' => e = .returned (.tuple #[.int .i32 (Lib.decodeGo s).1, .int .i64 (Lib.decodeGo s).2]) ∧ Below w.heap.size w w' := Any.utf8_decodeRuneInStringSlow Tryd.lays260 s w hT
open Go.RowKit Go.Lib in
theorem Tryd.utf8_DecodeRuneInString (s : ByteArray) (w : World) (hT : Lib.Utf8Tabs 1 2 w) :
    Calls Tryd.prog 90 #[.string s] w fun e w' => e = .returned (.tuple #[.int .i32 (Lib.decodeGo s).1, .int .i64 (Lib.decodeGo s).2]) ∧ Below w.heap.size w w' := Any.utf8_DecodeRuneInString Tryd.lays197 s w hT
end Go.Proofs
/- Contracts of the small functions of names and of the reference: kinds of bytes, hexadecimal digits, an escape. -/
set_option linter.unusedVariables false
set_option maxRecDepth 100000
namespace Go.Proofs.YtagkmfhicpcjnaaDoor.Names
open Go.RowKit

theorem ret_int {k : IntKind} {a b : Int} (h : a = b) : Ending.returned (.int k a) = .returned (.int k b) := by rw [h]
theorem ret_str {a b : ByteArray} (h : a = b) : Ending.returned (.string a) = .returned (.string b) := by rw [h]
theorem ret_bool {a b : Bool} (h : a = b) : Ending.returned (.bool a) = .returned (.bool b) := by rw [h]
theorem val_int {k : IntKind} {a b : Int} (h : a = b) : Value.int k a = .int k b := by rw [h]
theorem tup_bi {k j : IntKind} {a a' b b' : Int} (h1 : a = a') (h2 : b = b') : Ending.returned (.tuple #[.int k a, .int j b]) = .returned (.tuple #[.int k a', .int j b']) := by rw [h1, h2]
theorem tup_si {j : IntKind} {a a' : ByteArray} {b b' : Int} (h1 : a = a') (h2 : b = b') : Ending.returned (.tuple #[.string a, .int j b]) = .returned (.tuple #[.string a', .int j b']) := by rw [h1, h2]

/-- A double quote or a backslash. -/
def slB (n : Nat) : Bool := decide (n = 34 ∨ n = 92)
/-- A byte or rune that is its own form. -/
def plB (n : Nat) : Bool := decide (32 ≤ n ∧ n ≤ 126 ∧ n ≠ 34 ∧ n ≠ 92)
theorem plB_pl (c : UInt8) : plB c.toNat = pl c := rfl

set_option maxHeartbeats 400000 in
theorem slash_yes (n : Nat) (w : World) (h : n = 34 ∨ n = 92) :
    Calls Tryd.prog 89 #[.int .i32 (n : Int)] w fun e w' => e = .returned (.bool true) ∧ w = w' := by
  by_cases h1 : n = 34
  · subst h1
    go_enter Tryd.func89, Tryd.ntmps89
    go_wp2_with fail
    go_ret
    exact ⟨rfl, rfl⟩
  · obtain rfl : n = 92 := by omega
    go_enter Tryd.func89, Tryd.ntmps89
    go_wp2_with fail
    go_ret
    exact ⟨rfl, rfl⟩
set_option maxHeartbeats 400000 in
theorem slash_no (n : Nat) (w : World) (h : ¬ (n = 34 ∨ n = 92)) :
    Calls Tryd.prog 89 #[.int .i32 (n : Int)] w fun e w' => e = .returned (.bool false) ∧ w = w' := by
  have h1 : ((n : Int) == 34) = false := by simp; omega
  have h2 : ((n : Int) == 92) = false := by simp; omega
  clear h
  go_enter Tryd.func89, Tryd.ntmps89
  go_wp2_with fail
  go_ret
  exact ⟨rfl, rfl⟩
theorem slash_any (n : Nat) (w : World) :
    Calls Tryd.prog 89 #[.int .i32 (n : Int)] w fun e w' => e = .returned (.bool (slB n)) ∧ w = w' := by
  by_cases h : n = 34 ∨ n = 92
  · rw [show slB n = true from decide_eq_true h]; exact slash_yes n w h
  · rw [show slB n = false from decide_eq_false h]; exact slash_no n w h

set_option maxHeartbeats 400000 in
theorem plain_any (n : Nat) (w : World) :
    Calls Tryd.prog 88 #[.int .i32 (n : Int)] w fun e w' => e = .returned (.bool (plB n)) ∧ w = w' := by
  by_cases h1 : 32 ≤ n
  · by_cases h2 : n ≤ 126
    · by_cases h : n = 34 ∨ n = 92
      · have E := Lib.hid (show plB n = false from decide_eq_false (by omega))
        have H := Lib.hid h
        clear h
        go_enter Tryd.func88, Tryd.ntmps88
        go_wp2_with fail
        refine (slash_yes n _ H.out).mono ?_
        rintro e w' ⟨rfl, rfl⟩
        go_wp2_with fail
        go_ret
        exact ⟨ret_bool E.out.symm, rfl⟩
      · have E := Lib.hid (show plB n = true from decide_eq_true (by omega))
        have H := Lib.hid h
        clear h
        go_enter Tryd.func88, Tryd.ntmps88
        go_wp2_with fail
        refine (slash_no n _ H.out).mono ?_
        rintro e w' ⟨rfl, rfl⟩
        go_wp2_with fail
        go_ret
        exact ⟨ret_bool E.out.symm, rfl⟩
    · have E := Lib.hid (show plB n = false from decide_eq_false (by omega))
      go_enter Tryd.func88, Tryd.ntmps88
      go_wp2_with fail
      go_ret
      exact ⟨ret_bool E.out.symm, rfl⟩
  · have E := Lib.hid (show plB n = false from decide_eq_false (by omega))
    go_enter Tryd.func88, Tryd.ntmps88
    go_wp2_with fail
    go_ret
    exact ⟨ret_bool E.out.symm, rfl⟩

/-- The value of a digit, as the reference has it. -/
def hvI (c : UInt8) : Int := if hv c < 16 then (hv c : Int) else -1
theorem hv_num (c : UInt8) (h1 : 48 ≤ c.toNat) (h2 : c.toNat ≤ 57) : hv c = c.toNat - 48 := by unfold hv; rw [if_pos ⟨h1, h2⟩]
theorem hv_let (c : UInt8) (h1 : 97 ≤ c.toNat) (h2 : c.toNat ≤ 102) : hv c = c.toNat - 87 := by unfold hv; rw [if_neg (by omega), if_pos ⟨h1, h2⟩]
theorem hv_bad (c : UInt8) (h1 : ¬ (48 ≤ c.toNat ∧ c.toNat ≤ 57)) (h2 : ¬ (97 ≤ c.toNat ∧ c.toNat ≤ 102)) : hv c = 16 := by unfold hv; rw [if_neg h1, if_neg h2]
theorem hv_le (c : UInt8) : hv c ≤ 16 := by unfold hv; split; omega; split <;> omega
theorem hvI_le (c : UInt8) : -1 ≤ hvI c ∧ hvI c ≤ 15 := by unfold hvI; split <;> omega

/-- Where a byte stands among the digits. -/
theorem dig_all : ∀ n : Fin 256, Lib.indexByte [48, 49, 50, 51, 52, 53, 54, 55, 56, 57, 97, 98, 99, 100, 101, 102] (UInt8.ofNat n.val) = hvI (UInt8.ofNat n.val) := by decide +kernel
theorem dig_index (c : UInt8) : Lib.indexByte [48, 49, 50, 51, 52, 53, 54, 55, 56, 57, 97, 98, 99, 100, 101, 102] c = hvI c := by
  have := dig_all ⟨c.toNat, c.toNat_lt⟩
  simpa using this
theorem index_any (c : UInt8) (w : World) :
    Calls Tryd.prog 105 #[.string { data := #[48, 49, 50, 51, 52, 53, 54, 55, 56, 57, 97, 98, 99, 100, 101, 102] }, .int .u8 (c.toNat : Int)] w fun e w' => e = .returned (.int .i64 (hvI c)) ∧ w' = w := by
  refine (Tryd.strings_IndexByte _ _ w).mono ?_
  rintro e w' ⟨rfl, rfl⟩
  refine ⟨ret_int ?_, rfl⟩
  rw [← dig_index c]
  congr 1
  simp

/-- The byte of two digits. -/
theorem or_hex (a b : Nat) (ha : a < 16) (hb : b < 16) : bits .or .i64 ((a : Int) * 16) (b : Int) = ((16 * a + b : Nat) : Int) := by
  have : ∀ a b : Fin 16, bits .or .i64 ((a.val : Int) * 16) (b.val : Int) = ((16 * a.val + b.val : Nat) : Int) := by decide +kernel
  exact this ⟨a, ha⟩ ⟨b, hb⟩
theorem at_drop (s : ByteArray) (k : Nat) (h : k < s.size) : s.data.toList.drop k = s[k] :: s.data.toList.drop (k + 1) := by
  rw [List.drop_eq_getElem_cons (by simpa using h)]; rfl
theorem at_end (s : ByteArray) (k : Nat) (h : s.size ≤ k) : s.data.toList.drop k = [] := List.drop_of_length_le (by simpa using h)
end Go.Proofs.YtagkmfhicpcjnaaDoor.Names
/- The contract of readEscape of names. -/
set_option linter.unusedVariables false
set_option maxRecDepth 100000
namespace Go.Proofs.YtagkmfhicpcjnaaDoor.Names
open Go.RowKit

/-- What readEscape hands back. -/
def escR (x : Option (UInt8 × Nat)) : UInt8 × Nat := x.getD (0, 0)
def OutEsc (x : Option (UInt8 × Nat)) (w : World) (e : Ending) (w' : World) : Prop :=
  e = .returned (.tuple #[.int .u8 ((escR x).1.toNat : Int), .int .i64 ((escR x).2 : Int)]) ∧ Below w.heap.size w w'
theorem out_none {x : Option (UInt8 × Nat)} {w w' : World} (h : x = none) (hb : Below w.heap.size w w') : OutEsc x w (.returned (.tuple #[.int .u8 0, .int .i64 0])) w' := by subst h; exact ⟨rfl, hb⟩
theorem out_some {x : Option (UInt8 × Nat)} {w w' : World} {c : UInt8} {n : Nat} (h : x = some (c, n)) {a b : Int} (ha : a = (c.toNat : Int)) (hn : b = (n : Int)) (hb : Below w.heap.size w w') : OutEsc x w (.returned (.tuple #[.int .u8 a, .int .i64 b])) w' := by
  subst h; subst ha; subst hn; exact ⟨rfl, hb⟩
theorem wrap_u8 (n : Nat) (h : n < 256) : IntKind.u8.wrap (n : Int) = (n : Int) := by rw [IntKind.wrap_u8]; omega

theorem below_drewN (w : World) (n : Nat) : Below w.heap.size w (w.drewN n) := ⟨rfl, rfl, rfl, Nat.le_refl _, fun _ _ => rfl⟩

set_option maxHeartbeats 1000000 in
theorem esc_any (s : ByteArray) (w : World) (h1 : 1 ≤ s.size) (hs : s.size ≤ 100000) (x : Option (UInt8 × Nat)) (hx : esc (s.data.toList.drop 1) = x) :
    Calls Tryd.prog 103 #[.string s] w (OutEsc x w) := by
  by_cases h2 : 2 ≤ s.size
  · have e1 := at_drop s 1 h2
    have c1 := (s[1]).toNat_lt
    by_cases hq : s[1].toNat = 34 ∨ s[1].toNat = 92
    · have X := Lib.hid (show x = some (s[1], 2) by rw [← hx, e1]; exact esc_self _ _ hq)
      have HQ := Lib.hid hq
      clear e1 hq hx
      go_enter Tryd.func103, Tryd.ntmps103
      go_wp2_with fail
      refine (slash_yes _ _ HQ.out).mono ?_
      rintro e w' ⟨rfl, rfl⟩
      go_wp2_with fail
      exact bodyPost_ret (v := .tuple #[.int .u8 (s[1].toNat : Int), .int .i64 2]) (by simp [results, Tryd.results103, go_sem]) rfl (out_some X.out rfl rfl (Below.refl _ _))
    · have HQ := Lib.hid hq
      by_cases h4 : 4 ≤ s.size
      · have l2 : (2 : Int) < (s.size : Int) := by omega
        have l3 : (3 : Int) < (s.size : Int) := by omega
        have l4 : decide ((s.size : Int) < 4) = false := decide_eq_false (by omega)
        have e2 := at_drop s 2 (by omega)
        have e3 := at_drop s 3 (by omega)
        have c2 := (s[2]).toNat_lt
        have c3 := (s[3]).toNat_lt
        by_cases hx1 : s[1].toNat = 120
        · have E0 : x = if hv s[2] < 16 ∧ hv s[3] < 16 ∧ ¬ (32 ≤ 16 * hv s[2] + hv s[3] ∧ 16 * hv s[2] + hv s[3] ≤ 126) then some (UInt8.ofNat (16 * hv s[2] + hv s[3]), 4) else none := by
            rw [← hx, e1, e2, e3]; exact esc_hex _ _ _ _ hx1
          have i2 := hvI_le s[2]
          have i3 := hvI_le s[3]
          have hxx : (((s[1].toNat : Int) != 120)) = false := by simp; omega
          have q2 := index_any s[2]
          have q3 := index_any s[3]
          clear hq e1 e2 e3 hx1 hx
          by_cases b2 : hv s[2] < 16
          · have j2 : hvI s[2] = (hv s[2] : Int) := by unfold hvI; rw [if_pos b2]
            by_cases b3 : hv s[3] < 16
            · have j3 : hvI s[3] = (hv s[3] : Int) := by unfold hvI; rw [if_pos b3]
              have O := or_hex _ _ b2 b3
              rw [j2] at q2
              rw [j3] at q3
              generalize hv s[2] = a at *
              generalize hv s[3] = b at *
              have Q2 := Lib.hid q2
              have Q3 := Lib.hid q3
              clear j2 j3 i2 i3 q2 q3
              obtain ⟨m, hm⟩ : ∃ m, 16 * a + b = m := ⟨_, rfl⟩
              rw [hm] at O E0
              have hm2 : m < 256 := by omega
              have hna : ¬ (a : Int) < 0 := by omega
              have hnb : ¬ (b : Int) < 0 := by omega
              clear hm
              by_cases hp : 32 ≤ m ∧ m ≤ 126
              · have X := Lib.hid (show x = none by rw [E0, if_neg (by omega)])
                clear E0
                by_cases hq2 : m = 34 ∨ m = 92
                · have P := Lib.hid (show plB m = false from decide_eq_false (by omega))
                  have Q := Lib.hid hq2
                  clear hp hq2
                  go_enter Tryd.func103, Tryd.ntmps103
                  go_wp2_with fail
                  refine (slash_no _ _ HQ.out).mono ?_
                  rintro e w' ⟨rfl, rfl⟩
                  go_wp2_with fail
                  go_quiet ((first | (go_at_call 105; with_reducible exact Calls.quiet_of_same (Q2.out _)) | (go_at_call 105; exact Calls.quiet_of_same (Q3.out _))))
                  go_wp2_with fail
                  refine (plain_any m _).mono ?_
                  rw [P.out]
                  rintro e w' ⟨rfl, rfl⟩
                  go_wp2_with fail
                  refine (slash_yes m _ Q.out).mono ?_
                  rintro e w' ⟨rfl, rfl⟩
                  go_wp2_with fail
                  exact bodyPost_ret (v := .tuple #[.int .u8 0, .int .i64 0]) (by simp [results, Tryd.results103, go_sem]) rfl (out_none (X.out) (below_drewN _ _))
                · have P := Lib.hid (show plB m = true from decide_eq_true (by omega))
                  clear hp hq2
                  go_enter Tryd.func103, Tryd.ntmps103
                  go_wp2_with fail
                  refine (slash_no _ _ HQ.out).mono ?_
                  rintro e w' ⟨rfl, rfl⟩
                  go_wp2_with fail
                  go_quiet ((first | (go_at_call 105; with_reducible exact Calls.quiet_of_same (Q2.out _)) | (go_at_call 105; exact Calls.quiet_of_same (Q3.out _))))
                  go_wp2_with fail
                  refine (plain_any m _).mono ?_
                  rw [P.out]
                  rintro e w' ⟨rfl, rfl⟩
                  go_wp2_with fail
                  exact bodyPost_ret (v := .tuple #[.int .u8 0, .int .i64 0]) (by simp [results, Tryd.results103, go_sem]) rfl (out_none (X.out) (below_drewN _ _))
              · have X := Lib.hid (show x = some (UInt8.ofNat m, 4) by rw [E0, if_pos (by omega)])
                have P := Lib.hid (show plB m = false from decide_eq_false (by omega))
                have Q := Lib.hid (show ¬ (m = 34 ∨ m = 92) by omega)
                have N := Lib.hid (show (m : Int) = ((UInt8.ofNat m).toNat : Int) by rw [UInt8.toNat_ofNat']; omega)
                clear E0 hp
                go_enter Tryd.func103, Tryd.ntmps103
                go_wp2_with fail
                refine (slash_no _ _ HQ.out).mono ?_
                rintro e w' ⟨rfl, rfl⟩
                go_wp2_with fail
                go_quiet ((first | (go_at_call 105; with_reducible exact Calls.quiet_of_same (Q2.out _)) | (go_at_call 105; exact Calls.quiet_of_same (Q3.out _))))
                go_wp2_with fail
                refine (plain_any m _).mono ?_
                rw [P.out]
                rintro e w' ⟨rfl, rfl⟩
                go_wp2_with fail
                refine (slash_no m _ Q.out).mono ?_
                rintro e w' ⟨rfl, rfl⟩
                go_wp2_with fail
                exact bodyPost_ret (v := .tuple #[.int .u8 (m : Int), .int .i64 4]) (by simp [results, Tryd.results103, go_sem]) rfl (out_some X.out N.out rfl (below_drewN _ _))
            · have X := Lib.hid (show x = none by rw [E0, if_neg (by omega)])
              have j3 : hvI s[3] = -1 := by unfold hvI; rw [if_neg b3]
              rw [j2] at q2
              rw [j3] at q3
              generalize hv s[2] = a at *
              have Q2 := Lib.hid q2
              have Q3 := Lib.hid q3
              have hna : ¬ (a : Int) < 0 := by omega
              clear E0 b3 j2 j3 q2 q3 i2 i3
              go_enter Tryd.func103, Tryd.ntmps103
              go_wp2_with fail
              refine (slash_no _ _ HQ.out).mono ?_
              rintro e w' ⟨rfl, rfl⟩
              go_wp2_with fail
              go_quiet ((first | (go_at_call 105; with_reducible exact Calls.quiet_of_same (Q2.out _)) | (go_at_call 105; exact Calls.quiet_of_same (Q3.out _))))
              go_wp2_with fail
              exact bodyPost_ret (v := .tuple #[.int .u8 0, .int .i64 0]) (by simp [results, Tryd.results103, go_sem]) rfl (out_none (X.out) (below_drewN _ _))
          · have X := Lib.hid (show x = none by rw [E0, if_neg (by omega)])
            have j2 : hvI s[2] = -1 := by unfold hvI; rw [if_neg b2]
            rw [j2] at q2
            generalize hvI s[3] = b at *
            have Q2 := Lib.hid q2
            have Q3 := Lib.hid q3
            clear E0 b2 j2 q2 q3 i2 i3
            go_enter Tryd.func103, Tryd.ntmps103
            go_wp2_with fail
            refine (slash_no _ _ HQ.out).mono ?_
            rintro e w' ⟨rfl, rfl⟩
            go_wp2_with fail
            go_quiet ((first | (go_at_call 105; with_reducible exact Calls.quiet_of_same (Q2.out _)) | (go_at_call 105; exact Calls.quiet_of_same (Q3.out _))))
            go_wp2_with fail
            exact bodyPost_ret (v := .tuple #[.int .u8 0, .int .i64 0]) (by simp [results, Tryd.results103, go_sem]) rfl (out_none (X.out) (below_drewN _ _))
        · have X := Lib.hid (show x = none by rw [← hx, e1]; exact esc_other _ _ hq hx1)
          have hxx : (((s[1].toNat : Int) != 120)) = true := by simp; omega
          clear hq e1 e2 e3 hx1 hx
          go_enter Tryd.func103, Tryd.ntmps103
          go_wp2_with fail
          refine (slash_no _ _ HQ.out).mono ?_
          rintro e w' ⟨rfl, rfl⟩
          go_wp2_with fail
          exact bodyPost_ret (v := .tuple #[.int .u8 0, .int .i64 0]) (by simp [results, Tryd.results103, go_sem]) rfl (out_none (X.out) (Below.refl _ _))
      · have X := Lib.hid (show x = none by
          rw [← hx, e1]
          by_cases hx1 : s[1].toNat = 120
          · by_cases h3 : 3 ≤ s.size
            · rw [at_drop s 2 (by omega), at_end s 3 (by omega)]; exact esc_short1 _ _ hx1
            · rw [at_end s 2 (by omega)]; exact esc_short0 _ hx1
          · exact esc_other _ _ hq hx1)
        have l4 : decide ((s.size : Int) < 4) = true := decide_eq_true (by omega)
        clear hq e1 hx
        go_enter Tryd.func103, Tryd.ntmps103
        go_wp2_with fail
        refine (slash_no _ _ HQ.out).mono ?_
        rintro e w' ⟨rfl, rfl⟩
        go_wp2_with fail
        exact bodyPost_ret (v := .tuple #[.int .u8 0, .int .i64 0]) (by simp [results, Tryd.results103, go_sem]) rfl (out_none (X.out) (Below.refl _ _))
  · have X := Lib.hid (show x = none by rw [← hx, at_end s 1 (by omega)]; rfl)
    have l4 : decide ((s.size : Int) < 4) = true := decide_eq_true (by omega)
    clear hx
    go_enter Tryd.func103, Tryd.ntmps103
    go_wp2_with fail
    exact bodyPost_ret (v := .tuple #[.int .u8 0, .int .i64 0]) (by simp [results, Tryd.results103, go_sem]) rfl (out_none (X.out) (Below.refl _ _))
end Go.Proofs.YtagkmfhicpcjnaaDoor.Names
/- The contract of readQuoted of names. -/
set_option linter.unusedVariables false
set_option maxRecDepth 100000
namespace Go.Proofs.YtagkmfhicpcjnaaDoor.Names
open Go.RowKit

/-- A list of bytes as a string. -/
def bs (l : List UInt8) : ByteArray := ⟨l.toArray⟩
theorem bs_data (l : List UInt8) : (bs l).data.toList = l := rfl
theorem bs_size (l : List UInt8) : (bs l).size = l.length := by simp [bs, ByteArray.size]
theorem bs_inj {a b : List UInt8} (h : bs a = bs b) : a = b := by have := congrArg (fun s => s.data.toList) h; simpa [bs] using this
theorem of_data {s t : ByteArray} (h : s.data.toList = t.data.toList) : s = t := by
  apply ByteArray.ext; exact Array.toList_inj.1 h
theorem bs_append (a b : List UInt8) : bs a ++ bs b = bs (a ++ b) := of_data (by simp [bs])
theorem bs_self (s : ByteArray) : bs s.data.toList = s := of_data (bs_data _)
theorem str_bs (l : List UInt8) : strOfNums (l.map fun c => (c.toNat : Int)) = bs l := by
  apply of_data
  rw [strOfNums_data, bs_data, List.map_map]
  conv => rhs; rw [← List.map_id l]
  apply List.map_congr_left
  intro c _
  simp
theorem toNat_bytes (s : ByteArray) : s.data.toList.length = s.size := by simp
theorem ext_take (s : ByteArray) (n : Nat) : s.extract 0 n = bs (s.data.toList.take n) := by
  apply of_data; rw [bs_data]; simp [List.extract]
theorem ext_drop (s : ByteArray) (n : Nat) : s.extract n s.size = bs (s.data.toList.drop n) := by
  apply of_data; rw [bs_data]; simp [List.extract]
  exact List.take_of_length_le (by simp)

/-- Bytes as the cells of a row. -/
def u8s (l : List UInt8) : List Value := l.map fun c => Value.int .u8 (c.toNat : Int)
theorem u8s_append (a b : List UInt8) : u8s a ++ u8s b = u8s (a ++ b) := by unfold u8s; rw [List.map_append]
theorem u8s_length (a : List UInt8) : (u8s a).length = a.length := by unfold u8s; rw [List.length_map]
theorem snoc_len (ys : List UInt8) (c : UInt8) : (ys ++ [c]).length = ys.length + 1 := by simp
/-- The cell of a new row of one element. -/
theorem one_cell (w : World) (c : Value) (T : TypeId) : ∀ (j : Nat) (u : Value), [c][j]? = some u → (w.alloc (Obj.cells #[c] T)).cell? ({ block := w.heap.size, off := 0 : Addr }.add j) = some u := by
  intro j u h
  cases j with
  | zero => simp at h; subst h; simp [Addr.add, World.cell?_alloc_new]
  | succ j => simp at h
theorem info_u8 : (Tryd.prog.info? 5).map (fun i => (i.zero, i.size, i.bytes)) = some (some (.int .u8 0), 1, 1) := by kernel_rfl
theorem conv_own {w : World} {base n : Nat} {v : Value} {ys : List UInt8} (h : w.ownsRow base 5 1 v n (u8s ys)) :
    (convert 65 9 v).run Tryd.prog w = .ok (.string (bs ys)) w := by
  have hl := h.1
  rw [u8s_length] at hl
  rcases h.2 with ⟨rfl, h0⟩ | ⟨g, cap, cur, rfl, h2, h3, h4⟩
  · rw [run_convert_bytes_nil w 65 5 Tryd.underlying65 Tryd.underlying5 0 0 9 Tryd.underlying9]
    have : ys = [] := List.eq_nil_of_length_eq_zero (by omega)
    subst this; rfl
  · rw [← str_bs]
    refine run_convert_bytes_arg w 65 5 Tryd.underlying65 Tryd.underlying5 g 0 n cap _ (by simp; omega) (fun i hi => ?_) 9 Tryd.underlying9
    have := h.cells (g := g) rfl i (.int .u8 ((ys.map fun c => (c.toNat : Int)).getD i 0)) (by
      unfold u8s
      rw [List.getElem?_map]
      have hi2 : i < ys.length := by omega
      simp [List.getD, List.getElem?_eq_getElem hi2])
    rw [show ({ block := g, off := 0, spot := none : Addr }.add i) = ⟨g, i, none⟩ by unfold Addr.add; split <;> simp_all] at this
    rw [Nat.zero_add]; exact this

theorem ownsRow_iterAt {w : World} {base : Nat} {e : TypeId} {size : Nat} {v : Value} {n : Nat} {xs : List Value} (h : w.ownsRow base e size v n xs) {k : Nat} (hk : k < base) (s : ByteArray) (p : Nat) : (w.iterAt k s p).ownsRow base e size v n xs := by
  obtain ⟨h1, h2⟩ := h
  refine ⟨h1, ?_⟩
  rcases h2 with h2 | ⟨g, cap, cur, a, b, c, d⟩
  · exact .inl h2
  · exact .inr ⟨g, cap, cur, a, b, by rw [Lib.iterAt_other _ _ _ _ _ (by omega)]; exact c, d⟩
theorem ownsRow_below {w w' : World} {base : Nat} {e : TypeId} {size : Nat} {v : Value} {n : Nat} {xs : List Value} (h : w.ownsRow base e size v n xs) (hb : Below w.heap.size w w') : w'.ownsRow base e size v n xs := by
  obtain ⟨h1, h2⟩ := h
  refine ⟨h1, ?_⟩
  rcases h2 with h2 | ⟨g, cap, cur, a, b, c, d⟩
  · exact .inl h2
  · exact .inr ⟨g, cap, cur, a, b, by rw [hb.block g (Array.getElem?_eq_some_iff.1 c).1]; exact c, d⟩
theorem iterPos_of {w : World} {k : Nat} {s : ByteArray} {p : Nat} (h : w.heap[k]? = some (.stringIter s p)) : w.iterPos k = p := by simp [World.iterPos, h]

/-- An iterator over s stands at pos; the row v of the call's own holds these bytes; what was there is as it was. -/
structure RQ (B : Nat) (w : World) (s : ByteArray) (pos : Nat) (v : Value) (acc : List UInt8) (wr : World) : Prop where
  it : wr.heap[B]? = some (.stringIter s pos)
  ow : wr.ownsRow (B + 1) 5 1 v acc.length (u8s acc)
  be : Below B w wr
theorem RQ.lt {B : Nat} {w : World} {s : ByteArray} {pos : Nat} {v : Value} {acc : List UInt8} {wr : World} (h : RQ B w s pos v acc wr) : B < wr.heap.size := (Array.getElem?_eq_some_iff.1 h.it).1
theorem RQ.next {B : Nat} {w : World} {s : ByteArray} {pos : Nat} {v : Value} {acc : List UInt8} {wr : World} (h : RQ B w s pos v acc wr) (p : Nat) : RQ B w s p v acc (wr.iterAt B s p) :=
  ⟨Lib.iterAt_heap wr B s pos p h.it, ownsRow_iterAt h.ow (by omega) s p, Lib.below_iterAt h.be (Nat.le_refl _) s p⟩
theorem RQ.call {B : Nat} {w : World} {s : ByteArray} {pos : Nat} {v : Value} {acc : List UInt8} {wr w2 : World} (h : RQ B w s pos v acc wr) (hb : Below wr.heap.size wr w2) : RQ B w s pos v acc w2 :=
  ⟨by rw [hb.block B h.lt]; exact h.it, ownsRow_below h.ow hb, h.be.trans (hb.mono (Nat.le_of_lt h.lt))⟩
theorem RQ.app {B : Nat} {w : World} {s : ByteArray} {pos : Nat} {v v' : Value} {acc news : List UInt8} {wr w3 : World} {o : Obj} (h : RQ B w s pos v acc wr)
    (hown : w3.ownsRow (B + 1) 5 1 v' (acc.length + news.length) (u8s acc ++ u8s news)) (hg : (wr.alloc o).grownBy w3 v.ownBlock) : RQ B w s pos v' (acc ++ news) w3 := by
  have hl := h.lt
  have hk := h.ow.lt
  refine ⟨?_, by rw [List.length_append, ← u8s_append]; exact hown, (h.be.alloc (Nat.le_of_lt hl) _).grown hg (by simp; omega) (fun k e => by have := (hk k e).1; omega)⟩
  rw [hg.block B (by simp; omega) (fun e => by have := (hk B e.symm).1; omega), Below.heap_alloc _ _ _ hl]
  exact h.it

/-- What readQuoted hands back. -/
def rqV (x : Option (List UInt8 × Nat)) : List UInt8 × Nat := x.getD ([], 0)
def OutRq (x : Option (List UInt8 × Nat)) (w : World) (e : Ending) (w' : World) : Prop :=
  e = .returned (.tuple #[.string (bs (rqV x).1), .int .i64 ((rqV x).2 : Int)]) ∧ Below w.heap.size w w'
theorem outq_none {x : Option (List UInt8 × Nat)} {w w' : World} {s : ByteArray} (h : x = none) (hs : s = bs []) (hb : Below w.heap.size w w') : OutRq x w (.returned (.tuple #[.string s, .int .i64 0])) w' := by subst h; subst hs; exact ⟨rfl, hb⟩
theorem outq_some {x : Option (List UInt8 × Nat)} {w w' : World} {t : List UInt8} {n : Nat} (h : x = some (t, n)) {b : Int} (hn : b = (n : Int)) (hb : Below w.heap.size w w') : OutRq x w (.returned (.tuple #[.string (bs t), .int .i64 b])) w' := by
  subst h; subst hn; exact ⟨rfl, hb⟩

theorem head_at (s : ByteArray) (k : Nat) (h : k < s.size) : (s.data.toList.drop k).head? = some s[k] := by rw [at_drop s k h]; rfl
theorem head_ne (s : ByteArray) (k : Nat) (h : k < s.size) (h2 : s[k].toNat ≠ 34) : (s.data.toList.drop k).head? ≠ some 34 := by
  rw [head_at s k h]; intro e
  have := Option.some.inj e
  rw [this] at h2; exact h2 rfl
theorem head_eq (s : ByteArray) (k : Nat) (h : k < s.size) (h2 : s[k].toNat = 34) : (s.data.toList.drop k).head? = some 34 := by
  rw [head_at s k h]; exact congrArg some (UInt8.toNat_inj.1 (by rw [h2]; rfl))

theorem fm_ascii (c : UInt8) : ∀ b ∈ fm c, b.toNat < 128 := by
  have hc := c.toNat_lt
  intro b hb
  unfold fm at hb
  split at hb
  · simp at hb
    rcases hb with rfl | rfl
    · decide
    · omega
  · split at hb
    · have h1 := hx_byte (c.toNat / 16) (by omega)
      have h2 := hx_byte (c.toNat % 16) (by omega)
      simp at hb
      rcases hb with rfl | rfl | rfl | rfl
      · decide
      · decide
      · omega
      · omega
    · simp at hb
      subst hb
      omega
theorem fm_two (c a : UInt8) (t : List UInt8) (h : fm c = a :: t) (ha : a.toNat = 92) : 2 ≤ (fm c).length := by
  unfold fm at h ⊢
  split
  · simp
  · rename_i h1
    split
    · simp
    · rename_i h2
      rw [if_neg h1, if_neg h2] at h
      have := (List.cons.inj h).1
      rw [this] at h1
      exact absurd (Or.inr ha) h1
theorem esc_range (s : ByteArray) (pos : Nat) (hp : pos < s.size) (c : UInt8) (r : List UInt8) (h92 : s[pos].toNat = 92) (h : s.data.toList.drop pos = fm c ++ r) :
    2 ≤ (fm c).length ∧ pos + (fm c).length ≤ s.size ∧ ∀ j (hj : j < s.size), pos + 1 ≤ j → j < pos + (fm c).length → s[j].toNat < 128 := by
  have hl := congrArg List.length h
  rw [List.length_drop, toNat_bytes, List.length_append] at hl
  have h1 := fm_length c
  refine ⟨?_, by omega, fun j hj a b => ?_⟩
  · rw [at_drop s pos hp] at h
    match e : fm c with
    | [] => rw [e] at h1; simp at h1
    | x :: t =>
      rw [e] at h
      have h3 := (List.cons.inj h).1
      rw [← e]
      exact fm_two c x t e (by rw [← h3]; exact h92)
  · have e : s[j] = (s.data.toList.drop pos)[j - pos]'(by rw [List.length_drop, toNat_bytes]; omega) := by
      rw [List.getElem_drop]
      have : pos + (j - pos) = j := by omega
      simp only [this]
      rfl
    rw [e]
    apply fm_ascii c
    have : (s.data.toList.drop pos)[j - pos]'(by rw [List.length_drop, toNat_bytes]; omega) = (fm c)[j - pos]'(by omega) := by
      simp only [h]
      rw [List.getElem_append_left (by omega)]
    rw [this]
    exact List.getElem_mem _

theorem ne_list (s : ByteArray) (h : 0 < s.size) : ¬ s.toList = [] := by
  rw [Lib.toList_data]; intro e
  have := congrArg List.length e
  rw [toNat_bytes, List.length_nil] at this; omega
theorem ne_empty (s : ByteArray) (h : 0 < s.size) : s.toList.isEmpty = false := by
  have := ne_list s h
  cases e : s.toList with
  | nil => exact absurd e this
  | cons a b => rfl
theorem eq_empty (s : ByteArray) (h : ¬ 0 < s.size) : s = bs [] := of_data (by
  rw [bs_data]; exact List.eq_nil_of_length_eq_zero (by rw [toNat_bytes]; omega))

set_option maxRecDepth 100000 in
set_option maxHeartbeats 2000000 in
theorem rq_any (s : ByteArray) (w : World) (hs : s.size ≤ 100000) (x : Option (List UInt8 × Nat)) (hx : rdq s.data.toList = x) :
    Calls Tryd.prog 99 #[.string s] w (OutRq x w) := by
  obtain ⟨i0, hi, hz0, hz1, hz2⟩ := info_parts info_u8
  by_cases h0 : 0 < s.size
  case neg =>
    obtain rfl := eq_empty s h0
    have X := Lib.hid (show x = none by rw [← hx]; rfl)
    have n1 : (bs []).toList = [] := by rw [Lib.toList_data]; rfl
    have n2 : (bs []).toList.isEmpty = true := by rw [n1]; rfl
    clear hx h0
    go_enter Tryd.func99, Tryd.ntmps99
    go_wp2_with fail
    exact bodyPost_ret (v := .tuple #[.string (bs []), .int .i64 0]) (by simp [results, Tryd.results99, go_sem]; rfl) rfl (outq_none X.out rfl (Below.refl _ _))
  have n1 := ne_list s h0
  have n2 := ne_empty s h0
  by_cases hq : s[0].toNat = 34
  · have hl := toNat_bytes s
    have e0 := head_eq s 0 (by omega) hq
    rw [List.drop_zero] at e0
    have X := Lib.hid (show x = (rd s.data.toList.length (s.data.toList.drop 1)).map fun y => ([] ++ y.1, 1 + y.2) by
      rw [← hx]; unfold rdq; rw [if_pos e0]; rfl)
    have HQ := Lib.hid hq
    have hq2 : ((s[0].toNat : Int) != 34) = false := by simp; omega
    have hs1 : 1 ≤ s.size := by omega
    clear hx e0 hq
    go_enter Tryd.func99, Tryd.ntmps99
    go_wp2_with fail
    go_loopw [4, 5] (fun v m wr => ∃ (pos nx f : Nat) (n : Nat) (acc : List UInt8), m = .int .i64 n ∧ pos ≤ nx ∧ n ≤ nx ∧ (pos = nx ∨ n = nx) ∧ nx ≤ s.size ∧ 1 ≤ nx ∧ acc.length ≤ nx ∧ s.size < nx + f ∧
      (∀ j (hj : j < s.size), pos ≤ j → j < nx → s[j].toNat < 128) ∧ x = ((rd f (s.data.toList.drop nx)).map fun y => (acc ++ y.1, nx + y.2)) ∧ RQ w.heap.size w s pos v acc wr) (fun _ _ wr => s.size - wr.iterPos w.heap.size)
    case atStart => 
      refine ⟨0, 1, s.size, 1, [], rfl, by omega, by omega, Or.inr rfl, by omega, by omega, by simp, by omega, fun j hj h1 h2 => ?_, ?_, World.iter_heap w s 0, World.ownsRow_nil _ _ _ _, (Below.refl _ _).alloc (Nat.le_refl _) _⟩
      · obtain rfl : j = 0 := by omega
        have := HQ.out; omega
      · rw [← toNat_bytes s]; exact X.out
    case round =>
      obtain ⟨pos, nx, f, n, acc, rfl, h1, h2, h3, h4, h5, h6, h7, h8, h9, hr⟩ := hrel
      have hpos := iterPos_of hr.it
      by_cases hp : pos < s.size
      · by_cases ha : s[pos].toNat < 128
        · have hnx : ∀ ty, (Instr.next (.pointer (some ⟨w.heap.size, 0, none⟩)) true ty).run Tryd.prog wr = _ := fun ty => Lib.run_next_ascii_at wr w.heap.size s pos ty hr.it hp ha
          have hr2 := hr.next (pos + 1)
          obtain ⟨W1, hW1⟩ : ∃ W1, W1 = wr.iterAt w.heap.size s (pos + 1) := ⟨_, rfl⟩
          rw [← hW1] at hnx hr2
          have hBlt := hr2.lt
          have hm2 := iterPos_of hr2.it
          have R2 := Lib.hid hr2
          have X1 := Lib.hid h9
          have H8 := Lib.hid h8
          clear h8 h9 hr hW1 X
          by_cases hcon : pos < nx
          · obtain rfl : n = nx := by omega
            clear hr2
            go_wp2_with fail
            go_roundw
            case rel => exact ⟨pos + 1, n, f, n, acc, rfl, by omega, by omega, Or.inr rfl, h4, h5, h6, h7, fun j hj a b => H8.out j hj (by omega) b, X1.out, R2.out⟩
            case measure => rw [hm2, hpos]; omega
          · obtain rfl : pos = nx := by omega
            have hnlt : ¬ pos < n := by omega
            obtain ⟨f, rfl⟩ : ∃ g, f = g + 1 := ⟨f - 1, by omega⟩
            have hown := hr2.ow
            have B2 := Lib.hid hr2.be
            have HP := Lib.hid (at_drop s pos hp)
            clear hr2 hcon h3
            by_cases hq34 : s[pos].toNat = 34
            · have X2 := Lib.hid (show x = some (acc, pos + 1) by
                rw [X1.out, rd_quote f _ (head_eq s pos hp hq34)]; simp)
              have t34 : ((s[pos].toNat : Int) == 34) = true := by simp; omega
              have hcv := conv_own hown
              clear hown hq34
              go_wp2_with fail
              exact bodyPost_ret (v := .tuple #[.string (bs acc), .int .i64 ((pos : Int) + 1)]) (by simp [results, Tryd.results99, go_sem]) rfl (outq_some X2.out (by omega) B2.out)
            · have hh := head_ne s pos hp hq34
              have t34 : ((s[pos].toNat : Int) == 34) = false := by simp; omega
              by_cases hq92 : s[pos].toNat = 92
              · have t92 : ((s[pos].toNat : Int) == 92) = true := by simp; omega
                have S : stp (s.data.toList.drop pos) = esc (s.data.toList.drop (pos + 1)) := by rw [HP.out, stp_cons, if_pos hq92]
                have hxs : (s.extract pos s.size).size = s.size - pos := by simp
                have hxd : (s.extract pos s.size).data.toList.drop 1 = s.data.toList.drop (pos + 1) := by rw [ext_drop, bs_data, List.drop_drop]
                rcases hesc : esc (s.data.toList.drop (pos + 1)) with _ | ⟨c, k⟩
                · have X2 := Lib.hid (show x = none by rw [X1.out, rd_none f _ hh (by rw [S, hesc])]; rfl)
                  have Q := Lib.hid (esc_any (s.extract pos s.size) W1 (by omega) (by omega) none (by rw [hxd]; exact hesc))
                  clear hq34 hq92 hh S hxs hxd hesc hown
                  go_wp2_with fail
                  refine Q.out.mono ?_
                  rintro e w2 ⟨rfl, hb2⟩
                  have B3 := Lib.hid (B2.out.trans (hb2.mono (Nat.le_of_lt hBlt)))
                  clear hb2
                  simp only [escR, Option.getD_none]
                  go_wp2_with fail
                  exact bodyPost_ret (v := .tuple #[.string (bs []), .int .i64 0]) (by simp [results, Tryd.results99, go_sem]; rfl) rfl (outq_none X2.out rfl B3.out)
                · have hst := stp_sound (S.trans hesc)
                  obtain ⟨r, hr, hk⟩ := hst
                  have hk4 := fm_length c
                  have hkn : 2 ≤ k ∧ pos + k ≤ s.size ∧ (∀ j (hj : j < s.size), pos + 1 ≤ j → j < pos + k → s[j].toNat < 128) := by
                    rw [hk]
                    exact esc_range s pos hp c r hq92 hr
                  obtain ⟨hk2, hks, hk3⟩ := hkn
                  have K3 := Lib.hid hk3
                  have X2 := Lib.hid (show x = (rd f (s.data.toList.drop (pos + k))).map fun y => ((acc ++ [c]) ++ y.1, (pos + k) + y.2) by
                    rw [X1.out, rd_some f _ c k hh (S.trans hesc), List.drop_drop, Option.map_map]
                    congr 1
                    funext y
                    simp; omega)
                  have Q := Lib.hid (esc_any (s.extract pos s.size) W1 (by omega) (by omega) (some (c, k)) (by rw [hxd]; exact hesc))
                  have hk0 : ((k : Int) == 0) = false := by simp; omega
                  clear hq34 hq92 hh S hxs hxd hesc hown hr hk hk4 hk3
                  go_wp2_with fail
                  refine Q.out.mono ?_
                  rintro e w2 ⟨rfl, hb2⟩
                  have R2 := Lib.hid (R2.out.call hb2)
                  have hBlt := R2.out.lt
                  have hown := R2.out.ow
                  clear hb2
                  simp only [escR, Option.getD_some]
                  go_wp2_with (at_builtin; refine wpList_append_own _ rfl (.tmp 46) (.tmp 48) 65 rfl (w.heap.size + 1) 5 i0 (.int .u8 0) 1 1 Tryd.underlying65 hi hz0 hz1 hz2 rfl (by decide) _ _ _ rfl (hown.alloc _) ⟨w2.heap.size, 0, none⟩ 1 1 [.int .u8 (c.toNat : Int)] rfl rfl (one_cell _ _ _) ?c2 ?c3 ?c4 ?c5 ?_)
                  case c2 => intro u hu; simp at hu; subst hu; rfl
                  case c3 => unfold maxLen; omega
                  case c4 => omega
                  case c5 => simp; omega
                  intro v' w3 hown' hgrow _
                  have R3 := Lib.hid (R2.out.app (news := [c]) hown' hgrow)
                  clear hown' hgrow hown
                  go_wp2_with fail
                  go_roundw
                  case rel => exact ⟨pos + 1, pos + k, f, pos + k, acc ++ [c], by go_num, by omega, by omega, Or.inr rfl, hks, by omega, by rw [snoc_len]; omega, by omega, K3.out, X2.out, R3.out⟩
                  case measure => rw [iterPos_of R3.out.it, hpos]; omega
              · have t92 : ((s[pos].toNat : Int) == 92) = false := by simp; omega
                have S : stp (s.data.toList.drop pos) = if pl s[pos] then some (s[pos], 1) else none := by rw [HP.out, stp_cons, if_neg hq92]
                have PA := Lib.hid (plain_any s[pos].toNat W1)
                by_cases hpl : pl s[pos] = true
                · rw [plB_pl, hpl] at PA
                  rw [if_pos hpl] at S
                  have X2 := Lib.hid (show x = (rd f (s.data.toList.drop (pos + 1))).map fun y => ((acc ++ [s[pos]]) ++ y.1, (pos + 1) + y.2) by
                    rw [X1.out, rd_some f _ _ 1 hh S, List.drop_drop, Option.map_map]
                    congr 1
                    funext y
                    simp; omega)
                  clear hq34 hq92 hh S hpl
                  go_wp2_with fail
                  refine PA.out.mono ?_
                  rintro e w2 ⟨rfl, rfl⟩
                  go_wp2_with (at_builtin; refine wpList_append_own _ rfl (.tmp 56) (.tmp 60) 65 rfl (w.heap.size + 1) 5 i0 (.int .u8 0) 1 1 Tryd.underlying65 hi hz0 hz1 hz2 rfl (by decide) _ _ _ rfl (hown.alloc _) ⟨W1.heap.size, 0, none⟩ 1 1 [.int .u8 (s[pos].toNat : Int)] rfl rfl (one_cell _ _ _) ?c2 ?c3 ?c4 ?c5 ?_)
                  case c2 => intro u hu; simp at hu; subst hu; rfl
                  case c3 => unfold maxLen; omega
                  case c4 => omega
                  case c5 => simp; omega
                  intro v' w3 hown' hgrow _
                  have R3 := Lib.hid (R2.out.app (news := [s[pos]]) hown' hgrow)
                  clear hown' hgrow hown
                  go_wp2_with fail
                  go_roundw
                  case rel => exact ⟨pos + 1, pos + 1, f, n, acc ++ [s[pos]], rfl, by omega, by omega, Or.inl rfl, by omega, by omega, by rw [snoc_len]; omega, by omega, fun j hj a b => by omega, X2.out, R3.out⟩
                  case measure => rw [iterPos_of R3.out.it, hpos]; omega
                · have hpf : pl s[pos] = false := by simpa using hpl
                  rw [plB_pl, hpf] at PA
                  rw [if_neg hpl] at S
                  have X2 := Lib.hid (show x = none by rw [X1.out, rd_none f _ hh S]; rfl)
                  clear hq34 hq92 hh S hpl hpf hown
                  go_wp2_with fail
                  refine PA.out.mono ?_
                  rintro e w2 ⟨rfl, rfl⟩
                  go_wp2_with fail
                  exact bodyPost_ret (v := .tuple #[.string (bs []), .int .i64 0]) (by simp [results, Tryd.results99, go_sem]; rfl) rfl (outq_none X2.out rfl B2.out)
        · have hnx : ∀ ty, (Instr.next (.pointer (some ⟨w.heap.size, 0, none⟩)) true ty).run Tryd.prog wr = _ := fun ty => Lib.run_next_any_at wr w.heap.size s pos ty hr.it hp
          have hr2 := hr.next (pos + (Utf8.decode s pos).2)
          have hd1 := decode_le s pos
          have hd2 := (decode_high s pos hp (by omega)).1
          obtain ⟨W1, hW1⟩ : ∃ W1, W1 = wr.iterAt w.heap.size s (pos + (Utf8.decode s pos).2) := ⟨_, rfl⟩
          rw [← hW1] at hnx hr2
          have hcon : ¬ pos < nx := fun h => ha (h8 pos hp (Nat.le_refl _) h)
          obtain rfl : pos = nx := by omega
          have hnlt : ¬ pos < n := by omega
          obtain ⟨f, rfl⟩ : ∃ g, f = g + 1 := ⟨f - 1, by omega⟩
          have X2 := Lib.hid (show x = none by
            rw [h9, rd_none f _ (head_ne s pos hp (by omega)) (by
              rw [at_drop s pos hp, stp_cons, if_neg (by omega), if_neg]
              intro e
              have := of_decide_eq_true e
              omega)]
            rfl)
          have B2 := Lib.hid hr2.be
          generalize (Utf8.decode s pos).1 = cc at *
          have PA := Lib.hid (show plB cc = false from decide_eq_false (by omega))
          have t34 : ((cc : Int) == 34) = false := by simp; omega
          have t92 : ((cc : Int) == 92) = false := by simp; omega
          clear h8 h9 hr hr2 hW1 X hcon
          go_wp2_with fail
          refine (plain_any cc _).mono ?_
          rw [PA.out]
          rintro e w2 ⟨rfl, rfl⟩
          go_wp2_with fail
          exact bodyPost_ret (v := .tuple #[.string (bs []), .int .i64 0]) (by simp [results, Tryd.results99, go_sem]; rfl) rfl (outq_none X2.out rfl B2.out)
      · have hnx : ∀ ty, (Instr.next (.pointer (some ⟨w.heap.size, 0, none⟩)) true ty).run Tryd.prog wr = _ := fun ty => Lib.run_next_end_at wr w.heap.size s pos ty hr.it hp
        have X2 := Lib.hid (show x = none by
          rw [h9, at_end s nx (by omega)]
          obtain ⟨f, rfl⟩ : ∃ g, f = g + 1 := ⟨f - 1, by omega⟩
          rfl)
        have B := Lib.hid hr.be
        clear h8 h9 hr hpos X
        go_wp2_with fail
        exact bodyPost_ret (v := .tuple #[.string (bs []), .int .i64 0]) (by simp [results, Tryd.results99, go_sem]; rfl) rfl (outq_none X2.out rfl B.out)
  · have X := Lib.hid (show x = none by
      rw [← hx]; unfold rdq; rw [if_neg]
      have := head_ne s 0 h0 hq
      rw [List.drop_zero] at this; exact this)
    have hq2 : ((s[0].toNat : Int) != 34) = true := by simp; omega
    clear hx hq
    go_enter Tryd.func99, Tryd.ntmps99
    go_wp2_with fail
    exact bodyPost_ret (v := .tuple #[.string (bs []), .int .i64 0]) (by simp [results, Tryd.results99, go_sem]; rfl) rfl (outq_none X.out rfl (Below.refl _ _))
end Go.Proofs.YtagkmfhicpcjnaaDoor.Names
/- Contracts of Unquote, partSize and Fields of names. -/
set_option linter.unusedVariables false
set_option maxRecDepth 100000
namespace Go.Proofs.YtagkmfhicpcjnaaDoor.Names
open Go.RowKit

/-- What Unquote hands back. -/
def OutUq (x : List UInt8 × Int) (w : World) (e : Ending) (w' : World) : Prop :=
  e = .returned (.tuple #[.string (bs x.1), .int .i64 x.2]) ∧ Below w.heap.size w w'
theorem outu {x : List UInt8 × Int} {w w' : World} {s : ByteArray} {t : List UInt8} {n : Int} (h : x = (t, n)) (hs : s = bs t) (hb : Below w.heap.size w w') : OutUq x w (.returned (.tuple #[.string s, .int .i64 n])) w' := by
  subst h; subst hs; exact ⟨rfl, hb⟩
theorem unq_none {l : List UInt8} (h : rdq l = none) : unq l = ([], 4) := by unfold unq; rw [h]
theorem unq_more {l t : List UInt8} {n : Nat} (h : rdq l = some (t, n)) (h2 : n < l.length) : unq l = ([], 4) := by unfold unq; rw [h]; dsimp only; rw [if_pos h2]
theorem unq_long {l t : List UInt8} {n : Nat} (h : rdq l = some (t, n)) (h2 : ¬ n < l.length) (h3 : 60 < t.length) : unq l = ([], 3) := by unfold unq; rw [h]; dsimp only; rw [if_neg h2, if_pos h3]
theorem unq_good {l t : List UInt8} {n : Nat} (h : rdq l = some (t, n)) (h2 : ¬ n < l.length) (h3 : ¬ 60 < t.length) : unq l = (t, 0) := by unfold unq; rw [h]; dsimp only; rw [if_neg h2, if_neg h3]

set_option maxHeartbeats 1000000 in
theorem uq_any (s : ByteArray) (w : World) (hs : s.size ≤ 100000) (x : List UInt8 × Int) (hx : unq s.data.toList = x) :
    Calls Tryd.prog 84 #[.string s] w (OutUq x w) := by
  rcases hr : rdq s.data.toList with _ | ⟨t, n⟩
  · have X := Lib.hid (hx.symm.trans (unq_none hr))
    have Q := Lib.hid (rq_any s w hs none hr)
    clear hx hr
    go_enter Tryd.func84, Tryd.ntmps84
    go_wp2_with fail
    refine Q.out.mono ?_
    rintro e w1 ⟨rfl, hb⟩
    have B := Lib.hid hb
    clear hb
    simp only [rqV, Option.getD_none]
    go_wp2_with fail
    exact bodyPost_ret (v := .tuple #[.string (bs []), .int .i64 4]) (by simp [results, Tryd.results84, go_sem]; rfl) rfl (outu X.out rfl B.out)
  · have Q := Lib.hid (rq_any s w hs (some (t, n)) hr)
    have hz := rdq_size hr
    rw [toNat_bytes] at hz
    have hn0 : ((n : Int) == 0) = false := by simp; omega
    have htb := bs_size t
    have htl : (bs t).size ≤ 100000 := by omega
    by_cases h1 : n < s.size
    · have X := Lib.hid (hx.symm.trans (unq_more hr (by rw [toNat_bytes]; exact h1)))
      clear hx hr htb
      go_enter Tryd.func84, Tryd.ntmps84
      go_wp2_with fail
      refine Q.out.mono ?_
      rintro e w1 ⟨rfl, hb⟩
      have B := Lib.hid hb
      clear hb
      simp only [rqV, Option.getD_some]
      go_wp2_with fail
      exact bodyPost_ret (v := .tuple #[.string (bs []), .int .i64 4]) (by simp [results, Tryd.results84, go_sem]; rfl) rfl (outu X.out rfl B.out)
    · by_cases h2 : 60 < t.length
      · have X := Lib.hid (hx.symm.trans (unq_long hr (by rw [toNat_bytes]; exact h1) h2))
        have h3 : 60 < (bs t).size := by omega
        clear hx hr htb
        go_enter Tryd.func84, Tryd.ntmps84
        go_wp2_with fail
        refine Q.out.mono ?_
        rintro e w1 ⟨rfl, hb⟩
        have B := Lib.hid hb
        clear hb
        simp only [rqV, Option.getD_some]
        go_wp2_with fail
        exact bodyPost_ret (v := .tuple #[.string (bs []), .int .i64 3]) (by simp [results, Tryd.results84, go_sem]; rfl) rfl (outu X.out rfl B.out)
      · have X := Lib.hid (hx.symm.trans (unq_good hr (by rw [toNat_bytes]; exact h1) h2))
        have h3 : ¬ 60 < (bs t).size := by omega
        clear hx hr htb
        go_enter Tryd.func84, Tryd.ntmps84
        go_wp2_with fail
        refine Q.out.mono ?_
        rintro e w1 ⟨rfl, hb⟩
        have B := Lib.hid hb
        clear hb
        simp only [rqV, Option.getD_some]
        go_wp2_with fail
        exact bodyPost_ret (v := .tuple #[.string (bs t), .int .i64 0]) (by simp [results, Tryd.results84, go_sem]) rfl (outu X.out rfl B.out)

/-- How many bytes above 32 stand from this place on. -/
def tw (s : ByteArray) (p : Nat) : Nat := ((s.data.toList.drop p).takeWhile fun c => decide (32 < c.toNat)).length
theorem tw_end (s : ByteArray) (p : Nat) (h : s.size ≤ p) : tw s p = 0 := by unfold tw; rw [at_end s p h]; rfl
theorem tw_stop (s : ByteArray) (p : Nat) (h : p < s.size) (h2 : ¬ 32 < s[p].toNat) : tw s p = 0 := by
  unfold tw; rw [at_drop s p h, List.takeWhile_cons, if_neg (by simpa using h2)]; rfl
theorem tw_step (s : ByteArray) (p : Nat) (h : p < s.size) (h2 : 32 < s[p].toNat) : tw s p = 1 + tw s (p + 1) := by
  unfold tw; rw [at_drop s p h, List.takeWhile_cons, if_pos (by simpa using h2), List.length_cons]; omega
theorem tw_skip (s : ByteArray) (k : Nat) : ∀ p, p + k ≤ s.size → (∀ j (hj : p + j < s.size), j < k → 128 ≤ (s[p + j]'hj).toNat) → tw s p = k + tw s (p + k) := by
  induction k with
  | zero => intro p _ _; rw [Nat.zero_add]; rfl
  | succ k ih =>
    intro p h1 h2
    have h3 : 128 ≤ (s[p]'(by omega)).toNat := h2 0 (by omega) (by omega)
    rw [tw_step s p (by omega) (by omega), ih (p + 1) (by omega) (fun j hj hk => ?_), show p + 1 + k = p + (k + 1) by omega]
    · omega
    · have := h2 (j + 1) (by omega) (by omega)
      have e : p + (j + 1) = p + 1 + j := by omega
      simp only [e] at this
      exact this
theorem psz_tw (s : ByteArray) (h : s.data.toList.head? ≠ some 34) : psz s.data.toList = tw s 0 := by
  unfold psz tw; rw [if_neg h, List.drop_zero]
theorem psz_rdq {l : List UInt8} (h : l.head? = some 34) : psz l = ((rdq l).getD ([], 0)).2 := by unfold psz; rw [if_pos h]

/-- A number is handed back, and memory has only grown. -/
def OutN (n : Int) (w : World) (e : Ending) (w' : World) : Prop := e = .returned (.int .i64 n) ∧ Below w.heap.size w w'
theorem outn {n m : Int} {w w' : World} (h : m = n) (hb : Below w.heap.size w w') : OutN n w (.returned (.int .i64 m)) w' := by subst h; exact ⟨rfl, hb⟩

end Go.Proofs.YtagkmfhicpcjnaaDoor.Names
/- The contract of Fields of names. -/
set_option linter.unusedVariables false
set_option maxRecDepth 100000
namespace Go.Proofs.YtagkmfhicpcjnaaDoor.Names
open Go.RowKit

theorem info_str : (Tryd.prog.info? 9).map (fun i => (i.zero, i.size, i.bytes)) = some (some (.string ByteArray.empty), 1, 16) := by kernel_rfl
/-- Strings as the cells of a row. -/
def strs (l : List (List UInt8)) : List Value := l.map fun t => Value.string (bs t)
theorem strs_append (a b : List (List UInt8)) : strs a ++ strs b = strs (a ++ b) := by unfold strs; rw [List.map_append]
theorem strs_length (a : List (List UInt8)) : (strs a).length = a.length := by unfold strs; rw [List.length_map]
theorem snoc_len2 (ys : List (List UInt8)) (c : List UInt8) : (ys ++ [c]).length = ys.length + 1 := by simp
/-- A row of the call's own that holds these strings. -/
abbrev OwnStr (w : World) (B : Nat) (v : Value) (l : List (List UInt8)) : Prop := w.ownsRow B 9 1 v l.length (strs l)

/-- What Fields hands back: the parts, the error. -/
def flR (x : Option (List (List UInt8))) : List (List UInt8) × Int := match x with | none => ([], 4) | some p => (p, 0)
def OutFl (x : Option (List (List UInt8))) (w : World) (e : Ending) (w' : World) : Prop :=
  ∃ v, e = .returned (.tuple #[v, .int .i64 (flR x).2]) ∧ OwnStr w' w.heap.size v (flR x).1 ∧ Below w.heap.size w w'
theorem outf_none {x : Option (List (List UInt8))} {w w' : World} (h : x = none) (hb : Below w.heap.size w w') : OutFl x w (.returned (.tuple #[.slice none 0 0, .int .i64 4])) w' := by
  subst h; exact ⟨_, rfl, World.ownsRow_nil _ _ _ _, hb⟩
theorem outf_some {x : Option (List (List UInt8))} {w w' : World} {p : List (List UInt8)} {v : Value} (h : x = some p) (ho : OwnStr w' w.heap.size v p) (hb : Below w.heap.size w w') : OutFl x w (.returned (.tuple #[v, .int .i64 0])) w' := by
  subst h; exact ⟨_, rfl, ho, hb⟩
/-- How long a string in a slot is. -/
def strLen (v : Value) : Nat := match v with | .string t => t.size | _ => 0
theorem getD_at (s : ByteArray) (k : Nat) (h : k < s.size) : s.data.toList.getD k 0 = s[k] := by
  simp [List.getD, h]; rfl
theorem map_map_snoc (acc : List (List UInt8)) (p : List UInt8) (y : Option (List (List UInt8))) : (y.map fun x => p :: x).map (fun x => acc ++ x) = y.map fun x => (acc ++ [p]) ++ x := by
  cases y <;> simp

end Go.Proofs.YtagkmfhicpcjnaaDoor.Names
/- Contracts of the reference: digit, Quote. -/
set_option linter.unusedVariables false
set_option maxRecDepth 100000
namespace Go.Proofs.YtagkmfhicpcjnaaDoor.Names
open Go.RowKit

theorem dig_at : ∀ n : Fin 16, ({ data := #[48, 49, 50, 51, 52, 53, 54, 55, 56, 57, 97, 98, 99, 100, 101, 102] } : ByteArray)[n.val]'n.isLt = hx n.val := by decide +kernel
set_option maxHeartbeats 400000 in
theorem digit_any (z : Int) (m n : Nat) (hz : z = (m : Int)) (hm : m < 256) (hn : m % 16 = n) (w : World) :
    Calls Tryd.prog 92 #[.int .u8 z] w fun e w' => e = .returned (.int .u8 ((hx n).toNat : Int)) ∧ w = w' := by
  subst hz
  have D := Lib.hid (fun h => dig_at ⟨n, h⟩)
  have hn16 : n < 16 := by omega
  go_enter Tryd.func92, Tryd.ntmps92
  go_wp2_with fail
  go_ret
  exact ⟨ret_int (by rw [← D.out hn16]), rfl⟩

theorem four_cells (w : World) (a b c d : Value) (T : TypeId) : ∀ (j : Nat) (u : Value), [a, b, c, d][j]? = some u → (w.alloc (Obj.cells #[a, b, c, d] T)).cell? ({ block := w.heap.size, off := 0 : Addr }.add j) = some u := by
  intro j u h
  rw [add_off, World.cell?_alloc_new]
  match j, h with
  | 0, h => exact h
  | 1, h => exact h
  | 2, h => exact h
  | 3, h => exact h
  | (j + 4), h => simp at h
theorem two_cells (w : World) (a b : Value) (T : TypeId) : ∀ (j : Nat) (u : Value), [a, b][j]? = some u → (w.alloc (Obj.cells #[a, b] T)).cell? ({ block := w.heap.size, off := 0 : Addr }.add j) = some u := by
  intro j u h
  rw [add_off, World.cell?_alloc_new]
  match j, h with
  | 0, h => exact h
  | 1, h => exact h
  | (j + 2), h => simp at h
/-- A row of the call's own that holds these bytes. -/
abbrev OwnB (w : World) (B : Nat) (v : Value) (l : List UInt8) : Prop := w.ownsRow B 5 1 v l.length (u8s l)
theorem own_one (w : World) (c : UInt8) : OwnB (w.alloc (Obj.cells #[.int .u8 (c.toNat : Int)] 5)) w.heap.size (.slice (some ⟨w.heap.size, 0, none⟩) 1 1) [c] :=
  ⟨rfl, .inr ⟨w.heap.size, 1, #[.int .u8 (c.toNat : Int)], rfl, Nat.le_refl _, heap_alloc_new w _, Nat.le_refl _, by unfold maxLen; decide, rfl, rfl⟩⟩
theorem ownB_app {w' : World} {B : Nat} {v' : Value} {acc news : List UInt8} (h : w'.ownsRow B 5 1 v' (acc.length + news.length) (u8s acc ++ u8s news)) : OwnB w' B v' (acc ++ news) := by
  show World.ownsRow _ _ _ _ _ _ _
  rw [List.length_append, ← u8s_append]; exact h

/-- A string is handed back, and memory has only grown. -/
def OutS (w : World) (s : ByteArray) (e : Ending) (w' : World) : Prop := e = .returned (.string s) ∧ Below w.heap.size w w'
theorem fm_sl (c : UInt8) (h : c.toNat = 34 ∨ c.toNat = 92) : fm c = [92, c] := by unfold fm; rw [if_pos h]
theorem fm_hex (c : UInt8) (h : ¬ (c.toNat = 34 ∨ c.toNat = 92)) (h2 : c.toNat < 32 ∨ 126 < c.toNat) : fm c = [92, 120, hx (c.toNat / 16), hx (c.toNat % 16)] := by unfold fm; rw [if_neg h, if_pos h2]
theorem fm_id (c : UInt8) (h : ¬ (c.toNat = 34 ∨ c.toNat = 92)) (h2 : ¬ (c.toNat < 32 ∨ 126 < c.toNat)) : fm c = [c] := by unfold fm; rw [if_neg h, if_neg h2]

set_option maxRecDepth 100000 in
set_option maxHeartbeats 2000000 in
theorem rquote_any (s : ByteArray) (w : World) (hs : s.size ≤ 100000) :
    Calls Tryd.prog 68 #[.string s] w (OutS w (bs (quo s.data.toList))) := by
  obtain ⟨i0, hi, hz0, hz1, hz2⟩ := info_parts info_u8
  have O1 := Lib.hid (own_one w 34)
  go_enter Tryd.func68, Tryd.ntmps68
  go_wp2_with fail
  go_loopw [3, 4] (fun v i wr => ∃ (k : Nat) (acc : List UInt8), k ≤ s.size ∧ i = .int .i64 k ∧ acc.length ≤ 1 + 4 * k ∧ quo s.data.toList = acc ++ (qb (s.data.toList.drop k) ++ [34]) ∧ OwnB wr w.heap.size v acc ∧ Below w.heap.size w wr) (fun _ i _ => s.size - (intOf i).toNat)
  case atStart => exact ⟨0, [34], Nat.zero_le _, rfl, by simp, rfl, O1.out, (Below.refl _ _).alloc (Nat.le_refl _) _⟩
  case round =>
    obtain ⟨k, acc, hk, rfl, hla, hac, hown, hb⟩ := hrel
    have B := Lib.hid hb
    have hsz := hb.size
    have HL := Lib.hid (fun k (hk : u3.ownBlock = some k) => (hown.lt k hk).1)
    by_cases hlt : k < s.size
    · have hc := (s[k]).toNat_lt
      rw [at_drop s k hlt, qb_cons, List.append_assoc, ← List.append_assoc] at hac
      have AC := Lib.hid hac
      clear hac hb O1
      by_cases h1 : s[k].toNat = 34 ∨ s[k].toNat = 92
      · have E := Lib.hid (fm_sl _ h1)
        have H1 := Lib.hid h1
        clear h1
        by_cases h34 : s[k].toNat = 34
        · have t1 : ((s[k].toNat : Int) == 34) = true := by simp; omega
          clear h34
          go_wp2_with (at_builtin; refine wpList_append_own _ rfl (.tmp 22) (.tmp 24) 65 rfl w.heap.size 5 i0 (.int .u8 0) 1 1 Tryd.underlying65 hi hz0 hz1 hz2 rfl (by decide) _ _ _ rfl (hown.alloc _) ⟨wr.heap.size, 0, none⟩ 2 2 [.int .u8 92, .int .u8 (s[k].toNat : Int)] rfl rfl (two_cells _ _ _ _) ?c2 ?c3 ?c4 ?c5 ?_)
          case c2 => intro u hu; simp at hu; rcases hu with rfl | rfl <;> rfl
          case c3 => unfold maxLen; omega
          case c4 => omega
          case c5 => simp; omega
          intro v' w3 hown' hgrow _
          have R3 := Lib.hid (ownB_app (acc := acc) (news := [92, s[k]]) hown')
          have B3 := Lib.hid ((B.out.alloc (by omega) _).grown hgrow (by simp; omega) HL.out)
          clear hown' hgrow hown
          go_wp2_with fail
          go_roundw
          case rel => exact ⟨k + 1, acc ++ [92, s[k]], by omega, by go_num, by simp; omega, by rw [AC.out, E.out], R3.out, B3.out⟩
          case measure => simp [intOf]; omega
        · have t1 : ((s[k].toNat : Int) == 34) = false := by simp; omega
          have t2 : ((s[k].toNat : Int) == 92) = true := by have := H1.out; simp; omega
          clear h34
          go_wp2_with (at_builtin; refine wpList_append_own _ rfl (.tmp 22) (.tmp 24) 65 rfl w.heap.size 5 i0 (.int .u8 0) 1 1 Tryd.underlying65 hi hz0 hz1 hz2 rfl (by decide) _ _ _ rfl (hown.alloc _) ⟨wr.heap.size, 0, none⟩ 2 2 [.int .u8 92, .int .u8 (s[k].toNat : Int)] rfl rfl (two_cells _ _ _ _) ?c2 ?c3 ?c4 ?c5 ?_)
          case c2 => intro u hu; simp at hu; rcases hu with rfl | rfl <;> rfl
          case c3 => unfold maxLen; omega
          case c4 => omega
          case c5 => simp; omega
          intro v' w3 hown' hgrow _
          have R3 := Lib.hid (ownB_app (acc := acc) (news := [92, s[k]]) hown')
          have B3 := Lib.hid ((B.out.alloc (by omega) _).grown hgrow (by simp; omega) HL.out)
          clear hown' hgrow hown
          go_wp2_with fail
          go_roundw
          case rel => exact ⟨k + 1, acc ++ [92, s[k]], by omega, by go_num, by simp; omega, by rw [AC.out, E.out], R3.out, B3.out⟩
          case measure => simp [intOf]; omega
      · have t1 : ((s[k].toNat : Int) == 34) = false := by simp; omega
        have t2 : ((s[k].toNat : Int) == 92) = false := by simp; omega
        by_cases h2 : s[k].toNat < 32 ∨ 126 < s[k].toNat
        · have E := Lib.hid (fm_hex _ h1 h2)
          have D1 := Lib.hid (digit_any ((s[k].toNat : Int) / 16) (s[k].toNat / 16) _ (by omega) (by omega) rfl)
          have D2 := Lib.hid (digit_any (s[k].toNat : Int) s[k].toNat _ rfl (by omega) rfl)
          rw [show s[k].toNat / 16 % 16 = s[k].toNat / 16 by omega] at D1
          generalize hx (s[k].toNat / 16) = x1 at *
          generalize hx (s[k].toNat % 16) = x2 at *
          by_cases h3 : s[k].toNat < 32
          · clear h1 h2
            go_wp2_with fail
            refine (D1.out _).mono ?_
            rintro e w' ⟨rfl, rfl⟩
            go_wp2_with fail
            refine (D2.out _).mono ?_
            rintro e w' ⟨rfl, rfl⟩
            go_wp2_with (at_builtin; refine wpList_append_own _ rfl (.tmp 32) (.tmp 38) 65 rfl w.heap.size 5 i0 (.int .u8 0) 1 1 Tryd.underlying65 hi hz0 hz1 hz2 rfl (by decide) _ _ _ rfl (hown.alloc _) ⟨wr.heap.size, 0, none⟩ 4 4 [.int .u8 92, .int .u8 120, .int .u8 (x1.toNat : Int), .int .u8 (x2.toNat : Int)] rfl rfl (four_cells _ _ _ _ _ _) ?c2 ?c3 ?c4 ?c5 ?_)
            case c2 => intro u hu; simp at hu; rcases hu with rfl | rfl | rfl | rfl <;> rfl
            case c3 => unfold maxLen; omega
            case c4 => omega
            case c5 => simp; omega
            intro v' w3 hown' hgrow _
            have R3 := Lib.hid (ownB_app (acc := acc) (news := [92, 120, x1, x2]) hown')
            have B3 := Lib.hid ((B.out.alloc (by omega) _).grown hgrow (by simp; omega) HL.out)
            clear hown' hgrow hown
            go_wp2_with fail
            go_roundw
            case rel => exact ⟨k + 1, acc ++ [92, 120, x1, x2], by omega, by go_num, by simp; omega, by rw [AC.out, E.out], R3.out, B3.out⟩
            case measure => simp [intOf]; omega
          · have h4 : 126 < s[k].toNat := by omega
            clear h1 h2
            go_wp2_with fail
            refine (D1.out _).mono ?_
            rintro e w' ⟨rfl, rfl⟩
            go_wp2_with fail
            refine (D2.out _).mono ?_
            rintro e w' ⟨rfl, rfl⟩
            go_wp2_with (at_builtin; refine wpList_append_own _ rfl (.tmp 32) (.tmp 38) 65 rfl w.heap.size 5 i0 (.int .u8 0) 1 1 Tryd.underlying65 hi hz0 hz1 hz2 rfl (by decide) _ _ _ rfl (hown.alloc _) ⟨wr.heap.size, 0, none⟩ 4 4 [.int .u8 92, .int .u8 120, .int .u8 (x1.toNat : Int), .int .u8 (x2.toNat : Int)] rfl rfl (four_cells _ _ _ _ _ _) ?c2 ?c3 ?c4 ?c5 ?_)
            case c2 => intro u hu; simp at hu; rcases hu with rfl | rfl | rfl | rfl <;> rfl
            case c3 => unfold maxLen; omega
            case c4 => omega
            case c5 => simp; omega
            intro v' w3 hown' hgrow _
            have R3 := Lib.hid (ownB_app (acc := acc) (news := [92, 120, x1, x2]) hown')
            have B3 := Lib.hid ((B.out.alloc (by omega) _).grown hgrow (by simp; omega) HL.out)
            clear hown' hgrow hown
            go_wp2_with fail
            go_roundw
            case rel => exact ⟨k + 1, acc ++ [92, 120, x1, x2], by omega, by go_num, by simp; omega, by rw [AC.out, E.out], R3.out, B3.out⟩
            case measure => simp [intOf]; omega
        · have E := Lib.hid (fm_id _ h1 h2)
          have h3 : ¬ s[k].toNat < 32 := by omega
          have h4 : ¬ 126 < s[k].toNat := by omega
          clear h1 h2
          go_wp2_with (at_builtin; refine wpList_append_own _ rfl (.tmp 40) (.tmp 42) 65 rfl w.heap.size 5 i0 (.int .u8 0) 1 1 Tryd.underlying65 hi hz0 hz1 hz2 rfl (by decide) _ _ _ rfl (hown.alloc _) ⟨wr.heap.size, 0, none⟩ 1 1 [.int .u8 (s[k].toNat : Int)] rfl rfl (one_cell _ _ _) ?c2 ?c3 ?c4 ?c5 ?_)
          case c2 => intro u hu; simp at hu; subst hu; rfl
          case c3 => unfold maxLen; omega
          case c4 => omega
          case c5 => simp; omega
          intro v' w3 hown' hgrow _
          have R3 := Lib.hid (ownB_app (acc := acc) (news := [s[k]]) hown')
          have B3 := Lib.hid ((B.out.alloc (by omega) _).grown hgrow (by simp; omega) HL.out)
          clear hown' hgrow hown
          go_wp2_with fail
          go_roundw
          case rel => exact ⟨k + 1, acc ++ [s[k]], by omega, by go_num, by simp; omega, by rw [AC.out, E.out], R3.out, B3.out⟩
          case measure => simp [intOf]; omega
    · have Q := Lib.hid (show quo s.data.toList = acc ++ [34] by rw [hac, at_end s k (by omega)]; rfl)
      clear hac hb O1
      go_wp2_with (at_builtin; refine wpList_append_own _ rfl (.tmp 44) (.tmp 45) 65 rfl w.heap.size 5 i0 (.int .u8 0) 1 1 Tryd.underlying65 hi hz0 hz1 hz2 rfl (by decide) _ _ _ rfl (hown.alloc _) ⟨wr.heap.size, 0, none⟩ 1 1 [.int .u8 34] rfl rfl (one_cell _ _ _) ?c2 ?c3 ?c4 ?c5 ?_)
      case c2 => intro u hu; simp at hu; subst hu; rfl
      case c3 => unfold maxLen; omega
      case c4 => omega
      case c5 => simp; omega
      intro v' w3 hown' hgrow _
      have hcv := conv_own (ownB_app (news := [34]) hown')
      have B3 := Lib.hid ((B.out.alloc (by omega) _).grown hgrow (by simp; omega) HL.out)
      clear hown' hgrow hown
      go_wp2_with fail
      go_ret
      exact ⟨ret_str (by rw [Q.out]), B3.out⟩
end Go.Proofs.YtagkmfhicpcjnaaDoor.Names
/- Contracts of appendHexEscapes and Quote of names. -/
set_option linter.unusedVariables false
set_option maxRecDepth 100000
namespace Go.Proofs.YtagkmfhicpcjnaaDoor.Names
open Go.RowKit

/-- The escape of a byte by two digits. -/
def hx2 (c : UInt8) : List UInt8 := [92, 120, hx (c.toNat / 16), hx (c.toNat % 16)]
def hxs (l : List UInt8) : List UInt8 := l.flatMap hx2
theorem hxs_cons (c : UInt8) (l : List UInt8) : hxs (c :: l) = hx2 c ++ hxs l := rfl
theorem hxs_length (l : List UInt8) : (hxs l).length = 4 * l.length := by
  induction l with
  | nil => rfl
  | cons c l ih => rw [hxs_cons, List.length_append, ih, List.length_cons]; show 4 + _ = _; omega
theorem hxs_qb (l : List UInt8) (h : ∀ c ∈ l, 128 ≤ c.toNat) : hxs l = qb l := by
  induction l with
  | nil => rfl
  | cons c l ih =>
    have hc := h c List.mem_cons_self
    rw [hxs_cons, qb_cons, ih (fun d hd => h d (List.mem_cons_of_mem _ hd)), fm_hex c (by omega) (by omega)]; rfl
theorem u8_and15 (c : Nat) (h : c < 256) : bits .and .u8 (c : Int) 15 = ((c % 16 : Nat) : Int) := by
  have e := u8_and_nat c 15 h (by omega)
  have e2 := Nat.and_two_pow_sub_one_eq_mod c 4
  simp only [show 2 ^ 4 - 1 = 15 from rfl, show 2 ^ 4 = 16 from rfl] at e2
  rw [e2] at e; exact e

/-- Each iterator of a string stands as it stood. -/
def Iters (w w' : World) : Prop := ∀ (k : Nat) (s : ByteArray) (p : Nat), w.heap[k]? = some (Obj.stringIter s p) → w'.heap[k]? = some (Obj.stringIter s p)
theorem Iters.refl (w : World) : Iters w w := fun _ _ _ h => h
theorem Iters.trans {a b c : World} (h1 : Iters a b) (h2 : Iters b c) : Iters a c := fun k s p h => h2 k s p (h1 k s p h)
theorem Iters.of_below {w w' : World} (h : Below w.heap.size w w') : Iters w w' := fun k s p hk => by
  rw [h.block k (Array.getElem?_eq_some_iff.1 hk).1]; exact hk
theorem iters_app {w w3 : World} {B n : Nat} {v : Value} {e : TypeId} {xs : List Value} {o : Obj} (ho : w.ownsRow B e 1 v n xs) (hg : (w.alloc o).grownBy w3 v.ownBlock) : Iters w w3 := fun k s p hk => by
  have hlt := (Array.getElem?_eq_some_iff.1 hk).1
  rw [hg.block k (by simp; omega) (fun e1 => ?_), Below.heap_alloc _ _ _ hlt]
  · exact hk
  · rcases ho.2 with ⟨rfl, _⟩ | ⟨g, cap, cur, rfl, _, hh, _⟩
    · cases e1
    · have : k = g := Option.some.inj e1
      rw [this, hh] at hk
      cases hk
theorem iters_app_drew {w w3 : World} {B n : Nat} {v : Value} {e : TypeId} {xs : List Value} {o : Obj} (ho : w.ownsRow B e 1 v n xs) (hg : (w.alloc o).drew.grownBy w3 v.ownBlock) : Iters w w3 :=
  iters_app ho (show (w.alloc o).grownBy w3 v.ownBlock from ⟨hg.os, hg.tape, hg.output, hg.size, hg.block⟩)

/-- A row of the call's own, in the memory above B, is handed back; iterators stand. -/
def OutRow (B : Nat) (w : World) (l : List UInt8) (e : Ending) (w' : World) : Prop :=
  ∃ v, e = .returned v ∧ OwnB w' B v l ∧ Below B w w' ∧ Iters w w' ∧ w.heap.size ≤ w'.heap.size

set_option maxRecDepth 100000 in
set_option maxHeartbeats 2000000 in
theorem hex_rows (B : Nat) (v : Value) (xs : List UInt8) (s : ByteArray) (w : World) (hown : OwnB w B v xs) (hB : B ≤ w.heap.size) (hx1 : xs.length ≤ 1000000) (hs : s.size ≤ 100000) :
    Calls Tryd.prog 91 #[v, .string s] w (OutRow B w (xs ++ hxs s.data.toList)) := by
  obtain ⟨i0, hi, hz0, hz1, hz2⟩ := info_parts info_u8
  have HO := Lib.hid hown
  clear hown
  go_enter Tryd.func91, Tryd.ntmps91
  go_wp2_with fail
  go_loopw [0, 10] (fun v i wr => ∃ (k : Nat) (acc : List UInt8), i = .int .i64 k ∧ k ≤ s.size ∧ acc.length ≤ xs.length + 4 * k ∧ xs ++ hxs s.data.toList = acc ++ hxs (s.data.toList.drop k) ∧ OwnB wr B v acc ∧ Below B w wr ∧ Iters w wr ∧ w.heap.size ≤ wr.heap.size) (fun _ i _ => s.size - (intOf i).toNat)
  case atStart => exact ⟨0, xs, rfl, Nat.zero_le _, by omega, rfl, HO.out, Below.refl _ _, Iters.refl _, Nat.le_refl _⟩
  case round =>
    obtain ⟨k, acc, rfl, hk, hla, hac, hown, hb, hit, hsz⟩ := hrel
    have O := Lib.hid hown
    have BB := Lib.hid hb
    have IT := Lib.hid hit
    by_cases hlt : k < s.size
    · have hc := (s[k]).toNat_lt
      rw [at_drop s k hlt, hxs_cons, ← List.append_assoc] at hac
      have AC := Lib.hid hac
      have HL := Lib.hid (fun k (hk : u0.ownBlock = some k) => (hown.lt k hk).1)
      obtain ⟨a, ha⟩ : ∃ a, s[k].toNat / 16 = a := ⟨_, rfl⟩
      obtain ⟨b, hbq⟩ : ∃ b, s[k].toNat % 16 = b := ⟨_, rfl⟩
      have ha16 : a < 16 := by omega
      have hb16 : b < 16 := by omega
      have E := Lib.hid (show hx2 s[k] = [92, 120, hx a, hx b] by unfold hx2; rw [ha, hbq])
      have q1 : ((s[k].toNat : Int) / 16) = (a : Int) := by omega
      have q2 : bits .and .u8 (s[k].toNat : Int) 15 = (b : Int) := by rw [u8_and15 _ (by omega), hbq]
      have D1 : ∀ h, ({ data := #[48, 49, 50, 51, 52, 53, 54, 55, 56, 57, 97, 98, 99, 100, 101, 102] } : ByteArray)[a]'h = hx a := fun h => dig_at ⟨a, h⟩
      have D2 : ∀ h, ({ data := #[48, 49, 50, 51, 52, 53, 54, 55, 56, 57, 97, 98, 99, 100, 101, 102] } : ByteArray)[b]'h = hx b := fun h => dig_at ⟨b, h⟩
      have i1 : (k : Int) < (s.size : Int) := by omega
      have i2 : (0 : Int) ≤ (k : Int) := by omega
      generalize hx a = x1 at *
      generalize hx b = x2 at *
      clear hac hown hb hit ha hbq
      go_wp2_with fail
      go_quiet (fail)
      have O2 := Lib.hid (show OwnB (wr.drewN nq) B u0 acc from O.out)
      have B2 := Lib.hid (show Below B w (wr.drewN nq) from BB.out.trans ((below_drewN wr nq).mono (by omega)))
      have I2 := Lib.hid (show Iters w (wr.drewN nq) from IT.out.trans (Iters.of_below (below_drewN wr nq)))
      have hzw : w.heap.size ≤ (wr.drewN nq).heap.size := hsz
      generalize wr.drewN nq = W2 at *
      have hBW : B ≤ W2.heap.size := by omega
      go_wp2_with fail
      have d1 : (0 : Int) ≤ (a : Int) := by omega
      have d2 : (a : Int) < 16 := by omega
      have d3 : (0 : Int) ≤ (b : Int) := by omega
      have d4 : (b : Int) < 16 := by omega
      go_region_held3 (fun _ => True) (trivial) ((refine step_append_lies _ (by rfl) (.tmp 21) (.tmp 26) 65 (by rfl) B 5 i0 (.int .u8 0) 1 1 Tryd.underlying65 hi hz0 hz1 hz2 rfl (by omega) u0 acc.length (u8s acc) (by rfl) ((O2.out.alloc _).drew) ⟨W2.heap.size, 0, none⟩ 4 4 [.int .u8 92, .int .u8 120, .int .u8 (x1.toNat : Int), .int .u8 (x2.toNat : Int)] (by rfl) (by rfl) (World.news_of_block (cs := #[.int .u8 92, .int .u8 120, .int .u8 (x1.toNat : Int), .int .u8 (x2.toNat : Int)]) (t := 5) (fr := (0, 0)) (heap_alloc_new W2 _)) (by simp [Value.oneCell']) (by omega) (by unfold maxLen; omega) (by omega) (by simp; omega) (W2.heap.size + 1) (by simp) ?_; intro gg cap w3 hown' hgrow hat hlt3))
      all_goals
        have R3 := Lib.hid (show OwnB w3 B (.slice (some ⟨gg, 0, none⟩) (acc.length + 4) cap) (acc ++ [92, 120, x1, x2]) from ownB_app (news := [92, 120, x1, x2]) hown')
        have B3 := Lib.hid (((B2.out.alloc hBW _).drew).grown hgrow (by simp; omega) HL.out)
        have I3 := Lib.hid (I2.out.trans (iters_app_drew O2.out hgrow))
        have hz3 : w.heap.size ≤ w3.heap.size := by have := hgrow.size; simp at this; omega
        clear hown' hgrow hat hlt3
        go_wp2_with fail
        go_roundw
        case rel => exact ⟨k + 1, acc ++ [92, 120, x1, x2], by go_num, hlt, by simp; omega, by rw [AC.out, E.out], R3.out, B3.out, I3.out, hz3⟩
        case measure => simp [intOf]; omega
    · have AC := Lib.hid (show xs ++ hxs s.data.toList = acc by rw [hac, at_end s k (by omega)]; show acc ++ [] = acc; rw [List.append_nil])
      clear hac hown hb hit
      go_wp2_with fail
      go_ret
      exact ⟨_, rfl, by rw [AC.out]; exact O.out, BB.out, IT.out, hsz⟩
end Go.Proofs.YtagkmfhicpcjnaaDoor.Names
