/- Plain mathematics of the two checks, the hash and the keyed checksum; no program in sight. -/
import Derived.WalkKit
import Derived.Laws.BitsAllLaws
import Derived.Laws.BytesArg
import Derived.Lib.Strings
set_option linter.unusedVariables false
namespace Go.Proofs.Yticlcjabhemdiaa.Digest
open Go.RowKit

/-- A function, that many times. -/
def it {α : Type} (f : α → α) : Nat → α → α
  | 0, x => x
  | n + 1, x => it f n (f x)
theorem it_zero {α : Type} (f : α → α) (x : α) : it f 0 x = x := rfl
theorem it_succ {α : Type} (f : α → α) (n : Nat) (x : α) : it f (n + 1) x = it f n (f x) := rfl
theorem it_inj {α : Type} {f : α → α} (h : ∀ a b, f a = f b → a = b) (n : Nat) : ∀ a b, it f n a = it f n b → a = b := by
  induction n with
  | zero => exact fun a b e => e
  | succ n ih => exact fun a b e => h a b (ih _ _ e)
theorem it_add {α : Type} (f : α → α) (n m : Nat) : ∀ x, it f (n + m) x = it f m (it f n x) := by
  induction n with
  | zero => intro x; rw [Nat.zero_add]; rfl
  | succ n ih => intro x; rw [Nat.succ_add]; exact ih (f x)

/-- One bit of the first check. -/
def s16 (x : BitVec 16) : BitVec 16 := (x <<< 1) ^^^ (if x.msb then 4129#16 else 0#16)
/-- One bit of the second check. -/
def s32 (x : BitVec 32) : BitVec 32 := (x >>> 1) ^^^ (if x.getLsbD 0 then 3988292384#32 else 0#32)
/-- Where a byte enters the first register. -/
def e16 (c : UInt8) : BitVec 16 := (c.toBitVec.setWidth 16) <<< 8
/-- Where a byte enters the second register. -/
def e32 (c : UInt8) : BitVec 32 := c.toBitVec.setWidth 32
def b16 (x : BitVec 16) (c : UInt8) : BitVec 16 := it s16 8 (x ^^^ e16 c)
def b32 (x : BitVec 32) (c : UInt8) : BitVec 32 := it s32 8 (x ^^^ e32 c)
/-- The registers after these bytes. -/
def f16 (x : BitVec 16) (l : List UInt8) : BitVec 16 := l.foldl b16 x
def f32 (x : BitVec 32) (l : List UInt8) : BitVec 32 := l.foldl b32 x
theorem f16_nil (x : BitVec 16) : f16 x [] = x := rfl
theorem f32_nil (x : BitVec 32) : f32 x [] = x := rfl
theorem f16_cons (x : BitVec 16) (c : UInt8) (l : List UInt8) : f16 x (c :: l) = f16 (b16 x c) l := rfl
theorem f32_cons (x : BitVec 32) (c : UInt8) (l : List UInt8) : f32 x (c :: l) = f32 (b32 x c) l := rfl
theorem f16_append (x : BitVec 16) (l m : List UInt8) : f16 x (l ++ m) = f16 (f16 x l) m := List.foldl_append
theorem f32_append (x : BitVec 32) (l m : List UInt8) : f32 x (l ++ m) = f32 (f32 x l) m := List.foldl_append
/-- The first check. -/
def c16 (l : List UInt8) : Nat := (f16 65535#16 l).toNat
/-- The second check. -/
def c32 (l : List UInt8) : Nat := (~~~ f32 4294967295#32 l).toNat
theorem c16_lt (l : List UInt8) : c16 l < 65536 := (f16 65535#16 l).isLt
theorem c32_lt (l : List UInt8) : c32 l < 4294967296 := (~~~ f32 4294967295#32 l).isLt

theorem s16_xor (a b : BitVec 16) : s16 (a ^^^ b) = s16 a ^^^ s16 b := by
  unfold s16
  rw [BitVec.shiftLeft_xor_distrib, BitVec.msb_xor]
  cases a.msb <;> cases b.msb <;> simp [BitVec.xor_assoc]
  · exact BitVec.xor_comm _ _
  · rw [← BitVec.xor_assoc 4129#16, BitVec.xor_comm 4129#16 (b <<< 1), BitVec.xor_assoc (b <<< 1)]; simp
theorem s32_xor (a b : BitVec 32) : s32 (a ^^^ b) = s32 a ^^^ s32 b := by
  unfold s32
  rw [BitVec.ushiftRight_xor_distrib, BitVec.getLsbD_xor]
  cases a.getLsbD 0 <;> cases b.getLsbD 0 <;> simp [BitVec.xor_assoc]
  · exact BitVec.xor_comm _ _
  · rw [← BitVec.xor_assoc 3988292384#32, BitVec.xor_comm 3988292384#32 (b >>> 1), BitVec.xor_assoc (b >>> 1)]; simp

theorem msb16 (x : BitVec 16) : x.msb = decide (32768 ≤ x.toNat) := by rw [BitVec.msb_eq_decide]
theorem lsb32 (x : BitVec 32) : x.getLsbD 0 = decide (x.toNat % 2 = 1) := by
  rw [BitVec.getLsbD]; simp [Nat.testBit]; rfl
theorem s16_lo (x : BitVec 16) (h : x.toNat < 32768) : s16 x = x <<< 1 := by
  unfold s16; rw [msb16, decide_eq_false (by omega)]; simp
theorem s16_hi (x : BitVec 16) (h : 32768 ≤ x.toNat) : s16 x = x <<< 1 ^^^ 4129#16 := by
  unfold s16; rw [msb16, decide_eq_true h]; rfl
theorem s32_even (x : BitVec 32) (h : x.toNat % 2 = 0) : s32 x = x >>> 1 := by
  unfold s32; rw [lsb32, decide_eq_false (by omega)]; simp
theorem s32_odd (x : BitVec 32) (h : x.toNat % 2 = 1) : s32 x = x >>> 1 ^^^ 3988292384#32 := by
  unfold s32; rw [lsb32, decide_eq_true h]; rfl
theorem shl1 (x : BitVec 16) : (x <<< 1).toNat = x.toNat * 2 % 65536 := by
  rw [BitVec.toNat_shiftLeft, Nat.shiftLeft_eq]
theorem shr1 (x : BitVec 32) : (x >>> 1).toNat = x.toNat / 2 := by
  rw [BitVec.toNat_ushiftRight, Nat.shiftRight_eq_div_pow]

theorem s16_zero (x : BitVec 16) (h : s16 x = 0#16) : x = 0#16 := by
  by_cases hx : x.toNat < 32768
  · rw [s16_lo x hx] at h
    have h1 := congrArg BitVec.toNat h
    rw [shl1] at h1
    apply BitVec.eq_of_toNat_eq
    have : (0#16).toNat = 0 := rfl
    omega
  · rw [s16_hi x (by omega)] at h
    exfalso
    have h1 : (x <<< 1) = 4129#16 := by
      have := congrArg (· ^^^ 4129#16) h
      simpa [BitVec.xor_assoc] using this
    have h2 := congrArg BitVec.toNat h1
    rw [shl1] at h2
    have : (4129#16).toNat = 4129 := rfl
    omega
theorem s32_zero (x : BitVec 32) (h : s32 x = 0#32) : x = 0#32 := by
  by_cases hx : x.toNat % 2 = 0
  · rw [s32_even x hx] at h
    have h1 := congrArg BitVec.toNat h
    rw [shr1] at h1
    apply BitVec.eq_of_toNat_eq
    have : (0#32).toNat = 0 := rfl
    omega
  · rw [s32_odd x (by omega)] at h
    exfalso
    have h1 : (x >>> 1) = 3988292384#32 := by
      have := congrArg (· ^^^ 3988292384#32) h
      simpa [BitVec.xor_assoc] using this
    have h2 := congrArg BitVec.toNat h1
    rw [shr1] at h2
    have : (3988292384#32).toNat = 3988292384 := rfl
    have := x.isLt
    omega
theorem xor_zero16 {a b : BitVec 16} (h : a ^^^ b = 0#16) : a = b := by
  have := congrArg (· ^^^ b) h
  simpa [BitVec.xor_assoc] using this
theorem xor_zero32 {a b : BitVec 32} (h : a ^^^ b = 0#32) : a = b := by
  have := congrArg (· ^^^ b) h
  simpa [BitVec.xor_assoc] using this
theorem s16_inj (a b : BitVec 16) (h : s16 a = s16 b) : a = b :=
  xor_zero16 (s16_zero _ (by rw [s16_xor, h]; simp))
theorem s32_inj (a b : BitVec 32) (h : s32 a = s32 b) : a = b :=
  xor_zero32 (s32_zero _ (by rw [s32_xor, h]; simp))
theorem it16_xor (n : Nat) : ∀ a b : BitVec 16, it s16 n (a ^^^ b) = it s16 n a ^^^ it s16 n b := by
  induction n with
  | zero => exact fun a b => rfl
  | succ n ih => intro a b; rw [it_succ, it_succ, it_succ, s16_xor, ih]
theorem it32_xor (n : Nat) : ∀ a b : BitVec 32, it s32 n (a ^^^ b) = it s32 n a ^^^ it s32 n b := by
  induction n with
  | zero => exact fun a b => rfl
  | succ n ih => intro a b; rw [it_succ, it_succ, it_succ, s32_xor, ih]
theorem f16_inj (l : List UInt8) : ∀ a b, f16 a l = f16 b l → a = b := by
  induction l with
  | nil => exact fun a b h => h
  | cons c l ih =>
    intro a b h
    have := it_inj s16_inj 8 _ _ (ih _ _ h)
    have h2 := congrArg (· ^^^ e16 c) this
    simpa [BitVec.xor_assoc] using h2
theorem f32_inj (l : List UInt8) : ∀ a b, f32 a l = f32 b l → a = b := by
  induction l with
  | nil => exact fun a b h => h
  | cons c l ih =>
    intro a b h
    have := it_inj s32_inj 8 _ _ (ih _ _ h)
    have h2 := congrArg (· ^^^ e32 c) this
    simpa [BitVec.xor_assoc] using h2

/-- A byte that enters early: at the register's lower end. -/
theorem early16 (c : UInt8) : it s16 8 (c.toBitVec.setWidth 16) = e16 c := by
  have hc := c.toNat_lt
  have key : ∀ n k, n + k = 8 → it s16 n ((c.toBitVec.setWidth 16) <<< k) = e16 c := by
    intro n
    induction n with
    | zero => intro k hk; rw [show k = 8 by omega]; rfl
    | succ n ih =>
      intro k hk
      rw [it_succ, s16_lo, ← BitVec.shiftLeft_add]
      · exact ih (k + 1) (by omega)
      · rw [BitVec.toNat_shiftLeft, BitVec.toNat_setWidth, Nat.shiftLeft_eq]
        have h1 : 2 ^ k ≤ 2 ^ 7 := Nat.pow_le_pow_right (by omega) (by omega)
        have h2 : c.toBitVec.toNat * 2 ^ k ≤ 255 * 2 ^ 7 := Nat.mul_le_mul (by have : c.toBitVec.toNat = c.toNat := rfl; omega) h1
        have h3 : c.toBitVec.toNat % 2 ^ 16 = c.toBitVec.toNat := Nat.mod_eq_of_lt (by have : c.toBitVec.toNat = c.toNat := rfl; omega)
        rw [h3]; omega
  have := key 8 0 (by omega)
  simpa using this
/-- A register whose upper byte is clear, eight places up, and eight rounds: the register. -/
theorem early32 (x : BitVec 32) (h : x.toNat < 16777216) : it s32 8 (x <<< 8) = x := by
  have key : ∀ k, k ≤ 8 → it s32 k (x <<< k) = x := by
    intro k
    induction k with
    | zero => intro _; simp [it]
    | succ k ih =>
      intro hk
      have hp : 2 ^ (k + 1) ≤ 2 ^ 8 := Nat.pow_le_pow_right (by omega) (by omega)
      have hm : x.toNat * 2 ^ (k + 1) ≤ 16777215 * 2 ^ 8 := Nat.mul_le_mul (by omega) hp
      have hs : (x <<< (k + 1)).toNat = x.toNat * 2 ^ (k + 1) := by
        rw [BitVec.toNat_shiftLeft, Nat.shiftLeft_eq]; omega
      have hd : x.toNat * 2 ^ (k + 1) = 2 * (x.toNat * 2 ^ k) := by rw [Nat.pow_succ, Nat.mul_comm (2 ^ k) 2]; exact Nat.mul_left_comm ..
      rw [it_succ, s32_even _ (by rw [hs]; omega)]
      have e : (x <<< (k + 1)) >>> 1 = x <<< k := by
        apply BitVec.eq_of_toNat_eq
        rw [shr1, hs, BitVec.toNat_shiftLeft, Nat.shiftLeft_eq]; omega
      rw [e]; exact ih (by omega)
  exact key 8 (by omega)

/-- Two bytes in one register. -/
theorem two16 (x : BitVec 16) (c d : UInt8) : f16 x [c, d] = it s16 16 (x ^^^ (e16 c ^^^ d.toBitVec.setWidth 16)) := by
  show b16 (b16 x c) d = _
  refine Eq.trans ?_ (it_add s16 8 8 _).symm
  unfold b16
  rw [← early16 d, ← it16_xor, BitVec.xor_assoc]
theorem two16_inj (x : BitVec 16) (c d c' d' : UInt8) (h : f16 x [c, d] = f16 x [c', d']) : c = c' ∧ d = d' := by
  rw [two16, two16] at h
  have h1 := it_inj s16_inj 16 _ _ h
  have h2 : e16 c ^^^ d.toBitVec.setWidth 16 = e16 c' ^^^ d'.toBitVec.setWidth 16 := by
    have := congrArg (x ^^^ ·) h1
    simpa [← BitVec.xor_assoc] using this
  have key : ∀ (a b : UInt8), (e16 a ^^^ b.toBitVec.setWidth 16).toNat = a.toNat * 256 + b.toNat := by
    intro a b
    have ha := a.toNat_lt
    have hb := b.toNat_lt
    have ea : a.toBitVec.toNat = a.toNat := rfl
    have eb : b.toBitVec.toNat = b.toNat := rfl
    unfold e16
    rw [BitVec.toNat_xor, BitVec.toNat_shiftLeft, BitVec.toNat_setWidth, BitVec.toNat_setWidth, ea, eb]
    rw [Nat.mod_eq_of_lt (show a.toNat < 2 ^ 16 by omega), Nat.mod_eq_of_lt (show b.toNat < 2 ^ 16 by omega)]
    rw [Nat.mod_eq_of_lt (show a.toNat <<< 8 < 2 ^ 16 by rw [Nat.shiftLeft_eq]; omega)]
    have hor := Nat.shiftLeft_add_eq_or_of_lt (show b.toNat < 2 ^ 8 by omega) a.toNat
    have hxo : a.toNat <<< 8 ^^^ b.toNat = a.toNat <<< 8 ||| b.toNat := by
      apply Nat.eq_of_testBit_eq
      intro i
      rw [Nat.testBit_xor, Nat.testBit_or, Nat.testBit_shiftLeft]
      by_cases hi : 8 ≤ i
      · rw [Nat.testBit_lt_two_pow (x := b.toNat) (Nat.lt_of_lt_of_le (show b.toNat < 2 ^ 8 by omega) (Nat.pow_le_pow_right (by omega) hi))]; simp
      · simp [hi]
    rw [hxo, ← hor, Nat.shiftLeft_eq]
  have h3 := congrArg BitVec.toNat h2
  rw [key, key] at h3
  have := c.toNat_lt
  have := d.toNat_lt
  have := c'.toNat_lt
  have := d'.toNat_lt
  exact ⟨UInt8.toNat_inj.1 (by omega), UInt8.toNat_inj.1 (by omega)⟩

/-- Up to four bytes in one register. -/
def pk : List UInt8 → Nat
  | [] => 0
  | c :: l => c.toNat + 256 * pk l
theorem pk_lt (l : List UInt8) : pk l < 256 ^ l.length := by
  induction l with
  | nil => simp [pk]
  | cons c l ih => have := c.toNat_lt; rw [pk, List.length_cons, Nat.pow_succ]; omega
theorem pk_inj : ∀ (l m : List UInt8), l.length = m.length → pk l = pk m → l = m := by
  intro l
  induction l with
  | nil => intro m h _; cases m with | nil => rfl | cons => simp at h
  | cons c l ih =>
    intro m h hp
    cases m with
    | nil => simp at h
    | cons d m =>
      have := c.toNat_lt
      have := d.toNat_lt
      rw [pk, pk] at hp
      rw [ih m (by simpa using h) (by omega), UInt8.toNat_inj.1 (show c.toNat = d.toNat by omega)]
theorem shr_top (v : Nat) (h : v < 16777216) : (BitVec.ofNat 32 v).toNat = v := by rw [BitVec.toNat_ofNat]; omega
theorem low_join (c : UInt8) (v : Nat) (h : v < 16777216) : e32 c ^^^ (BitVec.ofNat 32 v) <<< 8 = BitVec.ofNat 32 (c.toNat + 256 * v) := by
  apply BitVec.eq_of_toNat_eq
  have hc := c.toNat_lt
  have ec : c.toBitVec.toNat = c.toNat := rfl
  unfold e32
  rw [BitVec.toNat_xor, BitVec.toNat_shiftLeft, BitVec.toNat_setWidth, shr_top v h, ec, BitVec.toNat_ofNat]
  rw [Nat.mod_eq_of_lt (show c.toNat < 2 ^ 32 by omega), Nat.mod_eq_of_lt (show v <<< 8 < 2 ^ 32 by rw [Nat.shiftLeft_eq]; omega), Nat.mod_eq_of_lt (show c.toNat + 256 * v < 2 ^ 32 by omega)]
  have hor := Nat.shiftLeft_add_eq_or_of_lt (show c.toNat < 2 ^ 8 by omega) v
  have hxo : c.toNat ^^^ v <<< 8 = v <<< 8 ||| c.toNat := by
    apply Nat.eq_of_testBit_eq
    intro i
    rw [Nat.testBit_xor, Nat.testBit_or, Nat.testBit_shiftLeft]
    by_cases hi : 8 ≤ i
    · rw [Nat.testBit_lt_two_pow (x := c.toNat) (Nat.lt_of_lt_of_le (show c.toNat < 2 ^ 8 by omega) (Nat.pow_le_pow_right (by omega) hi))]; simp
    · simp [hi]
  rw [hxo, ← hor, Nat.shiftLeft_eq]; omega
theorem four32 (l : List UInt8) : ∀ (x : BitVec 32), l.length ≤ 4 → f32 x l = it s32 (8 * l.length) (x ^^^ BitVec.ofNat 32 (pk l)) := by
  induction l with
  | nil => intro x _; simp [f32, pk, it]
  | cons c l ih =>
    intro x h
    have hl : l.length ≤ 3 := by simpa using h
    have hp : pk l < 16777216 := Nat.lt_of_lt_of_le (pk_lt l) (Nat.le_trans (Nat.pow_le_pow_right (by omega) hl) (by decide))
    rw [f32_cons, ih _ (by omega), List.length_cons, show 8 * (l.length + 1) = 8 + 8 * l.length by omega, it_add]
    congr 1
    unfold b32
    have e := early32 (BitVec.ofNat 32 (pk l)) (by rw [shr_top _ hp]; exact hp)
    rw [pk, ← low_join c _ hp, ← BitVec.xor_assoc, it32_xor 8 (x ^^^ e32 c) (BitVec.ofNat 32 (pk l) <<< 8), e]
theorem four32_inj (x : BitVec 32) (l m : List UInt8) (hl : l.length ≤ 4) (hm : m.length = l.length) (h : f32 x l = f32 x m) : l = m := by
  rw [four32 l x hl, four32 m x (by omega), hm] at h
  have h1 := it_inj s32_inj _ _ _ h
  have h2 : BitVec.ofNat 32 (pk l) = BitVec.ofNat 32 (pk m) := by
    have := congrArg (x ^^^ ·) h1
    simpa [← BitVec.xor_assoc] using this
  have h3 := congrArg BitVec.toNat h2
  have p1 : pk l < 2 ^ 32 := Nat.lt_of_lt_of_le (pk_lt l) (Nat.le_trans (Nat.pow_le_pow_right (by omega) hl) (by decide))
  have p2 : pk m < 2 ^ 32 := Nat.lt_of_lt_of_le (pk_lt m) (Nat.le_trans (Nat.pow_le_pow_right (by omega) (show m.length ≤ 4 by omega)) (by decide))
  rw [BitVec.toNat_ofNat, BitVec.toNat_ofNat, Nat.mod_eq_of_lt p1, Nat.mod_eq_of_lt p2] at h3
  exact pk_inj l m hm.symm h3

/-- Bursts. -/
theorem burst16 (p t : List UInt8) (c d c' d' : UInt8) (h : c16 (p ++ ([c, d] ++ t)) = c16 (p ++ ([c', d'] ++ t))) : c = c' ∧ d = d' := by
  have h1 := BitVec.eq_of_toNat_eq h
  rw [f16_append, f16_append, f16_append, f16_append] at h1
  exact two16_inj _ _ _ _ _ (f16_inj t _ _ h1)
theorem burst32 (p t l m : List UInt8) (hl : l.length ≤ 4) (hm : m.length = l.length) (h : c32 (p ++ (l ++ t)) = c32 (p ++ (m ++ t))) : l = m := by
  have h1 := BitVec.eq_of_toNat_eq h
  have h2 : f32 4294967295#32 (p ++ (l ++ t)) = f32 4294967295#32 (p ++ (m ++ t)) := by
    have := congrArg (~~~ ·) h1
    simpa using this
  rw [f32_append, f32_append, f32_append, f32_append] at h2
  exact four32_inj _ l m hl hm (f32_inj t _ _ h2)

/-- The exclusive or of three strings. -/
def x3 : List UInt8 → List UInt8 → List UInt8 → List UInt8
  | a :: l, b :: m, c :: n => (a ^^^ b ^^^ c) :: x3 l m n
  | _, _, _ => []
theorem x3_cons (a b c : UInt8) (l m n : List UInt8) : x3 (a :: l) (b :: m) (c :: n) = (a ^^^ b ^^^ c) :: x3 l m n := rfl
theorem e16_xor (a b : UInt8) : e16 (a ^^^ b) = e16 a ^^^ e16 b := by
  unfold e16; rw [← BitVec.shiftLeft_xor_distrib, ← BitVec.setWidth_xor]; rfl
theorem e32_xor (a b : UInt8) : e32 (a ^^^ b) = e32 a ^^^ e32 b := by
  unfold e32; rw [← BitVec.setWidth_xor]; rfl
theorem swap16 (x y z a b c : BitVec 16) : x ^^^ y ^^^ z ^^^ (a ^^^ b ^^^ c) = (x ^^^ a) ^^^ (y ^^^ b) ^^^ (z ^^^ c) := by
  apply BitVec.eq_of_getLsbD_eq
  intro i hi
  simp only [BitVec.getLsbD_xor]
  cases x.getLsbD i <;> cases y.getLsbD i <;> cases z.getLsbD i <;> cases a.getLsbD i <;> cases b.getLsbD i <;> cases c.getLsbD i <;> rfl
theorem swap32 (x y z a b c : BitVec 32) : x ^^^ y ^^^ z ^^^ (a ^^^ b ^^^ c) = (x ^^^ a) ^^^ (y ^^^ b) ^^^ (z ^^^ c) := by
  apply BitVec.eq_of_getLsbD_eq
  intro i hi
  simp only [BitVec.getLsbD_xor]
  cases x.getLsbD i <;> cases y.getLsbD i <;> cases z.getLsbD i <;> cases a.getLsbD i <;> cases b.getLsbD i <;> cases c.getLsbD i <;> rfl
theorem lin16 (l : List UInt8) : ∀ (m n : List UInt8) (x y z : BitVec 16), m.length = l.length → n.length = l.length →
    f16 (x ^^^ y ^^^ z) (x3 l m n) = f16 x l ^^^ f16 y m ^^^ f16 z n := by
  induction l with
  | nil =>
    intro m n x y z hm hn
    rw [List.eq_nil_of_length_eq_zero hm, List.eq_nil_of_length_eq_zero hn]; rfl
  | cons a l ih =>
    intro m n x y z hm hn
    cases m with
    | nil => simp at hm
    | cons b m =>
      cases n with
      | nil => simp at hn
      | cons c n =>
        rw [x3_cons, f16_cons, f16_cons, f16_cons, f16_cons, ← ih m n _ _ _ (by simpa using hm) (by simpa using hn)]
        congr 1
        unfold b16
        rw [e16_xor, e16_xor, swap16, it16_xor, it16_xor]
theorem lin32 (l : List UInt8) : ∀ (m n : List UInt8) (x y z : BitVec 32), m.length = l.length → n.length = l.length →
    f32 (x ^^^ y ^^^ z) (x3 l m n) = f32 x l ^^^ f32 y m ^^^ f32 z n := by
  induction l with
  | nil =>
    intro m n x y z hm hn
    rw [List.eq_nil_of_length_eq_zero hm, List.eq_nil_of_length_eq_zero hn]; rfl
  | cons a l ih =>
    intro m n x y z hm hn
    cases m with
    | nil => simp at hm
    | cons b m =>
      cases n with
      | nil => simp at hn
      | cons c n =>
        rw [x3_cons, f32_cons, f32_cons, f32_cons, f32_cons, ← ih m n _ _ _ (by simpa using hm) (by simpa using hn)]
        congr 1
        unfold b32
        rw [e32_xor, e32_xor, swap32, it32_xor, it32_xor]
theorem lin_c16 (l m n : List UInt8) (hm : m.length = l.length) (hn : n.length = l.length) : c16 (x3 l m n) = c16 l ^^^ c16 m ^^^ c16 n := by
  unfold c16
  rw [← BitVec.toNat_xor, ← BitVec.toNat_xor, ← lin16 l m n _ _ _ hm hn]; rfl
theorem not_three (x y z : BitVec 32) : ~~~ (x ^^^ y ^^^ z) = ~~~ x ^^^ ~~~ y ^^^ ~~~ z := by
  apply BitVec.eq_of_getLsbD_eq
  intro i hi
  simp only [BitVec.getLsbD_xor, BitVec.getLsbD_not]
  simp only [hi, decide_true, Bool.true_and]
  cases x.getLsbD i <;> cases y.getLsbD i <;> cases z.getLsbD i <;> rfl
theorem lin_c32 (l m n : List UInt8) (hm : m.length = l.length) (hn : n.length = l.length) : c32 (x3 l m n) = c32 l ^^^ c32 m ^^^ c32 n := by
  unfold c32
  rw [← BitVec.toNat_xor, ← BitVec.toNat_xor, ← not_three, ← lin32 l m n _ _ _ hm hn]; rfl
end Go.Proofs.Yticlcjabhemdiaa.Digest
