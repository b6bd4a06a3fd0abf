/- Plain mathematics of limited integers; no program in sight. -/
import Derived.WalkKit
import Derived.Deep.QuietTactic
import Derived.Laws.BitsAllLaws
import Derived.Laws.Bits128
set_option linter.unusedVariables false
namespace Go.Proofs.Ythfkmmgckiijcaa
open Go.RowKit

/-- The number, limited to the range of values. -/
def sat (n : Int) : Int := if 1099511627776 < n then 1099511627776 else if n < -1099511627776 then -1099511627776 else n

theorem sat_in (n : Int) : -1099511627776 ≤ sat n ∧ sat n ≤ 1099511627776 := by unfold sat; split <;> (try split) <;> omega
theorem sat_id (n : Int) (h1 : -1099511627776 ≤ n) (h2 : n ≤ 1099511627776) : sat n = n := by unfold sat; rw [if_neg (by omega), if_neg (by omega)]
theorem sat_hi (n : Int) (h : 1099511627776 ≤ n) : sat n = 1099511627776 := by unfold sat; split <;> (try split) <;> omega
theorem sat_lo (n : Int) (h : n ≤ -1099511627776) : sat n = -1099511627776 := by unfold sat; split <;> (try split) <;> omega
/-- The quotient of the limited numbers, rounded down. -/
def flo (a b : Int) : Int := if b = 0 then 0 else (sat a).fdiv (sat b)

theorem sat_ne (b : Int) (h : b ≠ 0) : sat b ≠ 0 := by unfold sat; split <;> (try split) <;> omega
theorem sat_neg (b : Int) : sat b < 0 ↔ b < 0 := by unfold sat; split <;> (try split) <;> omega
theorem sat_opp (b : Int) : sat (-b) = -sat b := by unfold sat; (repeat' split) <;> omega
theorem sat_sat (b : Int) : sat (sat b) = sat b := sat_id _ (sat_in b).1 (sat_in b).2

theorem tdiv_bd (x y : Int) (h1 : -1099511627776 ≤ x) (h2 : x ≤ 1099511627776) : -1099511627776 ≤ x.tdiv y ∧ x.tdiv y ≤ 1099511627776 := by
  have h := Int.natAbs_tdiv x y
  have h3 := Nat.div_le_self x.natAbs y.natAbs
  have h4 : x.natAbs.div y.natAbs = x.natAbs / y.natAbs := rfl
  omega

theorem fdiv_same (x y : Int) (hy : y ≠ 0) (h : x.tmod y = 0 ∨ (x < 0 ↔ y < 0)) : x.fdiv y = x.tdiv y := by
  rw [Int.fdiv_eq_tdiv]
  by_cases hd : y ∣ x
  · rw [if_pos hd]; omega
  · rw [if_neg hd]
    have hm : ¬ x.tmod y = 0 := fun e => hd (Int.dvd_of_tmod_eq_zero e)
    by_cases hx : 0 ≤ x
    · rw [if_pos hx, if_pos (by omega)]; omega
    · rw [if_neg hx, if_neg (by omega), Int.sign_eq_neg_one_of_neg (by omega)]; omega

theorem fdiv_less (x y : Int) (hy : y ≠ 0) (hm : x.tmod y ≠ 0) (h : ¬ (x < 0 ↔ y < 0)) : x.fdiv y = x.tdiv y - 1 := by
  rw [Int.fdiv_eq_tdiv]
  have hd : ¬ y ∣ x := fun e => hm (Int.tmod_eq_zero_of_dvd e)
  rw [if_neg hd]
  by_cases hx : 0 ≤ x
  · rw [if_pos hx, if_neg (by omega)]
  · rw [if_neg hx, if_pos (by omega), Int.sign_eq_one_of_pos (by omega)]

theorem fdiv_t1 (x y : Int) (hy : y ≠ 0) (h : x.tmod y = 0) : x.tdiv y = x.fdiv y := (fdiv_same x y hy (Or.inl h)).symm
theorem fdiv_t2 (x y : Int) (hy : y ≠ 0) (h : (x.tmod y != 0) = true ∧ (!decide (x < 0) == decide (y < 0)) = true) : x.tdiv y - 1 = x.fdiv y := by
  refine (fdiv_less x y hy (by simpa using h.1) ?_).symm
  intro e; have h2 := h.2; by_cases hx : x < 0 <;> by_cases hy' : y < 0 <;> simp [hx, hy'] at h2 e
theorem fdiv_t3 (x y : Int) (hy : y ≠ 0) (h : (x.tmod y != 0) = false ∨ (!decide (x < 0) == decide (y < 0)) = false) : x.tdiv y = x.fdiv y := by
  rcases h with h | h
  · exact fdiv_t1 x y hy (by simpa using h)
  · refine (fdiv_same x y hy (Or.inr ?_)).symm
    by_cases hx : x < 0 <;> by_cases hy' : y < 0 <;> simp [hx, hy'] at h ⊢

theorem flo_z (a : Int) : flo a 0 = 0 := rfl
theorem flo_nz (a b : Int) (h : b ≠ 0) : flo a b = (sat a).fdiv (sat b) := by unfold flo; rw [if_neg h]
theorem flo_bd (a b : Int) : -1099511627777 ≤ flo a b ∧ flo a b ≤ 1099511627776 := by
  by_cases h : b = 0
  · subst h; rw [flo_z]; omega
  · rw [flo_nz a b h]
    have h1 := sat_in a
    have h2 := tdiv_bd (sat a) (sat b) h1.1 h1.2
    by_cases hm : (sat a).tmod (sat b) = 0
    · rw [fdiv_same _ _ (sat_ne b h) (Or.inl hm)]; omega
    · by_cases hs : (sat a < 0 ↔ sat b < 0)
      · rw [fdiv_same _ _ (sat_ne b h) (Or.inr hs)]; omega
      · rw [fdiv_less _ _ (sat_ne b h) hm hs]; omega

theorem u64_in (n : Int) (h0 : 0 ≤ n) (h1 : n ≤ 18446744073709551615) : IntKind.u64.wrap n = n := by
  show n % 18446744073709551616 = n
  omega
theorem u64_neg (n : Int) (h0 : -18446744073709551615 ≤ n) (h1 : n < 0) : IntKind.u64.wrap (-IntKind.u64.wrap n) = -n := by
  show (-(n % 18446744073709551616)) % 18446744073709551616 = -n
  omega
theorem and_mask20 (n : Nat) (h : n ≤ 1099511627776) : bits BinOp.and IntKind.u64 (n : Int) 1048575 = (n : Int) % 1048576 := by
  have e := u64_and_nat n 1048575 (by omega) (by omega)
  have e2 := Nat.and_two_pow_sub_one_eq_mod n 20
  simp only [show 2 ^ 20 - 1 = 1048575 from rfl, show 2 ^ 20 = 1048576 from rfl] at e2
  rw [e2] at e; exact e.trans (by omega)

/-- The quotient that the halves give. -/
def smq (n a b : Nat) : Nat := min (n * (a / 1048576) / b) 1099511627776 * 1048576 + (n * (a / 1048576) % b * 1048576 + n * (a % 1048576)) / b

theorem grown_trans {a b c : World} (h1 : Grown a b) (h2 : Grown b c) : Grown a c :=
  ⟨World.keptBut_trans h1.1 (World.keptBut_mono (fun _ f => f) (h2.1)), fun x => (h2.2.1 x).trans (h1.2.1 x), Nat.le_trans h1.2.2 h2.2.2⟩

theorem smq_int (n a b : Nat) : ((smq n a b : Nat) : Int) = min ((n : Int) * ((a : Int) / 1048576) / (b : Int)) 1099511627776 * 1048576 + ((n : Int) * ((a : Int) / 1048576) % (b : Int) * 1048576 + (n : Int) * ((a : Int) % 1048576)) / (b : Int) := by
  have h : ((n * (a / 1048576) / b : Nat) : Int) = (n : Int) * ((a : Int) / 1048576) / (b : Int) := by simp
  unfold smq; simp; rw [← h]; omega
theorem rem_int (n a b : Nat) : ((n * a % b : Nat) : Int) = ((n : Int) * ((a : Int) / 1048576) % (b : Int) * 1048576 + (n : Int) * ((a : Int) % 1048576)) % (b : Int) := by
  have h : n * a = n * (a / 1048576) * 1048576 + n * (a % 1048576) := by
    have : a = a / 1048576 * 1048576 + a % 1048576 := by omega
    conv => lhs; rw [this]
    rw [Nat.mul_add, Nat.mul_assoc]
  have h2 : n * a % b = (n * (a / 1048576) % b * 1048576 + n * (a % 1048576)) % b := by
    rw [h]
    conv => lhs; rw [Nat.add_mod, Nat.mul_mod]
    conv => rhs; rw [Nat.add_mod, Nat.mul_mod]
    simp
  rw [h2]; simp
theorem u64_to_int (n : Int) (h0 : 0 ≤ n) (h1 : n ≤ 9223372036854775807) : IntKind.i64.wrap n = n := IntWalk.i64_in n ⟨by omega, by omega⟩
theorem prod_bd (n x y z : Nat) (h1 : n ≤ y) (h2 : x ≤ z) : n * x ≤ y * z := Nat.mul_le_mul h1 h2

theorem grown_drewN {a b : World} (h : Grown a b) (n : Nat) : Grown a (b.drewN n) := h

theorem quo_halves (n a b : Nat) (hz : 1 ≤ b) : n * a / b = n * (a / 1048576) / b * 1048576 + (n * (a / 1048576) % b * 1048576 + n * (a % 1048576)) / b := by
  have h : n * a = n * (a / 1048576) * 1048576 + n * (a % 1048576) := by
    have : a = a / 1048576 * 1048576 + a % 1048576 := by omega
    conv => lhs; rw [this]
    rw [Nat.mul_add, Nat.mul_assoc]
  rw [h]
  generalize n * (a / 1048576) = p
  generalize n * (a % 1048576) = v
  have e : p * 1048576 + v = b * (p / b * 1048576) + (p % b * 1048576 + v) := by
    have hp := Nat.div_add_mod p b
    have hp2 : b * (p / b * 1048576) = b * (p / b) * 1048576 := by rw [Nat.mul_assoc]
    omega
  rw [e, Nat.mul_add_div (by omega)]
theorem smq_bd (n a b : Nat) (hn : n ≤ 1099511627776) (ha : a ≤ 1099511627776) (hz : 1 ≤ b) : smq n a b ≤ 4611686018427387904 := by
  unfold smq
  have h1 : (n * (a / 1048576) % b * 1048576 + n * (a % 1048576)) / b ≤ 1048576 + n * (a % 1048576) := by
    have hm : n * (a / 1048576) % b < b := Nat.mod_lt _ (by omega)
    generalize n * (a / 1048576) % b = m at *
    have hv : n * (a % 1048576) / b ≤ n * (a % 1048576) := Nat.div_le_self _ _
    generalize n * (a % 1048576) = v at *
    refine Nat.div_le_of_le_mul ?_
    have e1 : m * 1048576 ≤ b * 1048576 := by omega
    have e2 : v ≤ b * v := by have := Nat.mul_le_mul hz (Nat.le_refl v); omega
    exact Nat.le_trans (Nat.add_le_add e1 e2) (Nat.le_of_eq (Nat.mul_add b 1048576 v).symm)
  have h2 := prod_bd n (a % 1048576) 1099511627776 1048576 hn (by omega)
  omega
theorem smq_sat (n a b : Nat) (hz : 1 ≤ b) : (smq n a b = n * a / b) ∨ (1099511627776 ≤ smq n a b ∧ 1099511627776 ≤ n * a / b) := by
  have h := quo_halves n a b hz
  unfold smq
  rw [h]
  generalize n * (a / 1048576) / b = u
  generalize (n * (a / 1048576) % b * 1048576 + n * (a % 1048576)) / b = v
  omega
/-- A limited quotient out of its sign, its magnitude and its rest. -/
def sclF (neg : Bool) (q r : Nat) : Int := sat (if neg then -((q : Int) + if r = 0 then 0 else 1) else q)
theorem sclF_smq (neg : Bool) (n a b : Nat) (r : Nat) (hz : 1 ≤ b) : sclF neg (smq n a b) r = sclF neg (n * a / b) r := by
  rcases smq_sat n a b hz with h | ⟨h1, h2⟩
  · rw [h]
  · generalize smq n a b = u at *
    generalize n * a / b = v at *
    unfold sclF
    by_cases hr : r = 0 <;> cases neg <;> simp [hr]
    · rw [sat_hi _ (by omega), sat_hi _ (by omega)]
    · rw [sat_lo _ (by omega), sat_lo _ (by omega)]
    · rw [sat_hi _ (by omega), sat_hi _ (by omega)]
    · rw [sat_lo _ (by omega), sat_lo _ (by omega)]
/-- The product's limited quotient. -/
def scl (n a b : Int) : Int := if b = 0 then 0 else
  sclF (!((!(decide (sat n < 0) == decide (sat a < 0))) == decide (sat b < 0))) ((sat n).natAbs * (sat a).natAbs / (sat b).natAbs) ((sat n).natAbs * (sat a).natAbs % (sat b).natAbs)
theorem scl_z (n a : Int) : scl n a 0 = 0 := rfl
theorem scl_nz (n a b : Int) (h : b ≠ 0) : scl n a b = sclF (!((!(decide (sat n < 0) == decide (sat a < 0))) == decide (sat b < 0))) ((sat n).natAbs * (sat a).natAbs / (sat b).natAbs) ((sat n).natAbs * (sat a).natAbs % (sat b).natAbs) := by
  unfold scl; rw [if_neg h]
theorem sclF_pos (c : Bool) (q r : Nat) (h : c = true) : sat q = sclF (!c) q r := by subst h; rfl
theorem sclF_up (c : Bool) (q : Nat) (x y z : Nat) (h : c = false) (hr : (((x : Int) * (y : Int) % (z : Int)) != 0) = true) : sat (-((q : Int) + 1)) = sclF (!c) q (x * y % z) := by
  subst h
  have hr' : ¬ ((x : Int) * (y : Int) % (z : Int)) = 0 := by simpa using hr
  have : ¬ x * y % z = 0 := by
    intro e
    exact hr' (by have h2 : ((x * y % z : Nat) : Int) = (x : Int) * (y : Int) % (z : Int) := by simp
                  omega)
  unfold sclF; simp [this]
theorem sclF_at (c : Bool) (q : Nat) (x y z : Nat) (h : c = false) (hr : (((x : Int) * (y : Int) % (z : Int)) != 0) = false) : sat (-(q : Int)) = sclF (!c) q (x * y % z) := by
  subst h
  have hr' : ((x : Int) * (y : Int) % (z : Int)) = 0 := by simpa using hr
  have : x * y % z = 0 := by
    have h2 : ((x * y % z : Nat) : Int) = (x : Int) * (y : Int) % (z : Int) := by simp
    omega
  unfold sclF; simp [this]

/-- Quotient and rest after all bits of Y from the j-th on. -/
def sQ (X Y Z j : Nat) : Nat := min (X * (Y / 2 ^ j) / Z) 4398046511104
def sR (X Y Z j : Nat) : Nat := X * (Y / 2 ^ j) % Z
theorem sQ_le (X Y Z j : Nat) : sQ X Y Z j ≤ 4398046511104 := by unfold sQ; omega
theorem sR_lt (X Y Z j : Nat) (hz : 1 ≤ Z) : sR X Y Z j < Z := Nat.mod_lt _ (by omega)
theorem half_pow (Y m : Nat) : Y / 2 ^ m = 2 * (Y / 2 ^ (m + 1)) + Y / 2 ^ m % 2 := by
  have h : Y / 2 ^ (m + 1) = Y / 2 ^ m / 2 := by rw [Nat.pow_succ, Nat.div_div_eq_div_mul]
  omega
theorem s_step (X A B c Z : Nat) (hz : 1 ≤ Z) (h : B = 2 * A + c) : X * B / Z = 2 * (X * A / Z) + (2 * (X * A % Z) + X * c) / Z ∧ X * B % Z = (2 * (X * A % Z) + X * c) % Z := by
  have hp := Nat.div_add_mod (X * A) Z
  have e : X * B = Z * (2 * (X * A / Z)) + (2 * (X * A % Z) + X * c) := by
    subst h
    have e1 : X * (2 * A + c) = 2 * (X * A) + X * c := by rw [Nat.mul_add, Nat.mul_left_comm]
    have e2 : Z * (2 * (X * A / Z)) = 2 * (Z * (X * A / Z)) := Nat.mul_left_comm _ _ _
    omega
  rw [e, Nat.mul_add_div (by omega), Nat.mul_add_mod]
  exact ⟨rfl, rfl⟩
theorem s_zero (X Y Z m : Nat) (hz : 1 ≤ Z) (h : Y / 2 ^ m % 2 = 0) : sR X Y Z m = 2 * sR X Y Z (m + 1) % Z ∧ sQ X Y Z m = min (2 * sQ X Y Z (m + 1) + 2 * sR X Y Z (m + 1) / Z) 4398046511104 := by
  have hs := s_step X (Y / 2 ^ (m + 1)) (Y / 2 ^ m) 0 Z hz (by have := half_pow Y m; omega)
  unfold sR sQ
  simp only [Nat.mul_zero, Nat.add_zero] at hs
  rw [hs.1, hs.2]
  refine ⟨rfl, ?_⟩
  generalize X * (Y / 2 ^ (m + 1)) / Z = u
  generalize 2 * (X * (Y / 2 ^ (m + 1)) % Z) / Z = v
  omega
theorem s_one (X Y Z m : Nat) (hz : 1 ≤ Z) (h : Y / 2 ^ m % 2 = 1) : sR X Y Z m = (2 * sR X Y Z (m + 1) + X) % Z ∧ sQ X Y Z m = min (2 * sQ X Y Z (m + 1) + (2 * sR X Y Z (m + 1) + X) / Z) 4398046511104 := by
  have hs := s_step X (Y / 2 ^ (m + 1)) (Y / 2 ^ m) 1 Z hz (by have := half_pow Y m; omega)
  unfold sR sQ
  simp only [Nat.mul_one] at hs
  rw [hs.1, hs.2]
  refine ⟨rfl, ?_⟩
  generalize X * (Y / 2 ^ (m + 1)) / Z = u
  generalize (2 * (X * (Y / 2 ^ (m + 1)) % Z) + X) / Z = v
  omega
theorem s_start (X Y Z : Nat) (hy : Y ≤ 1099511627776) : sQ X Y Z 41 = 0 ∧ sR X Y Z 41 = 0 := by
  have h : Y / 2 ^ 41 = 0 := Nat.div_eq_of_lt (by omega)
  unfold sQ sR; rw [h]; simp

theorem xor3 (A B C : Bool) : (!((!(A == B)) == C)) = (!(A == (!(B == C)))) := by cases A <;> cases B <;> cases C <;> rfl
theorem s_end (X Y Z : Nat) : sQ X Y Z 0 = min (X * Y / Z) 4398046511104 ∧ sR X Y Z 0 = X * Y % Z := by unfold sQ sR; simp
theorem s_up (X Y Z : Nat) (h : 0 < sR X Y Z 0) : sat (-((sQ X Y Z 0 : Nat) + 1)) = sclF true (X * Y / Z) (X * Y % Z) := by
  have e := s_end X Y Z
  rw [e.2] at h; rw [e.1]
  generalize X * Y / Z = u
  generalize X * Y % Z = v at *
  have hv : ¬ v = 0 := by omega
  unfold sclF; simp only [hv, if_true, if_false]
  by_cases hu : u ≤ 4398046511104
  · rw [show min u 4398046511104 = u by omega]
  · rw [sat_lo _ (by omega), sat_lo _ (by omega)]
theorem s_dn (X Y Z : Nat) (h : ¬ 0 < sR X Y Z 0) : sat (-(sQ X Y Z 0 : Nat)) = sclF true (X * Y / Z) (X * Y % Z) := by
  have e := s_end X Y Z
  rw [e.2] at h; rw [e.1]
  generalize X * Y / Z = u
  generalize X * Y % Z = v at *
  have hv : v = 0 := by omega
  unfold sclF; simp only [hv, if_true]
  by_cases hu : u ≤ 4398046511104
  · rw [show min u 4398046511104 = u by omega]; simp
  · rw [sat_lo _ (by omega), sat_lo _ (by omega)]
theorem s_ps (X Y Z : Nat) : sat (sQ X Y Z 0 : Nat) = sclF false (X * Y / Z) (X * Y % Z) := by
  have e := s_end X Y Z
  rw [e.1]
  generalize X * Y / Z = u
  unfold sclF
  by_cases hu : u ≤ 4398046511104
  · rw [show min u 4398046511104 = u by omega]; simp
  · rw [sat_hi _ (by omega)]; simp; rw [sat_hi _ (by omega)]

theorem i64_and1 (n : Int) : bits .and .i64 n 1 = n % 2 := by
  have h1 : (BitVec.ofInt 64 1).toNat = 2 ^ 1 - 1 := by decide
  have key : (BitVec.ofInt 64 n &&& BitVec.ofInt 64 1).toNat = (n % ((2 ^ 64 : Nat) : Int)).toNat % 2 ^ 1 := by
    rw [BitVec.toNat_and, BitVec.toNat_ofInt, h1, Nat.and_two_pow_sub_one_eq_mod]
  show IntKind.i64.wrap ((BitVec.ofInt 64 n &&& BitVec.ofInt 64 1).toNat : Nat) = n % 2
  rw [key, IntKind.wrap_i64]
  omega
theorem bit_test (Y m : Nat) : (bits BinOp.and IntKind.i64 ((Y : Int) / 2 ^ m) 1 == 1) = decide (Y / 2 ^ m % 2 = 1) := by
  rw [i64_and1]
  have e : ((Y / 2 ^ m % 2 : Nat) : Int) = (Y : Int) / 2 ^ m % 2 := by simp
  rw [← e]
  by_cases h : Y / 2 ^ m % 2 = 1
  · rw [h]; rfl
  · rw [decide_eq_false h]; simp; omega
theorem quo_le (r Z : Nat) (hz : 1 ≤ Z) : (r : Int) / (Z : Int) ≤ r ∧ 0 ≤ (r : Int) / (Z : Int) :=
  ⟨Int.ediv_le_self _ (by omega), Int.ediv_nonneg (by omega) (by omega)⟩

theorem natAbs_pos (a : Int) (h : a ≠ 0) : 1 ≤ (sat a).natAbs := by have := sat_ne a h; omega
theorem scl1 (a b : Int) : scl a b 1 = sclF (!(decide (a < 0) == decide (b < 0))) ((sat a).natAbs * (sat b).natAbs) 0 := by
  rw [scl_nz a b 1 (by omega)]
  have e1 : sat 1 = 1 := rfl
  have da : decide (sat a < 0) = decide (a < 0) := decide_eq_decide.2 (sat_neg a)
  have db : decide (sat b < 0) = decide (b < 0) := decide_eq_decide.2 (sat_neg b)
  rw [da, db, e1]
  have e2 : Int.natAbs 1 = 1 := rfl
  rw [e2, Nat.div_one, Nat.mod_one]
  cases decide (a < 0) <;> cases decide (b < 0) <;> rfl
theorem scl1_big (a b : Int) (h : 1099511627776 ≤ (sat a).natAbs * (sat b).natAbs) : ((!decide (a < 0) == decide (b < 0)) = true → -1099511627776 = scl a b 1) ∧ ((!decide (a < 0) == decide (b < 0)) = false → 1099511627776 = scl a b 1) := by
  rw [scl1]
  generalize (sat a).natAbs * (sat b).natAbs = u at *
  constructor
  · intro e; rw [e]; unfold sclF; simp; rw [sat_lo _ (by omega)]
  · intro e; rw [e]; unfold sclF; simp; rw [sat_hi _ (by omega)]
theorem scl1_sml (a b : Int) (h : (sat a).natAbs * (sat b).natAbs ≤ 1099511627776) : ((!decide (a < 0) == decide (b < 0)) = true → -((sat a).natAbs * (sat b).natAbs : Int) = scl a b 1) ∧ ((!decide (a < 0) == decide (b < 0)) = false → ((sat a).natAbs * (sat b).natAbs : Int) = scl a b 1) := by
  rw [scl1]
  have e : (((sat a).natAbs * (sat b).natAbs : Nat) : Int) = ((sat a).natAbs : Int) * ((sat b).natAbs : Int) := by simp only [Int.natCast_mul]
  rw [← e]
  generalize (sat a).natAbs * (sat b).natAbs = u at *
  constructor
  · intro e; rw [e]; unfold sclF; simp; rw [sat_id _ (by omega) (by omega)]
  · intro e; rw [e]; unfold sclF; simp; rw [sat_id _ (by omega) (by omega)]
theorem scl1_out (a b : Int) (ha : a ≠ 0) (hb : b ≠ 0) (h : ¬ (-1099511627776 ≤ a ∧ a ≤ 1099511627776 ∧ -1099511627776 ≤ b ∧ b ≤ 1099511627776)) : 1099511627776 ≤ (sat a).natAbs * (sat b).natAbs := by
  have h1 := natAbs_pos a ha
  have h2 := natAbs_pos b hb
  have h3 : (sat a).natAbs = 1099511627776 ∨ (sat b).natAbs = 1099511627776 := by
    by_cases ea : 1099511627776 ≤ a
    · rw [sat_hi a ea]; exact Or.inl rfl
    · by_cases ea' : a ≤ -1099511627776
      · rw [sat_lo a ea']; exact Or.inl rfl
      · by_cases eb : 1099511627776 ≤ b
        · rw [sat_hi b eb]; exact Or.inr rfl
        · by_cases eb' : b ≤ -1099511627776
          · rw [sat_lo b eb']; exact Or.inr rfl
          · omega
  rcases h3 with h3 | h3
  · rw [h3]; omega
  · rw [h3]; omega
theorem over_quo (X Y : Nat) (hy : 1 ≤ Y) : (1099511627776 : Int) / (Y : Int) < (X : Int) ↔ 1099511627776 < X * Y := by
  have e : ((1099511627776 / Y : Nat) : Int) = (1099511627776 : Int) / (Y : Int) := by simp
  rw [← e, Int.ofNat_lt]
  exact Nat.div_lt_iff_lt_mul (by omega)
end Go.Proofs.Ythfkmmgckiijcaa
