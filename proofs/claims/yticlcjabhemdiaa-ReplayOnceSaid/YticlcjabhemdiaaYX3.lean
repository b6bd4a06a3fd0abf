/- Package replay: Accept. -/
import Derived.Test.YticlcjabhemdiaaYX2
set_option linter.unusedVariables false
namespace Go.Proofs.Yticlcjabhemdiaa.Rpl
open Go.RowKit

theorem or_shl (t : Int) (b : Nat) (n : Int) (hb : b < 18446744073709551616) (h : t < n) :
    bits .or .u64 (IntKind.u64.wrap ((b : Int) * 2 ^ min (n - t).toNat 64)) 1 = (nb (nxt (t, b) n) 64 : Int) := by
  have e : IntKind.u64.wrap ((b : Int) * 2 ^ min (n - t).toNat 64) = ((b * 2 ^ min (n - t).toNat 64 % 18446744073709551616 : Nat) : Int) := by
    rw [IntKind.wrap_u64, show (b : Int) * 2 ^ min (n - t).toNat 64 = ((b * 2 ^ min (n - t).toNat 64 : Nat) : Int) by simp]
    rfl
  rw [e]
  have hl : b * 2 ^ min (n - t).toNat 64 % 18446744073709551616 < 18446744073709551616 := Nat.mod_lt _ (by decide)
  refine (u64_or_nat _ 1 hl (by decide)).trans ?_
  congr 1
  refine nb_of _ (Nat.or_lt_two_pow (show _ < 2 ^ 64 from hl) (by decide)) fun i hi => ?_
  rw [Nat.testBit_or, show (18446744073709551616 : Nat) = 2 ^ 64 from rfl, Nat.testBit_mod_two_pow, Nat.testBit_mul_two_pow]
  unfold nxt
  rw [rec_rb]
  unfold rb
  have h1 : Nat.testBit 1 i = (i == 0) := by
    by_cases h0 : i = 0
    · subst h0; rfl
    · rw [show Nat.testBit 1 i = false from Nat.testBit_lt_two_pow (Nat.lt_of_lt_of_le (show 1 < 2 ^ 1 by decide) (Nat.pow_le_pow_right (by decide) (by omega)))]
      simp [h0]
  rw [h1]
  by_cases hd : (n - t).toNat ≤ i
  · rw [Nat.min_eq_left (by omega), decide_eq_true (by omega : i < 64), decide_eq_true (show i ≥ (n - t).toNat from hd), decide_eq_true (show 0 ≤ t - (n - (i : Int)) ∧ t - (n - (i : Int)) ≤ 63 by omega), show (t - (n - (i : Int))).toNat = i - (n - t).toNat by omega]
    simp [Bool.or_comm]
  · rw [decide_eq_false (show ¬ i ≥ min (n - t).toNat 64 by omega), decide_eq_false (show ¬ (0 ≤ t - (n - (i : Int)) ∧ t - (n - (i : Int)) ≤ 63) by omega)]
    simp
theorem and_pow (b k : Nat) : (b &&& 2 ^ k = 0) ↔ b.testBit k = false := by
  constructor
  · intro h
    have e : (b &&& 2 ^ k).testBit k = b.testBit k := by rw [Nat.testBit_and, Nat.testBit_two_pow_self, Bool.and_true]
    rw [← e, h]
    simp
  · intro h
    apply Nat.eq_of_testBit_eq
    intro i
    rw [Nat.testBit_and, Nat.zero_testBit]
    by_cases e : i = k
    · subst e; rw [h]; rfl
    · rw [Nat.testBit_two_pow_of_ne (fun h => e h.symm), Bool.and_false]
/-- What Accept does with a number that is not above Top. -/
theorem acc_below {w : Wi} {n : Int} (hv : Val w) (hi : In n) (h : n ≤ w.1) :
    (bo (w.1 - n) = 0 ∧ acc w n = (w, false)) ∨ (¬ bo (w.1 - n) = 0 ∧ ((¬ w.2 &&& bo (w.1 - n) = 0 ∧ acc w n = (w, false)) ∨ (w.2 &&& bo (w.1 - n) = 0 ∧ acc w n = ((w.1, w.2 ||| bo (w.1 - n)), true)))) := by
  by_cases h1 : w.1 - n ≤ 63
  · have e : bo (w.1 - n) = 2 ^ (w.1 - n).toNat := if_pos h1
    rw [e, and_pow]
    refine Or.inr ⟨Nat.ne_of_gt (Nat.two_pow_pos _), ?_⟩
    cases hb : w.2.testBit (w.1 - n).toNat with
    | true => exact Or.inl ⟨by simp, acc_old h fun hh => by rw [hb] at hh; cases hh.2⟩
    | false => exact Or.inr ⟨rfl, acc_low hv hi h h1 hb⟩
  · exact Or.inl ⟨if_neg h1, acc_old h fun hh => h1 hh.1⟩
set_option maxRecDepth 100000 in
set_option maxHeartbeats 4000000 in
theorem paccept_any (t : Int) (b : Nat) (n : Int) (W : World) (hb : b < 18446744073709551616) (hn : I64 n) :
    Calls Try.prog 9 #[.agg #[.int .i64 t, .int .u64 (b : Int)], .int .i64 n] W (OutA W (acc (t, b) n)) := by
  have KC := Lib.hid (fun W => pcheck_any t b W hb)
  have KI := Lib.hid (fun W => pnum_any n W)
  unfold OutI at KC
  by_cases hv : Val (t, b)
  rotate_left
  · have R := Lib.hid (acc_out (w := (t, b)) (n := n) fun h => hv h.1)
    have C := Lib.hid (show chk (t, b) = 2 from if_neg hv)
    rw [C.out] at KC
    clear hv KI
    go_enter Try.func9, Try.ntmps9
    go_wp2_with fail
    refine (KC.out _).mono ?_
    rintro _ w1 ⟨rfl, hb1⟩
    have hbx : Below W.heap.size W w1 := ((alloc_below W (bxW t b)).alloc (by simp) (bxW 0 0)).trans (hb1.mono (by simp; omega))
    have X1 := Lib.hid (show w1.heap[W.heap.size]? = some (bxW t b) from (hb1.block W.heap.size (by simp; omega)).trans (blk_alloc (blk_new W _) _))
    have Y1 := Lib.hid (show w1.heap[W.heap.size + 1]? = some (bxW 0 0) from (hb1.block (W.heap.size + 1) (by simp)).trans (two_new W _ _))
    have hz1 : W.heap.size + 1 < w1.heap.size := by have := hb1.size; simp at this; omega
    have B1 := Lib.hid hbx
    clear hb1 KC hbx
    have e0 := blk_cell X1.out 0 (v := .int .i64 t) rfl
    have e1 := blk_cell X1.out 1 (v := .int .u64 (b : Int)) rfl
    have y0 := blk_cell Y1.out 0 (v := .int .i64 0) rfl
    have y1 := blk_cell Y1.out 1 (v := .int .u64 0) rfl
    have f0 := blk_fr Y1.out 0
    have f1 := blk_fr Y1.out 1
    obtain ⟨V, hV⟩ : ∃ V, V = put2 w1 (W.heap.size + 1) t b := ⟨_, rfl⟩
    have HV := hV ▸ put2_blk Y1.out t b
    have BV := Lib.hid (show Below W.heap.size W V from hV ▸ put2_below B1.out (by omega) t b)
    unfold put2 at hV
    go_wp2_with fail
    rw [← hV]
    have c0 := blk_cell HV 0 (v := .int .i64 t) rfl
    have c1 := blk_cell HV 1 (v := .int .u64 (b : Int)) rfl
    refine bodyPost_ret (v := .tuple #[wiV (t, b), .bool false]) (by simp [results, Try.results9, go_sem, c0, c1]) rfl ⟨by rw [R.out], BV.out⟩
  rw [show chk (t, b) = 0 from if_pos hv] at KC
  by_cases hi : In n
  rotate_left
  · have R := Lib.hid (acc_out (w := (t, b)) (n := n) fun h => hi h.2)
    rw [df hi] at KI
    clear hv hi
    go_enter Try.func9, Try.ntmps9
    go_wp2_with fail
    refine (KC.out _).mono ?_
    rintro _ w1 ⟨rfl, hb1⟩
    have hbx : Below W.heap.size W w1 := ((alloc_below W (bxW t b)).alloc (by simp) (bxW 0 0)).trans (hb1.mono (by simp; omega))
    have X1 := Lib.hid (show w1.heap[W.heap.size]? = some (bxW t b) from (hb1.block W.heap.size (by simp; omega)).trans (blk_alloc (blk_new W _) _))
    have Y1 := Lib.hid (show w1.heap[W.heap.size + 1]? = some (bxW 0 0) from (hb1.block (W.heap.size + 1) (by simp)).trans (two_new W _ _))
    have hz1 : W.heap.size + 1 < w1.heap.size := by have := hb1.size; simp at this; omega
    have B1 := Lib.hid hbx
    clear hb1 KC hbx
    go_wp2_with fail
    refine (KI.out _).mono ?_
    rintro _ _ ⟨rfl, rfl⟩
    clear KI
    have e0 := blk_cell X1.out 0 (v := .int .i64 t) rfl
    have e1 := blk_cell X1.out 1 (v := .int .u64 (b : Int)) rfl
    have y0 := blk_cell Y1.out 0 (v := .int .i64 0) rfl
    have y1 := blk_cell Y1.out 1 (v := .int .u64 0) rfl
    have f0 := blk_fr Y1.out 0
    have f1 := blk_fr Y1.out 1
    obtain ⟨V, hV⟩ : ∃ V, V = put2 w1 (W.heap.size + 1) t b := ⟨_, rfl⟩
    have HV := hV ▸ put2_blk Y1.out t b
    have BV := Lib.hid (show Below W.heap.size W V from hV ▸ put2_below B1.out (by omega) t b)
    unfold put2 at hV
    go_wp2_with fail
    rw [← hV]
    have c0 := blk_cell HV 0 (v := .int .i64 t) rfl
    have c1 := blk_cell HV 1 (v := .int .u64 (b : Int)) rfl
    refine bodyPost_ret (v := .tuple #[wiV (t, b), .bool false]) (by simp [results, Try.results9, go_sem, c0, c1]) rfl ⟨by rw [R.out], BV.out⟩
  rw [dt hi] at KI
  have ht : -1 ≤ t ∧ t ≤ 1099511627776 := by unfold Val at hv; dsimp only at hv; omega
  have hr : 0 ≤ n ∧ n ≤ 1099511627776 := hi
  by_cases h2 : t < n
  · have R := Lib.hid (acc_high (w := (t, b)) hv hi h2)
    have d2 := dt h2
    have s2 : IntKind.i64.wrap (n - t) = n - t := by rw [IntKind.wrap_i64]; omega
    have q2 : t ≤ n := by omega
    have O := or_shl t b n hb h2
    generalize nb (nxt (t, b) n) 64 = x at *
    clear hv hi ht hr h2 hb hn
    go_enter Try.func9, Try.ntmps9
    go_wp2_with fail
    refine (KC.out _).mono ?_
    rintro _ w1 ⟨rfl, hb1⟩
    have hbx : Below W.heap.size W w1 := ((alloc_below W (bxW t b)).alloc (by simp) (bxW 0 0)).trans (hb1.mono (by simp; omega))
    have X1 := Lib.hid (show w1.heap[W.heap.size]? = some (bxW t b) from (hb1.block W.heap.size (by simp; omega)).trans (blk_alloc (blk_new W _) _))
    have Y1 := Lib.hid (show w1.heap[W.heap.size + 1]? = some (bxW 0 0) from (hb1.block (W.heap.size + 1) (by simp)).trans (two_new W _ _))
    have hz1 : W.heap.size + 1 < w1.heap.size := by have := hb1.size; simp at this; omega
    have B1 := Lib.hid hbx
    clear hb1 KC hbx
    go_wp2_with fail
    refine (KI.out _).mono ?_
    rintro _ _ ⟨rfl, rfl⟩
    clear KI
    have e0 := blk_cell X1.out 0 (v := .int .i64 t) rfl
    have e1 := blk_cell X1.out 1 (v := .int .u64 (b : Int)) rfl
    have y0 := blk_cell Y1.out 0 (v := .int .i64 0) rfl
    have y1 := blk_cell Y1.out 1 (v := .int .u64 0) rfl
    have f0 := blk_fr Y1.out 0
    have f1 := blk_fr Y1.out 1
    obtain ⟨V, hV⟩ : ∃ V, V = put2 w1 (W.heap.size + 1) n x := ⟨_, rfl⟩
    have HV := hV ▸ put2_blk Y1.out n x
    have BV := Lib.hid (show Below W.heap.size W V from hV ▸ put2_below B1.out (by omega) n x)
    unfold put2 at hV
    go_wp2_with fail
    rw [← hV]
    have c0 := blk_cell HV 0 (v := .int .i64 n) rfl
    have c1 := blk_cell HV 1 (v := .int .u64 (x : Int)) rfl
    refine bodyPost_ret (v := .tuple #[wiV (n, x), .bool true]) (by simp [results, Try.results9, go_sem, c0, c1]) rfl ⟨by rw [R.out], BV.out⟩
  have d2 := df h2
  have h3 : n ≤ t := by omega
  have KB := Lib.hid (fun W => pbit_any t n b W h3 (by omega))
  have AC := acc_below (w := (t, b)) hv hi h3
  have hx := bo_lt (t - n)
  dsimp only at AC
  generalize bo (t - n) = x at *
  clear hv hi ht hr h2 h3 hn
  rcases AC with ⟨rfl, R⟩ | ⟨h4, ⟨h5, R⟩ | ⟨h5, R⟩⟩
  · have R := Lib.hid R
    clear hx
    go_enter Try.func9, Try.ntmps9
    go_wp2_with fail
    refine (KC.out _).mono ?_
    rintro _ w1 ⟨rfl, hb1⟩
    have hbx : Below W.heap.size W w1 := ((alloc_below W (bxW t b)).alloc (by simp) (bxW 0 0)).trans (hb1.mono (by simp; omega))
    have X1 := Lib.hid (show w1.heap[W.heap.size]? = some (bxW t b) from (hb1.block W.heap.size (by simp; omega)).trans (blk_alloc (blk_new W _) _))
    have Y1 := Lib.hid (show w1.heap[W.heap.size + 1]? = some (bxW 0 0) from (hb1.block (W.heap.size + 1) (by simp)).trans (two_new W _ _))
    have hz1 : W.heap.size + 1 < w1.heap.size := by have := hb1.size; simp at this; omega
    have B1 := Lib.hid hbx
    clear hb1 KC hbx
    go_wp2_with fail
    refine (KI.out _).mono ?_
    rintro _ _ ⟨rfl, rfl⟩
    clear KI
    have e0 := blk_cell X1.out 0 (v := .int .i64 t) rfl
    have e1 := blk_cell X1.out 1 (v := .int .u64 (b : Int)) rfl
    have y0 := blk_cell Y1.out 0 (v := .int .i64 0) rfl
    have y1 := blk_cell Y1.out 1 (v := .int .u64 0) rfl
    have f0 := blk_fr Y1.out 0
    have f1 := blk_fr Y1.out 1
    go_wp2_with fail
    refine (KB.out _).mono ?_
    rintro _ w2 ⟨rfl, hb2⟩
    have X2 := Lib.hid (blk_below X1.out hb2 (by omega))
    have Y2 := Lib.hid (blk_below Y1.out hb2 hz1)
    have B2 := Lib.hid (B1.out.trans (hb2.mono B1.out.size))
    clear hb2 e0 e1 y0 y1 f0 f1 KB
    have e0 := blk_cell X2.out 0 (v := .int .i64 t) rfl
    have e1 := blk_cell X2.out 1 (v := .int .u64 (b : Int)) rfl
    have y0 := blk_cell Y2.out 0 (v := .int .i64 0) rfl
    have y1 := blk_cell Y2.out 1 (v := .int .u64 0) rfl
    have f0 := blk_fr Y2.out 0
    have f1 := blk_fr Y2.out 1
    obtain ⟨V, hV⟩ : ∃ V, V = put2 w2 (W.heap.size + 1) t b := ⟨_, rfl⟩
    have HV := hV ▸ put2_blk Y2.out t b
    have BV := Lib.hid (show Below W.heap.size W V from hV ▸ put2_below B2.out (by omega) t b)
    unfold put2 at hV
    go_wp2_with fail
    rw [← hV]
    have c0 := blk_cell HV 0 (v := .int .i64 t) rfl
    have c1 := blk_cell HV 1 (v := .int .u64 (b : Int)) rfl
    refine bodyPost_ret (v := .tuple #[wiV (t, b), .bool false]) (by simp [results, Try.results9, go_sem, c0, c1]) rfl ⟨by rw [R.out], BV.out⟩
  · have R := Lib.hid R
    have d4 : ((x : Int) == 0) = false := by simp; omega
    have d4' : (x == 0) = false := by simpa using h4
    have A := u64_and_nat b x hb hx
    obtain ⟨y, hy⟩ : ∃ y, b &&& x = y := ⟨_, rfl⟩
    rw [hy] at A h5
    have d5 : ((y : Int) != 0) = true := by simp; omega
    have d5' : (y != 0) = true := by simpa using h5
    clear hy hx hb h4
    go_enter Try.func9, Try.ntmps9
    go_wp2_with fail
    refine (KC.out _).mono ?_
    rintro _ w1 ⟨rfl, hb1⟩
    have hbx : Below W.heap.size W w1 := ((alloc_below W (bxW t b)).alloc (by simp) (bxW 0 0)).trans (hb1.mono (by simp; omega))
    have X1 := Lib.hid (show w1.heap[W.heap.size]? = some (bxW t b) from (hb1.block W.heap.size (by simp; omega)).trans (blk_alloc (blk_new W _) _))
    have Y1 := Lib.hid (show w1.heap[W.heap.size + 1]? = some (bxW 0 0) from (hb1.block (W.heap.size + 1) (by simp)).trans (two_new W _ _))
    have hz1 : W.heap.size + 1 < w1.heap.size := by have := hb1.size; simp at this; omega
    have B1 := Lib.hid hbx
    clear hb1 KC hbx
    go_wp2_with fail
    refine (KI.out _).mono ?_
    rintro _ _ ⟨rfl, rfl⟩
    clear KI
    have e0 := blk_cell X1.out 0 (v := .int .i64 t) rfl
    have e1 := blk_cell X1.out 1 (v := .int .u64 (b : Int)) rfl
    have y0 := blk_cell Y1.out 0 (v := .int .i64 0) rfl
    have y1 := blk_cell Y1.out 1 (v := .int .u64 0) rfl
    have f0 := blk_fr Y1.out 0
    have f1 := blk_fr Y1.out 1
    go_wp2_with fail
    refine (KB.out _).mono ?_
    rintro _ w2 ⟨rfl, hb2⟩
    have X2 := Lib.hid (blk_below X1.out hb2 (by omega))
    have Y2 := Lib.hid (blk_below Y1.out hb2 hz1)
    have B2 := Lib.hid (B1.out.trans (hb2.mono B1.out.size))
    clear hb2 e0 e1 y0 y1 f0 f1 KB
    have e0 := blk_cell X2.out 0 (v := .int .i64 t) rfl
    have e1 := blk_cell X2.out 1 (v := .int .u64 (b : Int)) rfl
    have y0 := blk_cell Y2.out 0 (v := .int .i64 0) rfl
    have y1 := blk_cell Y2.out 1 (v := .int .u64 0) rfl
    have f0 := blk_fr Y2.out 0
    have f1 := blk_fr Y2.out 1
    obtain ⟨V, hV⟩ : ∃ V, V = put2 w2 (W.heap.size + 1) t b := ⟨_, rfl⟩
    have HV := hV ▸ put2_blk Y2.out t b
    have BV := Lib.hid (show Below W.heap.size W V from hV ▸ put2_below B2.out (by omega) t b)
    unfold put2 at hV
    go_wp2_with fail
    rw [← hV]
    have c0 := blk_cell HV 0 (v := .int .i64 t) rfl
    have c1 := blk_cell HV 1 (v := .int .u64 (b : Int)) rfl
    refine bodyPost_ret (v := .tuple #[wiV (t, b), .bool false]) (by simp [results, Try.results9, go_sem, c0, c1]) rfl ⟨by rw [R.out], BV.out⟩
  · have R := Lib.hid R
    have d4 : ((x : Int) == 0) = false := by simp; omega
    have d4' : (x == 0) = false := by simpa using h4
    have A := u64_and_nat b x hb hx
    rw [h5] at A
    have O := u64_or_nat b x hb hx
    generalize b ||| x = z at *
    clear hx hb h4 h5
    go_enter Try.func9, Try.ntmps9
    go_wp2_with fail
    refine (KC.out _).mono ?_
    rintro _ w1 ⟨rfl, hb1⟩
    have hbx : Below W.heap.size W w1 := ((alloc_below W (bxW t b)).alloc (by simp) (bxW 0 0)).trans (hb1.mono (by simp; omega))
    have X1 := Lib.hid (show w1.heap[W.heap.size]? = some (bxW t b) from (hb1.block W.heap.size (by simp; omega)).trans (blk_alloc (blk_new W _) _))
    have Y1 := Lib.hid (show w1.heap[W.heap.size + 1]? = some (bxW 0 0) from (hb1.block (W.heap.size + 1) (by simp)).trans (two_new W _ _))
    have hz1 : W.heap.size + 1 < w1.heap.size := by have := hb1.size; simp at this; omega
    have B1 := Lib.hid hbx
    clear hb1 KC hbx
    go_wp2_with fail
    refine (KI.out _).mono ?_
    rintro _ _ ⟨rfl, rfl⟩
    clear KI
    have e0 := blk_cell X1.out 0 (v := .int .i64 t) rfl
    have e1 := blk_cell X1.out 1 (v := .int .u64 (b : Int)) rfl
    have y0 := blk_cell Y1.out 0 (v := .int .i64 0) rfl
    have y1 := blk_cell Y1.out 1 (v := .int .u64 0) rfl
    have f0 := blk_fr Y1.out 0
    have f1 := blk_fr Y1.out 1
    go_wp2_with fail
    refine (KB.out _).mono ?_
    rintro _ w2 ⟨rfl, hb2⟩
    have X2 := Lib.hid (blk_below X1.out hb2 (by omega))
    have Y2 := Lib.hid (blk_below Y1.out hb2 hz1)
    have B2 := Lib.hid (B1.out.trans (hb2.mono B1.out.size))
    clear hb2 e0 e1 y0 y1 f0 f1 KB
    have e0 := blk_cell X2.out 0 (v := .int .i64 t) rfl
    have e1 := blk_cell X2.out 1 (v := .int .u64 (b : Int)) rfl
    have y0 := blk_cell Y2.out 0 (v := .int .i64 0) rfl
    have y1 := blk_cell Y2.out 1 (v := .int .u64 0) rfl
    have f0 := blk_fr Y2.out 0
    have f1 := blk_fr Y2.out 1
    obtain ⟨V, hV⟩ : ∃ V, V = put2 w2 (W.heap.size + 1) t z := ⟨_, rfl⟩
    have HV := hV ▸ put2_blk Y2.out t z
    have BV := Lib.hid (show Below W.heap.size W V from hV ▸ put2_below B2.out (by omega) t z)
    unfold put2 at hV
    go_wp2_with fail
    rw [← hV]
    have c0 := blk_cell HV 0 (v := .int .i64 t) rfl
    have c1 := blk_cell HV 1 (v := .int .u64 (z : Int)) rfl
    refine bodyPost_ret (v := .tuple #[wiV (t, z), .bool true]) (by simp [results, Try.results9, go_sem, c0, c1]) rfl ⟨by rw [R.out], BV.out⟩
end Go.Proofs.Yticlcjabhemdiaa.Rpl
