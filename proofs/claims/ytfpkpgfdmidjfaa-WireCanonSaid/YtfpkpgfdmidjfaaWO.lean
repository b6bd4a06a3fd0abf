/- The contract of step: both Readers do the same. -/
import Derived.Test.YtfpkpgfdmidjfaaWN
import Derived.Test.YtfpkpgfdmidjfaaWM
set_option linter.unusedVariables false
namespace Go.Proofs.Ytfpkpgfdmidjfaa
open Go.RowKit

/-- After a step: true, and both Readers are again in one state. -/
def OutStep (B b c : Nat) (S : ByteArray) (w : World) (r : Ending) (w' : World) : Prop :=
  r = .returned (.bool true) ∧ ∃ s' e', PB w' b s' e' true ∧ RR w' c S s' e' ∧ Below B w w'

theorem below_gb {B b : Nat} {a w w' : World} (h : Below B a w) (hg : w.grownBy w' (some b)) (hB : B ≤ w.heap.size) (hb : B ≤ b) : Below B a w' :=
  h.grown hg hB fun k hk => by cases hk; exact hb
theorem box_kept {w w' : World} {k i b : Nat} {v : Value} (hg : w.grownBy w' (some b)) (h : w.cell? ⟨k, i, none⟩ = some v) (hne : k ≠ b) : w'.cell? ⟨k, i, none⟩ = some v :=
  World.grownBy.cell hg (a := ⟨k, i, none⟩) h (fun e => hne (Option.some.inj e))
theorem box_new (w : World) (x y z : Value) (T : TypeId) : (w.alloc (Obj.cells #[x, y, z] T)).cell? ⟨w.heap.size, 0, none⟩ = some x ∧ (w.alloc (Obj.cells #[x, y, z] T)).cell? ⟨w.heap.size, 1, none⟩ = some y ∧ (w.alloc (Obj.cells #[x, y, z] T)).cell? ⟨w.heap.size, 2, none⟩ = some z := by
  refine ⟨?_, ?_, ?_⟩ <;> rw [World.cell?_alloc_new] <;> rfl

section
variable {B b c : Nat} {S s : ByteArray} {e : Int} {w : World}

set_option maxRecDepth 100000 in
set_option maxHeartbeats 1000000 in
theorem step0 (m f : Int) (hm : m ≤ 9223372036854775807) (hs : S.size ≤ 100000) (hp : PB w b s e true) (hr : RR w c S s e) (hBb : B ≤ b) (hBc : B ≤ c) (hBw : B ≤ w.heap.size) :
    Calls Try.prog 21 #[pt b, pt c, .agg #[.int .i64 0, .int .i64 m, .int .i64 f]] w (OutStep B b c S w) := by
  have HS := Lib.hid hs
  have HP := Lib.hid hp
  have HR := Lib.hid hr
  have hne := hr.ne hp
  have hbl := hp.lt
  have hcl := hr.lt
  have HZ := Lib.hid (fun h : e = 0 => Nat.le_trans (hr.size h) hs)
  clear hs hp hr
  go_enter Try.func21, Try.ntmps21
  go_wp2_with fail
  obtain ⟨w0, hw0⟩ : ∃ w0, w0 = w.alloc (Obj.cells #[Value.int .i64 0, Value.int .i64 m, Value.int .i64 f] 37) := ⟨_, rfl⟩
  rw [← hw0]
  obtain ⟨x0, x1, x2⟩ := box_new w (.int .i64 0) (.int .i64 m) (.int .i64 f) 37
  rw [← hw0] at x0 x1 x2
  have g0 : w.grownBy w0 none := by rw [hw0]; exact World.grownBy_alloc w _ none
  have P0 := Lib.hid (HP.out.kept g0 (by simp))
  have R0 := Lib.hid (HR.out.kept g0 (by simp))
  have B0 := Lib.hid ((Below.refl B w).grown g0 hBw (fun k hk => by cases hk))
  have z0 : B ≤ w0.heap.size := Nat.le_trans hBw g0.size
  have zw : w.heap.size ≤ w0.heap.size := g0.size
  have hkb : w.heap.size ≠ b := by omega
  have hkc : w.heap.size ≠ c := by omega
  clear hw0 g0
  have L1 := p_int P0.out HZ.out
  have L2 := Lib.hid (fun w' (h : RR w' c S s e) => r_int h HS.out)
  rcases hq : hInt s e with ⟨v, s1, e1⟩
  rw [hq] at L1 L2
  clear hq
  refine L1.mono ?_
  clear L1
  rintro r w1 ⟨rfl, hp, hg⟩
  have P1 := Lib.hid hp
  have R1 := Lib.hid (R0.out.kept hg (fun h => hne (Option.some.inj h).symm))
  have B1 := Lib.hid (below_gb B0.out hg z0 hBb)
  have z1 : B ≤ w1.heap.size := Nat.le_trans z0 hg.size
  have y1 := box_kept hg x1 hkb
  have y2 := box_kept hg x2 hkb
  clear hp hg x0 x1 x2 z0
  go_wp2_with fail
  refine (L2.out _ R1.out).mono ?_
  rintro r w2 ⟨rfl, hr, hg⟩
  have P2 := Lib.hid (P1.out.kept hg (fun h => hne (Option.some.inj h)))
  have R2 := Lib.hid (show RR w2 c S s1 e1 from hr)
  have B2 := Lib.hid (below_gb B1.out hg z1 hBc)
  have z2 : B ≤ w2.heap.size := Nat.le_trans z1 hg.size
  clear hr hg y1 y2 z1
  go_wp2_with fail
  refine (err_live b s1 e1 _ P2.out).mono ?_
  rintro r w' ⟨rfl, rfl⟩
  go_wp2_with fail
  refine (r_err R2.out).mono ?_
  rintro r w' ⟨rfl, rfl⟩
  go_wp2_with fail
  refine (p_left P2.out).mono ?_
  rintro r w' ⟨rfl, rfl⟩
  go_wp2_with fail
  refine (r_left R2.out HS.out).mono ?_
  rintro r w3 ⟨rfl, hd⟩
  have P3 := Lib.hid (P2.out.kept (same_gb hd none) (by simp))
  have R3 := Lib.hid (R2.out.kept (same_gb hd none) (by simp))
  have B3 := Lib.hid (B2.out.trans (same_draw hd B))
  clear hd
  go_wp2_with fail
  refine (p_end P3.out).mono ?_
  rintro r w' ⟨rfl, rfl⟩
  go_wp2_with fail
  refine (r_end R3.out HS.out).mono ?_
  rintro r w4 ⟨rfl, hd⟩
  have P4 := Lib.hid (P3.out.kept (same_gb hd none) (by simp))
  have R4 := Lib.hid (R3.out.kept (same_gb hd none) (by simp))
  have B4 := Lib.hid (B3.out.trans (same_draw hd B))
  clear hd
  go_wp2_with fail
  go_ret
  exact ⟨rfl, s1, e1, P4.out, R4.out, B4.out⟩

set_option maxRecDepth 100000 in
set_option maxHeartbeats 1000000 in
theorem step1 (m f : Int) (hm : m ≤ 9223372036854775807) (hs : S.size ≤ 100000) (hp : PB w b s e true) (hr : RR w c S s e) (hBb : B ≤ b) (hBc : B ≤ c) (hBw : B ≤ w.heap.size) :
    Calls Try.prog 21 #[pt b, pt c, .agg #[.int .i64 1, .int .i64 m, .int .i64 f]] w (OutStep B b c S w) := by
  have HS := Lib.hid hs
  have HP := Lib.hid hp
  have HR := Lib.hid hr
  have hne := hr.ne hp
  have hbl := hp.lt
  have hcl := hr.lt
  have HZ := Lib.hid (fun h : e = 0 => Nat.le_trans (hr.size h) hs)
  clear hs hp hr
  go_enter Try.func21, Try.ntmps21
  go_wp2_with fail
  obtain ⟨w0, hw0⟩ : ∃ w0, w0 = w.alloc (Obj.cells #[Value.int .i64 1, Value.int .i64 m, Value.int .i64 f] 37) := ⟨_, rfl⟩
  rw [← hw0]
  obtain ⟨x0, x1, x2⟩ := box_new w (.int .i64 1) (.int .i64 m) (.int .i64 f) 37
  rw [← hw0] at x0 x1 x2
  have g0 : w.grownBy w0 none := by rw [hw0]; exact World.grownBy_alloc w _ none
  have P0 := Lib.hid (HP.out.kept g0 (by simp))
  have R0 := Lib.hid (HR.out.kept g0 (by simp))
  have B0 := Lib.hid ((Below.refl B w).grown g0 hBw (fun k hk => by cases hk))
  have z0 : B ≤ w0.heap.size := Nat.le_trans hBw g0.size
  have zw : w.heap.size ≤ w0.heap.size := g0.size
  have hkb : w.heap.size ≠ b := by omega
  have hkc : w.heap.size ≠ c := by omega
  clear hw0 g0
  have L1 := p_text m hm P0.out HZ.out
  have L2 := Lib.hid (fun w' (h : RR w' c S s e) => r_text m hm h HS.out)
  rcases hq : hText m s e with ⟨v, s1, e1⟩
  rw [hq] at L1 L2
  clear hq
  refine L1.mono ?_
  clear L1
  rintro r w1 ⟨rfl, hp, hg⟩
  have P1 := Lib.hid hp
  have R1 := Lib.hid (R0.out.kept hg (fun h => hne (Option.some.inj h).symm))
  have B1 := Lib.hid (below_gb B0.out hg z0 hBb)
  have z1 : B ≤ w1.heap.size := Nat.le_trans z0 hg.size
  have y1 := box_kept hg x1 hkb
  have y2 := box_kept hg x2 hkb
  clear hp hg x0 x1 x2 z0
  go_wp2_with fail
  refine (L2.out _ R1.out).mono ?_
  rintro r w2 ⟨rfl, hr, hg⟩
  have P2 := Lib.hid (P1.out.kept hg (fun h => hne (Option.some.inj h)))
  have R2 := Lib.hid (show RR w2 c S s1 e1 from hr)
  have B2 := Lib.hid (below_gb B1.out hg z1 hBc)
  have z2 : B ≤ w2.heap.size := Nat.le_trans z1 hg.size
  clear hr hg y1 y2 z1
  go_wp2_with fail
  refine (err_live b s1 e1 _ P2.out).mono ?_
  rintro r w' ⟨rfl, rfl⟩
  go_wp2_with fail
  refine (r_err R2.out).mono ?_
  rintro r w' ⟨rfl, rfl⟩
  go_wp2_with fail
  refine (p_left P2.out).mono ?_
  rintro r w' ⟨rfl, rfl⟩
  go_wp2_with fail
  refine (r_left R2.out HS.out).mono ?_
  rintro r w3 ⟨rfl, hd⟩
  have P3 := Lib.hid (P2.out.kept (same_gb hd none) (by simp))
  have R3 := Lib.hid (R2.out.kept (same_gb hd none) (by simp))
  have B3 := Lib.hid (B2.out.trans (same_draw hd B))
  clear hd
  go_wp2_with fail
  refine (p_end P3.out).mono ?_
  rintro r w' ⟨rfl, rfl⟩
  go_wp2_with fail
  refine (r_end R3.out HS.out).mono ?_
  rintro r w4 ⟨rfl, hd⟩
  have P4 := Lib.hid (P3.out.kept (same_gb hd none) (by simp))
  have R4 := Lib.hid (R3.out.kept (same_gb hd none) (by simp))
  have B4 := Lib.hid (B3.out.trans (same_draw hd B))
  clear hd
  go_wp2_with fail
  go_ret
  exact ⟨rfl, s1, e1, P4.out, R4.out, B4.out⟩

set_option maxRecDepth 100000 in
set_option maxHeartbeats 1000000 in
theorem step2 (m f : Int) (hm : m ≤ 9223372036854775807) (hs : S.size ≤ 100000) (hp : PB w b s e true) (hr : RR w c S s e) (hBb : B ≤ b) (hBc : B ≤ c) (hBw : B ≤ w.heap.size) :
    Calls Try.prog 21 #[pt b, pt c, .agg #[.int .i64 2, .int .i64 m, .int .i64 f]] w (OutStep B b c S w) := by
  have HS := Lib.hid hs
  have HP := Lib.hid hp
  have HR := Lib.hid hr
  have hne := hr.ne hp
  have hbl := hp.lt
  have hcl := hr.lt
  have HZ := Lib.hid (fun h : e = 0 => Nat.le_trans (hr.size h) hs)
  clear hs hp hr
  go_enter Try.func21, Try.ntmps21
  go_wp2_with fail
  obtain ⟨w0, hw0⟩ : ∃ w0, w0 = w.alloc (Obj.cells #[Value.int .i64 2, Value.int .i64 m, Value.int .i64 f] 37) := ⟨_, rfl⟩
  rw [← hw0]
  obtain ⟨x0, x1, x2⟩ := box_new w (.int .i64 2) (.int .i64 m) (.int .i64 f) 37
  rw [← hw0] at x0 x1 x2
  have g0 : w.grownBy w0 none := by rw [hw0]; exact World.grownBy_alloc w _ none
  have P0 := Lib.hid (HP.out.kept g0 (by simp))
  have R0 := Lib.hid (HR.out.kept g0 (by simp))
  have B0 := Lib.hid ((Below.refl B w).grown g0 hBw (fun k hk => by cases hk))
  have z0 : B ≤ w0.heap.size := Nat.le_trans hBw g0.size
  have zw : w.heap.size ≤ w0.heap.size := g0.size
  have hkb : w.heap.size ≠ b := by omega
  have hkc : w.heap.size ≠ c := by omega
  clear hw0 g0
  have L1 := p_bool P0.out HZ.out
  have L2 := Lib.hid (fun w' (h : RR w' c S s e) => r_bool h HS.out)
  rcases hq : hBool s e with ⟨v, s1, e1⟩
  rw [hq] at L1 L2
  clear hq
  refine L1.mono ?_
  clear L1
  rintro r w1 ⟨rfl, hp, hg⟩
  have P1 := Lib.hid hp
  have R1 := Lib.hid (R0.out.kept hg (fun h => hne (Option.some.inj h).symm))
  have B1 := Lib.hid (below_gb B0.out hg z0 hBb)
  have z1 : B ≤ w1.heap.size := Nat.le_trans z0 hg.size
  have y1 := box_kept hg x1 hkb
  have y2 := box_kept hg x2 hkb
  clear hp hg x0 x1 x2 z0
  go_wp2_with fail
  refine (L2.out _ R1.out).mono ?_
  rintro r w2 ⟨rfl, hr, hg⟩
  have P2 := Lib.hid (P1.out.kept hg (fun h => hne (Option.some.inj h)))
  have R2 := Lib.hid (show RR w2 c S s1 e1 from hr)
  have B2 := Lib.hid (below_gb B1.out hg z1 hBc)
  have z2 : B ≤ w2.heap.size := Nat.le_trans z1 hg.size
  clear hr hg y1 y2 z1
  go_wp2_with fail
  refine (err_live b s1 e1 _ P2.out).mono ?_
  rintro r w' ⟨rfl, rfl⟩
  go_wp2_with fail
  refine (r_err R2.out).mono ?_
  rintro r w' ⟨rfl, rfl⟩
  go_wp2_with fail
  refine (p_left P2.out).mono ?_
  rintro r w' ⟨rfl, rfl⟩
  go_wp2_with fail
  refine (r_left R2.out HS.out).mono ?_
  rintro r w3 ⟨rfl, hd⟩
  have P3 := Lib.hid (P2.out.kept (same_gb hd none) (by simp))
  have R3 := Lib.hid (R2.out.kept (same_gb hd none) (by simp))
  have B3 := Lib.hid (B2.out.trans (same_draw hd B))
  clear hd
  go_wp2_with fail
  refine (p_end P3.out).mono ?_
  rintro r w' ⟨rfl, rfl⟩
  go_wp2_with fail
  refine (r_end R3.out HS.out).mono ?_
  rintro r w4 ⟨rfl, hd⟩
  have P4 := Lib.hid (P3.out.kept (same_gb hd none) (by simp))
  have R4 := Lib.hid (R3.out.kept (same_gb hd none) (by simp))
  have B4 := Lib.hid (B3.out.trans (same_draw hd B))
  clear hd
  go_wp2_with fail
  go_ret
  exact ⟨rfl, s1, e1, P4.out, R4.out, B4.out⟩

set_option maxRecDepth 100000 in
set_option maxHeartbeats 1000000 in
theorem step3 (m f : Int) (hm : m ≤ 9223372036854775807) (hs : S.size ≤ 100000) (hp : PB w b s e true) (hr : RR w c S s e) (hBb : B ≤ b) (hBc : B ≤ c) (hBw : B ≤ w.heap.size) :
    Calls Try.prog 21 #[pt b, pt c, .agg #[.int .i64 3, .int .i64 m, .int .i64 f]] w (OutStep B b c S w) := by
  have HS := Lib.hid hs
  have HP := Lib.hid hp
  have HR := Lib.hid hr
  have hne := hr.ne hp
  have hbl := hp.lt
  have hcl := hr.lt
  have HZ := Lib.hid (fun h : e = 0 => Nat.le_trans (hr.size h) hs)
  clear hs hp hr
  go_enter Try.func21, Try.ntmps21
  go_wp2_with fail
  obtain ⟨w0, hw0⟩ : ∃ w0, w0 = w.alloc (Obj.cells #[Value.int .i64 3, Value.int .i64 m, Value.int .i64 f] 37) := ⟨_, rfl⟩
  rw [← hw0]
  obtain ⟨x0, x1, x2⟩ := box_new w (.int .i64 3) (.int .i64 m) (.int .i64 f) 37
  rw [← hw0] at x0 x1 x2
  have g0 : w.grownBy w0 none := by rw [hw0]; exact World.grownBy_alloc w _ none
  have P0 := Lib.hid (HP.out.kept g0 (by simp))
  have R0 := Lib.hid (HR.out.kept g0 (by simp))
  have B0 := Lib.hid ((Below.refl B w).grown g0 hBw (fun k hk => by cases hk))
  have z0 : B ≤ w0.heap.size := Nat.le_trans hBw g0.size
  have zw : w.heap.size ≤ w0.heap.size := g0.size
  have hkb : w.heap.size ≠ b := by omega
  have hkc : w.heap.size ≠ c := by omega
  clear hw0 g0
  have L1 := p_count m P0.out HZ.out
  have L2 := Lib.hid (fun w' (h : RR w' c S s e) => r_count m h HS.out)
  rcases hq : hCount m s e with ⟨v, s1, e1⟩
  rw [hq] at L1 L2
  clear hq
  refine L1.mono ?_
  clear L1
  rintro r w1 ⟨rfl, hp, hg⟩
  have P1 := Lib.hid hp
  have R1 := Lib.hid (R0.out.kept hg (fun h => hne (Option.some.inj h).symm))
  have B1 := Lib.hid (below_gb B0.out hg z0 hBb)
  have z1 : B ≤ w1.heap.size := Nat.le_trans z0 hg.size
  have y1 := box_kept hg x1 hkb
  have y2 := box_kept hg x2 hkb
  clear hp hg x0 x1 x2 z0
  go_wp2_with fail
  refine (L2.out _ R1.out).mono ?_
  rintro r w2 ⟨rfl, hr, hg⟩
  have P2 := Lib.hid (P1.out.kept hg (fun h => hne (Option.some.inj h)))
  have R2 := Lib.hid (show RR w2 c S s1 e1 from hr)
  have B2 := Lib.hid (below_gb B1.out hg z1 hBc)
  have z2 : B ≤ w2.heap.size := Nat.le_trans z1 hg.size
  clear hr hg y1 y2 z1
  go_wp2_with fail
  refine (err_live b s1 e1 _ P2.out).mono ?_
  rintro r w' ⟨rfl, rfl⟩
  go_wp2_with fail
  refine (r_err R2.out).mono ?_
  rintro r w' ⟨rfl, rfl⟩
  go_wp2_with fail
  refine (p_left P2.out).mono ?_
  rintro r w' ⟨rfl, rfl⟩
  go_wp2_with fail
  refine (r_left R2.out HS.out).mono ?_
  rintro r w3 ⟨rfl, hd⟩
  have P3 := Lib.hid (P2.out.kept (same_gb hd none) (by simp))
  have R3 := Lib.hid (R2.out.kept (same_gb hd none) (by simp))
  have B3 := Lib.hid (B2.out.trans (same_draw hd B))
  clear hd
  go_wp2_with fail
  refine (p_end P3.out).mono ?_
  rintro r w' ⟨rfl, rfl⟩
  go_wp2_with fail
  refine (r_end R3.out HS.out).mono ?_
  rintro r w4 ⟨rfl, hd⟩
  have P4 := Lib.hid (P3.out.kept (same_gb hd none) (by simp))
  have R4 := Lib.hid (R3.out.kept (same_gb hd none) (by simp))
  have B4 := Lib.hid (B3.out.trans (same_draw hd B))
  clear hd
  go_wp2_with fail
  go_ret
  exact ⟨rfl, s1, e1, P4.out, R4.out, B4.out⟩

theorem gInts_len (n : Nat) : ∀ t : ByteArray, t.size ≤ 100000 → (gInts n t).1.length ≤ t.size := by
  induction n with
  | zero => intro t h; simp [gInts]
  | succ n ih =>
    intro t h
    unfold gInts
    by_cases he : (fInt t).2.2 = 0
    · have h1 := fInt_less t h he
      have h2 := ih (fInt t).2.1 (by omega)
      rw [if_neg (by simpa using he)]
      split
      · simp
      · simp; omega
    · rw [if_pos he]; simp
theorem fInts_len (m : Int) (t : ByteArray) (h : t.size ≤ 100000) : (fInts m t).1.length ≤ 100000 := by
  unfold fInts
  have h1 := fCount_size m t h
  have h2 := gInts_len (fCount m t).1.toNat (fCount m t).2.1 (by omega)
  split
  · simp
  · omega
theorem hInts_len (m : Int) (s : ByteArray) (e : Int) (h : e = 0 → s.size ≤ 100000) : (hInts m s e).1.length ≤ 1000000 := by
  unfold hInts
  split
  · have := fInts_len m s (h (by assumption)); omega
  · simp

set_option maxRecDepth 100000 in
set_option maxHeartbeats 1000000 in
theorem step4 (m f : Int) (hm : m ≤ 9223372036854775807) (hs : S.size ≤ 100000) (hp : PB w b s e true) (hr : RR w c S s e) (hBb : B ≤ b) (hBc : B ≤ c) (hBw : B ≤ w.heap.size) :
    Calls Try.prog 21 #[pt b, pt c, .agg #[.int .i64 4, .int .i64 m, .int .i64 f]] w (OutStep B b c S w) := by
  have HS := Lib.hid hs
  have HP := Lib.hid hp
  have HR := Lib.hid hr
  have hne := hr.ne hp
  have hbl := hp.lt
  have hcl := hr.lt
  have HZ := Lib.hid (fun h : e = 0 => Nat.le_trans (hr.size h) hs)
  clear hs hp hr
  have HLEN := Lib.hid (hInts_len m s e HZ.out)
  go_enter Try.func21, Try.ntmps21
  go_wp2_with fail
  obtain ⟨w0, hw0⟩ : ∃ w0, w0 = w.alloc (Obj.cells #[Value.int .i64 4, Value.int .i64 m, Value.int .i64 f] 37) := ⟨_, rfl⟩
  rw [← hw0]
  obtain ⟨x0, x1, x2⟩ := box_new w (.int .i64 4) (.int .i64 m) (.int .i64 f) 37
  rw [← hw0] at x0 x1 x2
  have g0 : w.grownBy w0 none := by rw [hw0]; exact World.grownBy_alloc w _ none
  have P0 := Lib.hid (HP.out.kept g0 (by simp))
  have R0 := Lib.hid (HR.out.kept g0 (by simp))
  have B0 := Lib.hid ((Below.refl B w).grown g0 hBw (fun k hk => by cases hk))
  have z0 : B ≤ w0.heap.size := Nat.le_trans hBw g0.size
  have zw : w.heap.size ≤ w0.heap.size := g0.size
  have hkb : w.heap.size ≠ b := by omega
  have hkc : w.heap.size ≠ c := by omega
  clear hw0 g0
  have L1 := p_ints m hm P0.out HZ.out
  have L2 := Lib.hid (fun w' (h : RR w' c S s e) => r_ints m hm h HS.out)
  have hlen := HLEN.out
  rcases hq : hInts m s e with ⟨l, s1, e1⟩
  rw [hq] at L1 L2 hlen
  clear hq
  refine L1.mono ?_
  clear L1
  rintro r w1 ⟨v1, rfl, hp, hg, hown⟩
  have P1 := Lib.hid hp
  have R1 := Lib.hid (R0.out.kept hg (fun h => hne (Option.some.inj h).symm))
  have B1 := Lib.hid (below_gb B0.out hg z0 hBb)
  have z1 : B ≤ w1.heap.size := Nat.le_trans z0 hg.size
  have O1 := Lib.hid hown
  have y1 := box_kept hg x1 hkb
  have y2 := box_kept hg x2 hkb
  have zz : w0.heap.size ≤ w1.heap.size := hg.size
  clear hp hg x0 x1 x2 z0 hown
  go_wp2_with fail
  refine (L2.out _ R1.out).mono ?_
  rintro r w2 ⟨v2, rfl, hr, hg, hown⟩
  have P2 := Lib.hid (P1.out.kept hg (fun h => hne (Option.some.inj h)))
  have R2 := Lib.hid (show RR w2 c S s1 e1 from hr)
  have B2 := Lib.hid (below_gb B1.out hg z1 hBc)
  have z2 : B ≤ w2.heap.size := Nat.le_trans z1 hg.size
  have O1b := O1.out.kept hg (by
    rcases hob : v1.ownBlock with _ | g
    · exact Or.inl rfl
    · right; have := (O1.out.lt g hob).1; intro he; have := Option.some.inj he; omega)
  obtain ⟨A1, c1, e1', i1⟩ := own_ints O1b rfl
  obtain ⟨A2, c2, e2', i2⟩ := own_ints hown rfl
  have I1 := Lib.hid i1
  have I2 := Lib.hid i2
  subst e1' e2'
  clear hr hg y1 y2 z1 O1b hown i1 i2
  go_wp2_with fail
  refine (same_any A1 A2 c1 c2 l w2 hlen I1.out I2.out).mono ?_
  rintro r w2b ⟨rfl, hd⟩
  have P2b := P2.out.kept (same_gb hd none) (by simp)
  have R2b := R2.out.kept (same_gb hd none) (by simp)
  have B2b := B2.out.trans (same_draw hd B)
  clear P2 R2 B2 I1 I2
  have P2 := Lib.hid P2b
  have R2 := Lib.hid R2b
  have B2 := Lib.hid B2b
  clear P2b R2b B2b hd
  go_wp2_with fail
  refine (err_live b s1 e1 _ P2.out).mono ?_
  rintro r w' ⟨rfl, rfl⟩
  go_wp2_with fail
  refine (r_err R2.out).mono ?_
  rintro r w' ⟨rfl, rfl⟩
  go_wp2_with fail
  refine (p_left P2.out).mono ?_
  rintro r w' ⟨rfl, rfl⟩
  go_wp2_with fail
  refine (r_left R2.out HS.out).mono ?_
  rintro r w3 ⟨rfl, hd⟩
  have P3 := Lib.hid (P2.out.kept (same_gb hd none) (by simp))
  have R3 := Lib.hid (R2.out.kept (same_gb hd none) (by simp))
  have B3 := Lib.hid (B2.out.trans (same_draw hd B))
  clear hd
  go_wp2_with fail
  refine (p_end P3.out).mono ?_
  rintro r w' ⟨rfl, rfl⟩
  go_wp2_with fail
  refine (r_end R3.out HS.out).mono ?_
  rintro r w4 ⟨rfl, hd⟩
  have P4 := Lib.hid (P3.out.kept (same_gb hd none) (by simp))
  have R4 := Lib.hid (R3.out.kept (same_gb hd none) (by simp))
  have B4 := Lib.hid (B3.out.trans (same_draw hd B))
  clear hd
  go_wp2_with fail
  go_ret
  exact ⟨rfl, s1, e1, P4.out, R4.out, B4.out⟩

set_option maxRecDepth 100000 in
set_option maxHeartbeats 1000000 in
theorem step5 (m f : Int) (hm : m ≤ 9223372036854775807) (hs : S.size ≤ 100000) (hp : PB w b s e true) (hr : RR w c S s e) (hBb : B ≤ b) (hBc : B ≤ c) (hBw : B ≤ w.heap.size) :
    Calls Try.prog 21 #[pt b, pt c, .agg #[.int .i64 5, .int .i64 m, .int .i64 f]] w (OutStep B b c S w) := by
  have HS := Lib.hid hs
  have HP := Lib.hid hp
  have HR := Lib.hid hr
  have hne := hr.ne hp
  have hbl := hp.lt
  have hcl := hr.lt
  have HZ := Lib.hid (fun h : e = 0 => Nat.le_trans (hr.size h) hs)
  clear hs hp hr
  go_enter Try.func21, Try.ntmps21
  go_wp2_with fail
  obtain ⟨w0, hw0⟩ : ∃ w0, w0 = w.alloc (Obj.cells #[Value.int .i64 5, Value.int .i64 m, Value.int .i64 f] 37) := ⟨_, rfl⟩
  rw [← hw0]
  obtain ⟨x0, x1, x2⟩ := box_new w (.int .i64 5) (.int .i64 m) (.int .i64 f) 37
  rw [← hw0] at x0 x1 x2
  have g0 : w.grownBy w0 none := by rw [hw0]; exact World.grownBy_alloc w _ none
  have P0 := Lib.hid (HP.out.kept g0 (by simp))
  have R0 := Lib.hid (HR.out.kept g0 (by simp))
  have B0 := Lib.hid ((Below.refl B w).grown g0 hBw (fun k hk => by cases hk))
  have z0 : B ≤ w0.heap.size := Nat.le_trans hBw g0.size
  have zw : w.heap.size ≤ w0.heap.size := g0.size
  have hkb : w.heap.size ≠ b := by omega
  have hkc : w.heap.size ≠ c := by omega
  clear hw0 g0
  have L1 := p_fail f P0.out
  have L2 := Lib.hid (fun w' (h : RR w' c S s e) => r_fail f h)
  obtain ⟨s1, hs1⟩ : ∃ s1, s1 = s := ⟨_, rfl⟩
  obtain ⟨e1, he1⟩ : ∃ e1, e1 = hFail f e := ⟨_, rfl⟩
  rw [← he1] at L1 L2
  clear he1
  refine L1.mono ?_
  clear L1
  rintro r w1 ⟨rfl, hp, hg⟩
  have P1 := Lib.hid hp
  have R1 := Lib.hid (R0.out.kept hg (fun h => hne (Option.some.inj h).symm))
  have B1 := Lib.hid (below_gb B0.out hg z0 hBb)
  have z1 : B ≤ w1.heap.size := Nat.le_trans z0 hg.size
  have y1 := box_kept hg x1 hkb
  have y2 := box_kept hg x2 hkb
  clear hp hg x0 x1 x2 z0
  go_wp2_with fail
  refine (L2.out _ R1.out).mono ?_
  rintro r w2 ⟨rfl, hr, hg⟩
  have P2 := Lib.hid (P1.out.kept hg (fun h => hne (Option.some.inj h)))
  have R2 := Lib.hid (show RR w2 c S s e1 from hr)
  have B2 := Lib.hid (below_gb B1.out hg z1 hBc)
  have z2 : B ≤ w2.heap.size := Nat.le_trans z1 hg.size
  subst hs1
  clear hr hg y1 y2 z1
  go_wp2_with fail
  refine (err_live b s1 e1 _ P2.out).mono ?_
  rintro r w' ⟨rfl, rfl⟩
  go_wp2_with fail
  refine (r_err R2.out).mono ?_
  rintro r w' ⟨rfl, rfl⟩
  go_wp2_with fail
  refine (p_left P2.out).mono ?_
  rintro r w' ⟨rfl, rfl⟩
  go_wp2_with fail
  refine (r_left R2.out HS.out).mono ?_
  rintro r w3 ⟨rfl, hd⟩
  have P3 := Lib.hid (P2.out.kept (same_gb hd none) (by simp))
  have R3 := Lib.hid (R2.out.kept (same_gb hd none) (by simp))
  have B3 := Lib.hid (B2.out.trans (same_draw hd B))
  clear hd
  go_wp2_with fail
  refine (p_end P3.out).mono ?_
  rintro r w' ⟨rfl, rfl⟩
  go_wp2_with fail
  refine (r_end R3.out HS.out).mono ?_
  rintro r w4 ⟨rfl, hd⟩
  have P4 := Lib.hid (P3.out.kept (same_gb hd none) (by simp))
  have R4 := Lib.hid (R3.out.kept (same_gb hd none) (by simp))
  have B4 := Lib.hid (B3.out.trans (same_draw hd B))
  clear hd
  go_wp2_with fail
  go_ret
  exact ⟨rfl, s1, e1, P4.out, R4.out, B4.out⟩

set_option maxRecDepth 100000 in
set_option maxHeartbeats 1000000 in
theorem stepx (k m f : Int) (hk : k ≠ 0 ∧ k ≠ 1 ∧ k ≠ 2 ∧ k ≠ 3 ∧ k ≠ 4 ∧ k ≠ 5) (hs : S.size ≤ 100000) (hp : PB w b s e true) (hr : RR w c S s e) (hBb : B ≤ b) (hBc : B ≤ c) (hBw : B ≤ w.heap.size) :
    Calls Try.prog 21 #[pt b, pt c, .agg #[.int .i64 k, .int .i64 m, .int .i64 f]] w (OutStep B b c S w) := by
  obtain ⟨k0, k1, k2, k3, k4, k5⟩ := hk
  have j0 : (k == 0) = false := by simpa using k0
  have j1 : (k == 1) = false := by simpa using k1
  have j2 : (k == 2) = false := by simpa using k2
  have j3 : (k == 3) = false := by simpa using k3
  have j4 : (k == 4) = false := by simpa using k4
  have j5 : (k == 5) = false := by simpa using k5
  clear k0 k1 k2 k3 k4 k5
  have HS := Lib.hid hs
  have HP := Lib.hid hp
  have HR := Lib.hid hr
  have hne := hr.ne hp
  have hbl := hp.lt
  have hcl := hr.lt
  have HZ := Lib.hid (fun h : e = 0 => Nat.le_trans (hr.size h) hs)
  clear hs hp hr
  go_enter Try.func21, Try.ntmps21
  go_wp2_with fail
  obtain ⟨w0, hw0⟩ : ∃ w0, w0 = w.alloc (Obj.cells #[Value.int .i64 k, Value.int .i64 m, Value.int .i64 f] 37) := ⟨_, rfl⟩
  rw [← hw0]
  obtain ⟨x0, x1, x2⟩ := box_new w (.int .i64 k) (.int .i64 m) (.int .i64 f) 37
  rw [← hw0] at x0 x1 x2
  have g0 : w.grownBy w0 none := by rw [hw0]; exact World.grownBy_alloc w _ none
  have P0 := Lib.hid (HP.out.kept g0 (by simp))
  have R0 := Lib.hid (HR.out.kept g0 (by simp))
  have B0 := Lib.hid ((Below.refl B w).grown g0 hBw (fun k hk => by cases hk))
  have z0 : B ≤ w0.heap.size := Nat.le_trans hBw g0.size
  have zw : w.heap.size ≤ w0.heap.size := g0.size
  have hkb : w.heap.size ≠ b := by omega
  have hkc : w.heap.size ≠ c := by omega
  clear hw0 g0
  obtain ⟨w2, hw2⟩ : ∃ w2, w2 = w0 := ⟨_, rfl⟩
  have P2 := P0
  have R2 := R0
  have B2 := B0
  obtain ⟨s1, hs1⟩ : ∃ s1, s1 = s := ⟨_, rfl⟩
  obtain ⟨e1, he1⟩ : ∃ e1, e1 = e := ⟨_, rfl⟩
  subst hw2 hs1 he1
  clear x0 x1 x2
  refine (err_live b s1 e1 _ P2.out).mono ?_
  rintro r w' ⟨rfl, rfl⟩
  go_wp2_with fail
  refine (r_err R2.out).mono ?_
  rintro r w' ⟨rfl, rfl⟩
  go_wp2_with fail
  refine (p_left P2.out).mono ?_
  rintro r w' ⟨rfl, rfl⟩
  go_wp2_with fail
  refine (r_left R2.out HS.out).mono ?_
  rintro r w3 ⟨rfl, hd⟩
  have P3 := Lib.hid (P2.out.kept (same_gb hd none) (by simp))
  have R3 := Lib.hid (R2.out.kept (same_gb hd none) (by simp))
  have B3 := Lib.hid (B2.out.trans (same_draw hd B))
  clear hd
  go_wp2_with fail
  refine (p_end P3.out).mono ?_
  rintro r w' ⟨rfl, rfl⟩
  go_wp2_with fail
  refine (r_end R3.out HS.out).mono ?_
  rintro r w4 ⟨rfl, hd⟩
  have P4 := Lib.hid (P3.out.kept (same_gb hd none) (by simp))
  have R4 := Lib.hid (R3.out.kept (same_gb hd none) (by simp))
  have B4 := Lib.hid (B3.out.trans (same_draw hd B))
  clear hd
  go_wp2_with fail
  go_ret
  exact ⟨rfl, s1, e1, P4.out, R4.out, B4.out⟩

theorem step_any (d : OpD) (hs : S.size ≤ 100000) (hm : d.most ≤ 9223372036854775807) (hp : PB w b s e true) (hr : RR w c S s e) (hBb : B ≤ b) (hBc : B ≤ c) (hBw : B ≤ w.heap.size) :
    Calls Try.prog 21 #[pt b, pt c, .agg #[.int .i64 d.kind, .int .i64 d.most, .int .i64 d.err]] w (OutStep B b c S w) := by
  obtain ⟨k, m, f⟩ := d
  by_cases h0 : k = 0
  · subst h0; exact step0 m f hm hs hp hr hBb hBc hBw
  by_cases h1 : k = 1
  · subst h1; exact step1 m f hm hs hp hr hBb hBc hBw
  by_cases h2 : k = 2
  · subst h2; exact step2 m f hm hs hp hr hBb hBc hBw
  by_cases h3 : k = 3
  · subst h3; exact step3 m f hm hs hp hr hBb hBc hBw
  by_cases h4 : k = 4
  · subst h4; exact step4 m f hm hs hp hr hBb hBc hBw
  by_cases h5 : k = 5
  · subst h5; exact step5 m f hm hs hp hr hBb hBc hBw
  exact stepx k m f ⟨h0, h1, h2, h3, h4, h5⟩ hs hp hr hBb hBc hBw
end
end Go.Proofs.Ytfpkpgfdmidjfaa

