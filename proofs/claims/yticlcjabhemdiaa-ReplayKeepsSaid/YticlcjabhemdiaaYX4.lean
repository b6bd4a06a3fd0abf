/- Package replay: Seal, readPayload. -/
import Derived.Test.YticlcjabhemdiaaYX3
import Derived.Test.YticlcjabhemdiaaYD
set_option linter.unusedVariables false
namespace Go.Proofs.Yticlcjabhemdiaa.Rpl
open Go.RowKit

set_option maxRecDepth 100000 in
set_option maxHeartbeats 2000000 in
theorem pseal_any (k : Nat) (node n : Int) (s : ByteArray) (W : World) (hk : k < 18446744073709551616) (h1 : I64 node) (h2 : I64 n) (hs : s.size ≤ 20000) :
    Calls Try.prog 14 #[.int .u64 (k : Int), .int .i64 node, .int .i64 n, .string s] W (OutSl W (sl k node n s)) := by
  have KH := Lib.hid (fun W => pin_any node n W)
  unfold OutB at KH
  by_cases c : Hd node n
  rotate_left
  · have R := Lib.hid (show sl k node n s = _ from if_pos (by unfold Hd In at c; omega))
    rw [df c] at KH
    clear c
    go_enter Try.func14, Try.ntmps14
    go_wp2_with fail
    refine (KH.out _).mono ?_
    rintro _ w0 ⟨rfl, hb⟩
    have B0 := Lib.hid (box_below hb)
    clear hb KH
    go_wp2_with fail
    go_ret2
    exact outSl R.out B0.out
  rw [dt c] at KH
  have e0 : sl k node n s = if 1000 < s.size then (⟨#[]⟩, 3) else (Digest.bs (Digest.seald k (pay node n s).data.toList), 0) := if_neg (by unfold Hd In at c; omega)
  clear c
  by_cases c5 : 1000 < s.size
  · have d5 : decide ((1000 : Int) < (s.size : Int)) = true := dt (by omega)
    have R := Lib.hid (e0.trans (if_pos c5))
    clear e0
    go_enter Try.func14, Try.ntmps14
    go_wp2_with fail
    refine (KH.out _).mono ?_
    rintro _ w0 ⟨rfl, hb⟩
    have B0 := Lib.hid (box_below hb)
    clear hb KH
    go_wp2_with fail
    go_ret2
    exact outSl R.out B0.out
  have d5 : decide ((1000 : Int) < (s.size : Int)) = false := df (by omega)
  have R := Lib.hid (e0.trans (if_neg c5))
  have KI := Lib.hid (fun W => Wire.int_any node W h1)
  have KN := Lib.hid (fun W => Wire.int_any n W h2)
  have KT := Lib.hid (fun W => Wire.text_any s W (by omega))
  have KS := Lib.hid (fun W => Digest.seal_any k (pay node n s) W hk (by have := pay_size node n s; omega))
  have z1 := enI_size node
  have z2 := enI_size n
  have z3 := enT_size s
  clear e0
  generalize Digest.bs (Digest.seald k (pay node n s).data.toList) = r at *
  unfold pay at KS
  unfold Wire.OutS at KI KN KT
  generalize Wire.bs (Wire.enI node) = a1 at *
  generalize Wire.bs (Wire.enI n) = a2 at *
  generalize Wire.bs (Wire.enT s) = a3 at *
  go_enter Try.func14, Try.ntmps14
  go_wp2_with fail
  refine (KH.out _).mono ?_
  rintro _ w0 ⟨rfl, hb⟩
  have B0 := Lib.hid (box_below hb)
  clear hb KH
  go_wp2_with fail
  refine (KI.out _).mono ?_
  rintro _ w1 ⟨rfl, hb⟩
  have B1 := Lib.hid (B0.out.trans (hb.mono B0.out.size))
  clear hb
  go_wp2_with fail
  refine (KN.out _).mono ?_
  rintro _ w2 ⟨rfl, hb⟩
  have B2 := Lib.hid (B1.out.trans (hb.mono B1.out.size))
  clear hb
  go_wp2_with fail
  refine (KT.out _).mono ?_
  rintro _ w3 ⟨rfl, hb⟩
  have B3 := Lib.hid (B2.out.trans (hb.mono B2.out.size))
  clear hb
  go_wp2_with fail
  refine (KS.out _).mono ?_
  rintro _ w4 ⟨rfl, hb⟩
  have B4 := Lib.hid (B3.out.trans (hb.mono B3.out.size))
  clear hb
  go_wp2_with fail
  go_ret2
  exact outSl R.out B4.out
theorem fInt_size {p r : ByteArray} {v e : Int} (hp : p.size ≤ 100000) (h : Wire.fInt p = (v, r, e)) : r.size ≤ 100000 := by
  have e1 : (Wire.fInt p).2.1 = r := by rw [h]
  rw [← e1]
  unfold Wire.fInt
  simp
  omega
abbrev bxH (a n : Int) : Obj := .cells #[.int .i64 a, .int .i64 n] 50
def putH (w : World) (k : Nat) (a n : Int) : World := (w.setCell ⟨k, 0, none⟩ (.int .i64 a)).setCell ⟨k, 1, none⟩ (.int .i64 n)
theorem putH_blk {w : World} {k : Nat} {t0 b0 : Int} (h : w.heap[k]? = some (bxH t0 b0)) (t b : Int) : (putH w k t b).heap[k]? = some (bxH t b) := by
  have h1 := blk_set h 0 (.int .i64 t)
  rw [show (#[.int .i64 t0, .int .i64 b0] : Array Value).setIfInBounds 0 (.int .i64 t) = #[.int .i64 t, .int .i64 b0] from rfl] at h1
  have h2 := blk_set h1 1 (.int .i64 b)
  rw [show (#[.int .i64 t, .int .i64 b0] : Array Value).setIfInBounds 1 (.int .i64 b) = #[.int .i64 t, .int .i64 b] from rfl] at h2
  exact h2
theorem putH_below {B : Nat} {a w : World} (h : Below B a w) {k : Nat} (hk : B ≤ k) (t b : Int) : Below B a (putH w k t b) := (h.setCell hk _).setCell hk _
/-- What readPayload gives: the numbers, the text, the error. -/
def OutRd (W : World) (p : ByteArray) (e : Ending) (W' : World) : Prop :=
  ∃ a n s, e = .returned (.tuple #[.agg #[.int .i64 a, .int .i64 n], .string s, .int .i64 (rdP p).2.2.2]) ∧ Below W.heap.size W W' ∧ ((rdP p).2.2.2 = 0 → rdP p = (a, n, s, 0))
theorem outRd {W W' : World} {p s : ByteArray} {a n e : Int} (h : (rdP p).2.2.2 = e) (hb : Below W.heap.size W W') (h2 : e = 0 → rdP p = (a, n, s, 0)) : OutRd W p (.returned (.tuple #[.agg #[.int .i64 a, .int .i64 n], .string s, .int .i64 e])) W' := by
  subst h; exact ⟨a, n, s, rfl, hb, h2⟩
set_option maxRecDepth 100000 in
set_option maxHeartbeats 4000000 in
theorem pread_any (p : ByteArray) (W : World) (hp : p.size ≤ 100000) : Calls Try.prog 32 #[.string p] W (OutRd W p) := by
  have KN := Lib.hid (fun W => Wire.new_any p W)
  obtain ⟨v1, r1, e1, hv1⟩ : ∃ v r e, Wire.fInt p = (v, r, e) := ⟨_, _, _, rfl⟩
  obtain ⟨v2, r2, e2, hv2⟩ : ∃ v r e, Wire.fInt r1 = (v, r, e) := ⟨_, _, _, rfl⟩
  obtain ⟨tx, r3, e3, hv3⟩ : ∃ v r e, Wire.fText 1000 r2 = (v, r, e) := ⟨_, _, _, rfl⟩
  have RP := rdP_ways hv1 hv2 hv3
  have hr1 := fInt_size hp hv1
  have hr2 := fInt_size hr1 hv2
  have S1 := Lib.hid (fun c w h => (by have := Wire.live_int c p w hp h; rw [hv1] at this; exact this : Calls Try.prog 44 #[Wire.pt c] w (Wire.Out c w (.int .i64 v1) r1 e1)))
  have S2 := Lib.hid (fun c w h => (by have := Wire.live_int c r1 w hr1 h; rw [hv2] at this; exact this : Calls Try.prog 44 #[Wire.pt c] w (Wire.Out c w (.int .i64 v2) r2 e2)))
  have S3 := Lib.hid (fun c w h => (by have := Wire.live_text c 1000 r2 w hr2 (by decide) h; rw [hv3] at this; exact this : Calls Try.prog 45 #[Wire.pt c, .int .i64 1000] w (Wire.Out c w (.string tx) r3 e3)))
  unfold Wire.Out at S1 S2 S3
  clear hv1 hv2 hv3 hr1 hr2 hp
  by_cases h3 : e1 ≠ 0
  · rw [if_pos h3] at RP
    have R := Lib.hid (show (rdP p).2.2.2 = e1 ∧ (e1 = 0 → rdP p = (v1, 0, ByteArray.empty, 0)) from ⟨by rw [RP], fun h => absurd h h3⟩)
    clear RP S2 S3
    go_enter Try.func32, Try.ntmps32
    go_wp2_with fail
    refine (KN.out _).mono ?_
    rintro _ w1 ⟨rfl, hR, hb1⟩
    have B1 := Lib.hid (box_below hb1)
    have Y1 := Lib.hid (show w1.heap[W.heap.size]? = some (bxH 0 0) from (hb1.block W.heap.size (by simp)).trans (blk_new W _))
    obtain ⟨c, hc⟩ : ∃ c, c = (W.alloc (bxH 0 0)).heap.size := ⟨_, rfl⟩
    have hc1 : W.heap.size < c := by rw [hc]; simp
    rw [← hc] at hR ⊢
    have H1 := Lib.hid hR
    clear hR hb1 KN hc
    go_wp2_with fail
    refine (S1.out c _ H1.out).mono ?_
    rintro _ w2 ⟨rfl, hR, hg⟩
    have Y2 := Lib.hid (blk_grown Y1.out hg (fun e => by cases e; omega))
    have B2 := Lib.hid (below_gr B1.out hg B1.out.size (by omega))
    have H2 := Lib.hid hR
    clear hR hg
    go_wp2_with fail
    refine (Wire.dead_int (Wire.pt c) _ e1 (Wire.pb_dead H2.out h3)).mono ?_
    rintro _ _ ⟨rfl, rfl⟩
    go_wp2_with fail
    obtain ⟨w3, hw⟩ : ∃ w3, w3 = w2.alloc (bxH v1 0) := ⟨_, rfl⟩
    obtain ⟨m, hm⟩ : ∃ m, m = w2.heap.size := ⟨_, rfl⟩
    have hcm : c < m := by rw [hm]; exact H2.out.lt
    have hWm : W.heap.size < m := by omega
    have Z3 := Lib.hid (show w3.heap[m]? = some (bxH v1 0) by rw [hw, hm]; exact blk_new _ _)
    have Y3 := Lib.hid (show w3.heap[W.heap.size]? = some (bxH 0 0) by rw [hw]; exact blk_alloc Y2.out _)
    have B3 := Lib.hid (show Below W.heap.size W w3 by rw [hw]; exact B2.out.alloc B2.out.size _)
    have H3 := Lib.hid (show Wire.PB w3 c r1 e1 true by rw [hw]; exact H2.out.below (alloc_below _ _) H2.out.lt)
    rw [← hw, ← hm]
    clear hw hm
    go_wp2_with fail
    refine (Wire.dead_text (Wire.pt c) _ e1 1000 (Wire.pb_dead H3.out h3)).mono ?_
    rintro _ _ ⟨rfl, rfl⟩
    have z0 := blk_cell Z3.out 0 (v := .int .i64 v1) rfl
    have z1 := blk_cell Z3.out 1 (v := .int .i64 0) rfl
    have y0 := blk_cell Y3.out 0 (v := .int .i64 0) rfl
    have y1 := blk_cell Y3.out 1 (v := .int .i64 0) rfl
    have f0 := blk_fr Y3.out 0
    have f1 := blk_fr Y3.out 1
    go_wp2_with fail
    go_region_with (go_at_call 46; refine (Wire.dead_end (Wire.pt c) _ e1 (Wire.pb_dead (show Wire.PB (w3.drewN 1) c _ e1 true from H3.out) h3)).mono ?_; rintro _ _ ⟨rfl, rfl⟩)
    all_goals
      obtain ⟨V, hV⟩ : ∃ V, V = putH (w3.drewN 1) W.heap.size v1 0 := ⟨_, rfl⟩
      have HV := hV ▸ putH_blk (show (w3.drewN 1).heap[W.heap.size]? = some (bxH 0 0) from Y3.out) v1 0
      have BV := Lib.hid (show Below W.heap.size W V from hV ▸ putH_below (show Below W.heap.size W (w3.drewN 1) from below_drewN B3.out 1) (by omega) v1 0)
      unfold putH at hV
      rw [← hV]
      have c0 := blk_cell HV 0 (v := .int .i64 v1) rfl
      have c1 := blk_cell HV 1 (v := .int .i64 0) rfl
      clear hV
      go_wp2_with fail
      refine bodyPost_ret (v := .tuple #[.agg #[.int .i64 v1, .int .i64 0], .string ByteArray.empty, .int .i64 e1]) (by simp [results, Try.results32, go_sem, c0, c1]) rfl (outRd R.out.1 BV.out R.out.2)
  obtain rfl : e1 = 0 := by omega
  rw [if_neg h3] at RP
  clear h3
  by_cases h4 : e2 ≠ 0
  · rw [if_pos h4] at RP
    have R := Lib.hid (show (rdP p).2.2.2 = e2 ∧ (e2 = 0 → rdP p = (v1, v2, ByteArray.empty, 0)) from ⟨by rw [RP], fun h => absurd h h4⟩)
    clear RP S3
    go_enter Try.func32, Try.ntmps32
    go_wp2_with fail
    refine (KN.out _).mono ?_
    rintro _ w1 ⟨rfl, hR, hb1⟩
    have B1 := Lib.hid (box_below hb1)
    have Y1 := Lib.hid (show w1.heap[W.heap.size]? = some (bxH 0 0) from (hb1.block W.heap.size (by simp)).trans (blk_new W _))
    obtain ⟨c, hc⟩ : ∃ c, c = (W.alloc (bxH 0 0)).heap.size := ⟨_, rfl⟩
    have hc1 : W.heap.size < c := by rw [hc]; simp
    rw [← hc] at hR ⊢
    have H1 := Lib.hid hR
    clear hR hb1 KN hc
    go_wp2_with fail
    refine (S1.out c _ H1.out).mono ?_
    rintro _ w2 ⟨rfl, hR, hg⟩
    have Y2 := Lib.hid (blk_grown Y1.out hg (fun e => by cases e; omega))
    have B2 := Lib.hid (below_gr B1.out hg B1.out.size (by omega))
    have H2 := Lib.hid hR
    clear hR hg
    go_wp2_with fail
    refine (S2.out c _ H2.out).mono ?_
    rintro _ w3 ⟨rfl, hR, hg⟩
    have Y3 := Lib.hid (blk_grown Y2.out hg (fun e => by cases e; omega))
    have B3 := Lib.hid (below_gr B2.out hg B2.out.size (by omega))
    have H3 := Lib.hid hR
    clear hR hg
    go_wp2_with fail
    obtain ⟨w4, hw⟩ : ∃ w4, w4 = w3.alloc (bxH v1 v2) := ⟨_, rfl⟩
    obtain ⟨m, hm⟩ : ∃ m, m = w3.heap.size := ⟨_, rfl⟩
    have hcm : c < m := by rw [hm]; exact H3.out.lt
    have hWm : W.heap.size < m := by omega
    have Z4 := Lib.hid (show w4.heap[m]? = some (bxH v1 v2) by rw [hw, hm]; exact blk_new _ _)
    have Y4 := Lib.hid (show w4.heap[W.heap.size]? = some (bxH 0 0) by rw [hw]; exact blk_alloc Y3.out _)
    have B4 := Lib.hid (show Below W.heap.size W w4 by rw [hw]; exact B3.out.alloc B3.out.size _)
    have H4 := Lib.hid (show Wire.PB w4 c r2 e2 true by rw [hw]; exact H3.out.below (alloc_below _ _) H3.out.lt)
    rw [← hw, ← hm]
    clear hw hm
    go_wp2_with fail
    refine (Wire.dead_text (Wire.pt c) _ e2 1000 (Wire.pb_dead H4.out h4)).mono ?_
    rintro _ _ ⟨rfl, rfl⟩
    have z0 := blk_cell Z4.out 0 (v := .int .i64 v1) rfl
    have z1 := blk_cell Z4.out 1 (v := .int .i64 v2) rfl
    have y0 := blk_cell Y4.out 0 (v := .int .i64 0) rfl
    have y1 := blk_cell Y4.out 1 (v := .int .i64 0) rfl
    have f0 := blk_fr Y4.out 0
    have f1 := blk_fr Y4.out 1
    go_wp2_with fail
    go_region_with (go_at_call 46; refine (Wire.dead_end (Wire.pt c) _ e2 (Wire.pb_dead (show Wire.PB (w4.drewN 1) c _ e2 true from H4.out) h4)).mono ?_; rintro _ _ ⟨rfl, rfl⟩)
    all_goals
      obtain ⟨V, hV⟩ : ∃ V, V = putH (w4.drewN 1) W.heap.size v1 v2 := ⟨_, rfl⟩
      have HV := hV ▸ putH_blk (show (w4.drewN 1).heap[W.heap.size]? = some (bxH 0 0) from Y4.out) v1 v2
      have BV := Lib.hid (show Below W.heap.size W V from hV ▸ putH_below (show Below W.heap.size W (w4.drewN 1) from below_drewN B4.out 1) (by omega) v1 v2)
      unfold putH at hV
      rw [← hV]
      have c0 := blk_cell HV 0 (v := .int .i64 v1) rfl
      have c1 := blk_cell HV 1 (v := .int .i64 v2) rfl
      clear hV
      go_wp2_with fail
      refine bodyPost_ret (v := .tuple #[.agg #[.int .i64 v1, .int .i64 v2], .string ByteArray.empty, .int .i64 e2]) (by simp [results, Try.results32, go_sem, c0, c1]) rfl (outRd R.out.1 BV.out R.out.2)
  obtain rfl : e2 = 0 := by omega
  rw [if_neg h4] at RP
  clear h4
  by_cases h5 : e3 ≠ 0
  · rw [if_pos h5] at RP
    have R := Lib.hid (show (rdP p).2.2.2 = e3 ∧ (e3 = 0 → rdP p = (v1, v2, tx, 0)) from ⟨by rw [RP], fun h => absurd h h5⟩)
    clear RP
    go_enter Try.func32, Try.ntmps32
    go_wp2_with fail
    refine (KN.out _).mono ?_
    rintro _ w1 ⟨rfl, hR, hb1⟩
    have B1 := Lib.hid (box_below hb1)
    have Y1 := Lib.hid (show w1.heap[W.heap.size]? = some (bxH 0 0) from (hb1.block W.heap.size (by simp)).trans (blk_new W _))
    obtain ⟨c, hc⟩ : ∃ c, c = (W.alloc (bxH 0 0)).heap.size := ⟨_, rfl⟩
    have hc1 : W.heap.size < c := by rw [hc]; simp
    rw [← hc] at hR ⊢
    have H1 := Lib.hid hR
    clear hR hb1 KN hc
    go_wp2_with fail
    refine (S1.out c _ H1.out).mono ?_
    rintro _ w2 ⟨rfl, hR, hg⟩
    have Y2 := Lib.hid (blk_grown Y1.out hg (fun e => by cases e; omega))
    have B2 := Lib.hid (below_gr B1.out hg B1.out.size (by omega))
    have H2 := Lib.hid hR
    clear hR hg
    go_wp2_with fail
    refine (S2.out c _ H2.out).mono ?_
    rintro _ w3 ⟨rfl, hR, hg⟩
    have Y3 := Lib.hid (blk_grown Y2.out hg (fun e => by cases e; omega))
    have B3 := Lib.hid (below_gr B2.out hg B2.out.size (by omega))
    have H3 := Lib.hid hR
    clear hR hg
    go_wp2_with fail
    obtain ⟨w4, hw⟩ : ∃ w4, w4 = w3.alloc (bxH v1 v2) := ⟨_, rfl⟩
    obtain ⟨m, hm⟩ : ∃ m, m = w3.heap.size := ⟨_, rfl⟩
    have hcm : c < m := by rw [hm]; exact H3.out.lt
    have hWm : W.heap.size < m := by omega
    have Z4 := Lib.hid (show w4.heap[m]? = some (bxH v1 v2) by rw [hw, hm]; exact blk_new _ _)
    have Y4 := Lib.hid (show w4.heap[W.heap.size]? = some (bxH 0 0) by rw [hw]; exact blk_alloc Y3.out _)
    have B4 := Lib.hid (show Below W.heap.size W w4 by rw [hw]; exact B3.out.alloc B3.out.size _)
    have H4 := Lib.hid (show Wire.PB w4 c r2 0 true by rw [hw]; exact H3.out.below (alloc_below _ _) H3.out.lt)
    rw [← hw, ← hm]
    clear hw hm
    go_wp2_with fail
    refine (S3.out c _ H4.out).mono ?_
    rintro _ w5 ⟨rfl, hR, hg⟩
    have Y5 := Lib.hid (blk_grown Y4.out hg (fun e => by cases e; omega))
    have Z5 := Lib.hid (blk_grown Z4.out hg (fun e => by cases e; omega))
    have B5 := Lib.hid (below_gr B4.out hg B4.out.size (by omega))
    have H5 := Lib.hid hR
    clear hR hg
    have z0 := blk_cell Z5.out 0 (v := .int .i64 v1) rfl
    have z1 := blk_cell Z5.out 1 (v := .int .i64 v2) rfl
    have y0 := blk_cell Y5.out 0 (v := .int .i64 0) rfl
    have y1 := blk_cell Y5.out 1 (v := .int .i64 0) rfl
    have f0 := blk_fr Y5.out 0
    have f1 := blk_fr Y5.out 1
    go_wp2_with fail
    go_region_with (go_at_call 46; refine (Wire.dead_end (Wire.pt c) _ e3 (Wire.pb_dead (show Wire.PB (w5.drewN 1) c _ e3 true from H5.out) h5)).mono ?_; rintro _ _ ⟨rfl, rfl⟩)
    all_goals
      obtain ⟨V, hV⟩ : ∃ V, V = putH (w5.drewN 1) W.heap.size v1 v2 := ⟨_, rfl⟩
      have HV := hV ▸ putH_blk (show (w5.drewN 1).heap[W.heap.size]? = some (bxH 0 0) from Y5.out) v1 v2
      have BV := Lib.hid (show Below W.heap.size W V from hV ▸ putH_below (show Below W.heap.size W (w5.drewN 1) from below_drewN B5.out 1) (by omega) v1 v2)
      unfold putH at hV
      rw [← hV]
      have c0 := blk_cell HV 0 (v := .int .i64 v1) rfl
      have c1 := blk_cell HV 1 (v := .int .i64 v2) rfl
      clear hV
      go_wp2_with fail
      refine bodyPost_ret (v := .tuple #[.agg #[.int .i64 v1, .int .i64 v2], .string tx, .int .i64 e3]) (by simp [results, Try.results32, go_sem, c0, c1]) rfl (outRd R.out.1 BV.out R.out.2)
  obtain rfl : e3 = 0 := by omega
  rw [if_neg h5] at RP
  clear h5
  have R := Lib.hid (show (rdP p).2.2.2 = (if r3.size = 0 then (0 : Int) else 23) ∧ ((if r3.size = 0 then (0 : Int) else 23) = 0 → rdP p = (v1, v2, tx, 0)) from ⟨by rw [RP], fun h => by rw [RP, h]⟩)
  have EN := Lib.hid (fun c w (h : Wire.PB w c r3 0 true) => Wire.live_end c r3 w h)
  clear RP
  generalize (if r3.size = 0 then (0 : Int) else 23) = e at *
  go_enter Try.func32, Try.ntmps32
  go_wp2_with fail
  refine (KN.out _).mono ?_
  rintro _ w1 ⟨rfl, hR, hb1⟩
  have B1 := Lib.hid (box_below hb1)
  have Y1 := Lib.hid (show w1.heap[W.heap.size]? = some (bxH 0 0) from (hb1.block W.heap.size (by simp)).trans (blk_new W _))
  obtain ⟨c, hc⟩ : ∃ c, c = (W.alloc (bxH 0 0)).heap.size := ⟨_, rfl⟩
  have hc1 : W.heap.size < c := by rw [hc]; simp
  rw [← hc] at hR ⊢
  have H1 := Lib.hid hR
  clear hR hb1 KN hc
  go_wp2_with fail
  refine (S1.out c _ H1.out).mono ?_
  rintro _ w2 ⟨rfl, hR, hg⟩
  have Y2 := Lib.hid (blk_grown Y1.out hg (fun e => by cases e; omega))
  have B2 := Lib.hid (below_gr B1.out hg B1.out.size (by omega))
  have H2 := Lib.hid hR
  clear hR hg
  go_wp2_with fail
  refine (S2.out c _ H2.out).mono ?_
  rintro _ w3 ⟨rfl, hR, hg⟩
  have Y3 := Lib.hid (blk_grown Y2.out hg (fun e => by cases e; omega))
  have B3 := Lib.hid (below_gr B2.out hg B2.out.size (by omega))
  have H3 := Lib.hid hR
  clear hR hg
  go_wp2_with fail
  obtain ⟨w4, hw⟩ : ∃ w4, w4 = w3.alloc (bxH v1 v2) := ⟨_, rfl⟩
  obtain ⟨m, hm⟩ : ∃ m, m = w3.heap.size := ⟨_, rfl⟩
  have hcm : c < m := by rw [hm]; exact H3.out.lt
  have hWm : W.heap.size < m := by omega
  have Z4 := Lib.hid (show w4.heap[m]? = some (bxH v1 v2) by rw [hw, hm]; exact blk_new _ _)
  have Y4 := Lib.hid (show w4.heap[W.heap.size]? = some (bxH 0 0) by rw [hw]; exact blk_alloc Y3.out _)
  have B4 := Lib.hid (show Below W.heap.size W w4 by rw [hw]; exact B3.out.alloc B3.out.size _)
  have H4 := Lib.hid (show Wire.PB w4 c r2 0 true by rw [hw]; exact H3.out.below (alloc_below _ _) H3.out.lt)
  rw [← hw, ← hm]
  clear hw hm
  go_wp2_with fail
  refine (S3.out c _ H4.out).mono ?_
  rintro _ w5 ⟨rfl, hR, hg⟩
  have Y5 := Lib.hid (blk_grown Y4.out hg (fun e => by cases e; omega))
  have Z5 := Lib.hid (blk_grown Z4.out hg (fun e => by cases e; omega))
  have B5 := Lib.hid (below_gr B4.out hg B4.out.size (by omega))
  have H5 := Lib.hid hR
  clear hR hg
  have z0 := blk_cell Z5.out 0 (v := .int .i64 v1) rfl
  have z1 := blk_cell Z5.out 1 (v := .int .i64 v2) rfl
  have y0 := blk_cell Y5.out 0 (v := .int .i64 0) rfl
  have y1 := blk_cell Y5.out 1 (v := .int .i64 0) rfl
  have f0 := blk_fr Y5.out 0
  have f1 := blk_fr Y5.out 1
  go_wp2_with fail
  go_region_with (go_at_call 46; refine (EN.out c _ (show Wire.PB (w5.drewN 1) c r3 0 true from H5.out)).mono ?_; rintro _ _ ⟨rfl, rfl⟩)
  all_goals
    obtain ⟨V, hV⟩ : ∃ V, V = putH (w5.drewN 1) W.heap.size v1 v2 := ⟨_, rfl⟩
    have HV := hV ▸ putH_blk (show (w5.drewN 1).heap[W.heap.size]? = some (bxH 0 0) from Y5.out) v1 v2
    have BV := Lib.hid (show Below W.heap.size W V from hV ▸ putH_below (show Below W.heap.size W (w5.drewN 1) from below_drewN B5.out 1) (by omega) v1 v2)
    unfold putH at hV
    rw [← hV]
    have c0 := blk_cell HV 0 (v := .int .i64 v1) rfl
    have c1 := blk_cell HV 1 (v := .int .i64 v2) rfl
    clear hV
    go_wp2_with fail
    refine bodyPost_ret (v := .tuple #[.agg #[.int .i64 v1, .int .i64 v2], .string tx, .int .i64 e]) (by simp [results, Try.results32, go_sem, c0, c1]) rfl (outRd R.out.1 BV.out R.out.2)
end Go.Proofs.Yticlcjabhemdiaa.Rpl
