/- TopoChecks, TopoPaths, TopoTrees, TopoRemoves, TopoDistances walked. -/
import Derived.Test.YtdmakcjcocghhaaTI
set_option linter.unusedVariables false
namespace Go.Proofs.Ytdmakcjcocghhaa.Tpo
open Go.RowKit

theorem near_len (l : List Ed) (a : Int) : (near l a).length ≤ 1000000 := by have := sel_len fun v => Lk l a v; unfold near; omega
theorem reach_len (l : List Ed) (a : Int) : (reach l a).length ≤ 1000000 := by have := sel_len fun v => 0 ≤ dist l a v; unfold reach; omega
theorem cut_len (l : List Ed) (a : Int) : (cut l a).length ≤ 1000000 := by have := sel_len fun c => Crit l a c; unfold cut; omega
set_option maxRecDepth 100000 in
set_option maxHeartbeats 4000000 in
theorem law_checks (w : World) (A : Option Addr) (c : Nat) (l : List Ed)  (hl : l.length ≤ 9223372036854775807) (hA : EdAt w w.heap.size A l) :
    Calls Try.prog 3 #[.slice A l.length c] w (OutB w true) := by
  have HA := Lib.hid hA
  clear hA
  by_cases h60 : 300 < l.length
  · have d : decide ((300 : Int) < (l.length : Int)) = true := dt (by omega)
    go_enter Try.func3, Try.ntmps3
    go_wp2_with fail
    refine (awake_any _).mono ?_
    rintro _ w1 ⟨rfl, hb⟩
    have B1 := Lib.hid hb
    clear hb
    go_wp2_with fail
    go_ret
    exact outB rfl B1.out
  have d : decide ((300 : Int) < (l.length : Int)) = false := df (by omega)
  have K1 := Lib.hid (fun w hA => pcheck_any A c l w hl hA)
  have K2 := Lib.hid (fun w hA => rcheck_any A c l w hl hA)
  generalize chk l = q at *
  go_enter Try.func3, Try.ntmps3
  go_wp2_with fail
  refine (K1.out _ HA.out).mono ?_
  rintro _ w1 ⟨rfl, hb⟩
  have B1 := Lib.hid hb
  have HA := Lib.hid (HA.out.next hb)
  clear hb
  go_wp2_with fail
  refine (K2.out _ HA.out).mono ?_
  rintro _ w2 ⟨rfl, hb⟩
  have B2 := Lib.hid (B1.out.trans (hb.mono B1.out.size))
  have HA := Lib.hid (HA.out.next hb)
  clear hb
  go_wp2_with fail
  refine (awake_any _).mono ?_
  rintro _ w3 ⟨rfl, hb⟩
  have B3 := Lib.hid (B2.out.trans (hb.mono B2.out.size))
  clear hb
  go_wp2_with fail
  go_ret
  exact outB rfl B3.out

set_option maxRecDepth 100000 in
set_option maxHeartbeats 4000000 in
theorem law_paths (w : World) (A : Option Addr) (c : Nat) (l : List Ed) (a b : Int) (ib : I64 b) (hl : l.length ≤ 9223372036854775807) (hA : EdAt w w.heap.size A l) :
    Calls Try.prog 4 #[.slice A l.length c, .int .i64 a, .int .i64 b] w (OutB w true) := by
  have HA := Lib.hid hA
  clear hA
  by_cases h60 : 60 < l.length
  · have d : decide ((60 : Int) < (l.length : Int)) = true := dt (by omega)
    go_enter Try.func4, Try.ntmps4
    go_wp2_with fail
    refine (awake_any _).mono ?_
    rintro _ w1 ⟨rfl, hb⟩
    have B1 := Lib.hid hb
    clear hb
    go_wp2_with fail
    go_ret
    exact outB rfl B1.out
  have d : decide ((60 : Int) < (l.length : Int)) = false := df (by omega)
  have K1 := Lib.hid (fun w hA => pnear_any A c l a w (by omega) hA)
  have K2 := Lib.hid (fun w hA => rnear_any A c l a w hl hA)
  have K3 := Lib.hid (fun A1 A2 c1 c2 w h1 h2 => rsamen_any A1 A2 c1 c2 (near l a) w (near_len l a) h1 h2)
  have K4 := Lib.hid (fun w hA => preach_any A c l a w (by omega) hA)
  have K5 := Lib.hid (fun w hA => rreach_any A c l a w hl hA)
  have K6 := Lib.hid (fun A1 A2 c1 c2 w h1 h2 => rsamen_any A1 A2 c1 c2 (reach l a) w (reach_len l a) h1 h2)
  have K7 := Lib.hid (fun w hA => phops_any A c l a b w (by omega) ib hA)
  have K8 := Lib.hid (fun w hA => rhops_any A c l a b w hl hA)
  generalize dist l a b = q at *
  generalize near l a = F at *
  generalize reach l a = G at *
  go_enter Try.func4, Try.ntmps4
  go_wp2_with fail
  refine (K1.out _ HA.out).mono ?_
  rintro _ w1 ⟨v, rfl, ho, hb⟩
  obtain ⟨X1_A, X1_c, rfl, hs, X1_h, X1_n⟩ := ho.read
  have B1 := Lib.hid hb
  have HA := Lib.hid (HA.out.next hb)
  have X1 := Lib.hid hs
  clear hs ho X1_n
  clear hb
  go_wp2_with fail
  refine (K2.out _ HA.out).mono ?_
  rintro _ w2 ⟨v, rfl, ho, hb⟩
  obtain ⟨X2_A, X2_c, rfl, hs, X2_h, X2_n⟩ := ho.read
  have B2 := Lib.hid (B1.out.trans (hb.mono B1.out.size))
  have HA := Lib.hid (HA.out.next hb)
  have X1 := Lib.hid (X1.out.next hb)
  have X2 := Lib.hid hs
  clear hs ho X2_n
  clear hb
  go_wp2_with fail
  refine (K3.out _ _ _ _ _ X1.out X2.out).mono ?_
  rintro _ w3 ⟨rfl, hb⟩
  have B3 := Lib.hid (B2.out.trans (hb.mono B2.out.size))
  have HA := Lib.hid (HA.out.next hb)
  have X1 := Lib.hid (X1.out.next hb)
  have X2 := Lib.hid (X2.out.next hb)
  clear hb
  clear X1 X2
  go_wp2_with fail
  refine (K4.out _ HA.out).mono ?_
  rintro _ w4 ⟨v, rfl, ho, hb⟩
  obtain ⟨X1_A, X1_c, rfl, hs, X1_h, X1_n⟩ := ho.read
  have B4 := Lib.hid (B3.out.trans (hb.mono B3.out.size))
  have HA := Lib.hid (HA.out.next hb)
  have X1 := Lib.hid hs
  clear hs ho X1_n
  clear hb
  go_wp2_with fail
  refine (K5.out _ HA.out).mono ?_
  rintro _ w5 ⟨v, rfl, ho, hb⟩
  obtain ⟨X2_A, X2_c, rfl, hs, X2_h, X2_n⟩ := ho.read
  have B5 := Lib.hid (B4.out.trans (hb.mono B4.out.size))
  have HA := Lib.hid (HA.out.next hb)
  have X1 := Lib.hid (X1.out.next hb)
  have X2 := Lib.hid hs
  clear hs ho X2_n
  clear hb
  go_wp2_with fail
  refine (K6.out _ _ _ _ _ X1.out X2.out).mono ?_
  rintro _ w6 ⟨rfl, hb⟩
  have B6 := Lib.hid (B5.out.trans (hb.mono B5.out.size))
  have HA := Lib.hid (HA.out.next hb)
  have X1 := Lib.hid (X1.out.next hb)
  have X2 := Lib.hid (X2.out.next hb)
  clear hb
  clear X1 X2
  go_wp2_with fail
  refine (K7.out _ HA.out).mono ?_
  rintro _ w7 ⟨rfl, hb⟩
  have B7 := Lib.hid (B6.out.trans (hb.mono B6.out.size))
  have HA := Lib.hid (HA.out.next hb)
  clear hb
  go_wp2_with fail
  refine (K8.out _ HA.out).mono ?_
  rintro _ w8 ⟨rfl, hb⟩
  have B8 := Lib.hid (B7.out.trans (hb.mono B7.out.size))
  have HA := Lib.hid (HA.out.next hb)
  clear hb
  go_wp2_with fail
  refine (awake_any _).mono ?_
  rintro _ w9 ⟨rfl, hb⟩
  have B9 := Lib.hid (B8.out.trans (hb.mono B8.out.size))
  clear hb
  go_wp2_with fail
  go_ret
  exact outB rfl B9.out

set_option maxRecDepth 100000 in
set_option maxHeartbeats 4000000 in
theorem law_trees (w : World) (A : Option Addr) (c : Nat) (l : List Ed) (r n : Int) (hl : l.length ≤ 9223372036854775807) (hA : EdAt w w.heap.size A l) :
    Calls Try.prog 5 #[.slice A l.length c, .int .i64 r, .int .i64 n] w (OutB w true) := by
  have HA := Lib.hid hA
  clear hA
  by_cases h60 : 60 < l.length
  · have d : decide ((60 : Int) < (l.length : Int)) = true := dt (by omega)
    go_enter Try.func5, Try.ntmps5
    go_wp2_with fail
    refine (awake_any _).mono ?_
    rintro _ w1 ⟨rfl, hb⟩
    have B1 := Lib.hid hb
    clear hb
    go_wp2_with fail
    go_ret
    exact outB rfl B1.out
  have d : decide ((60 : Int) < (l.length : Int)) = false := df (by omega)
  have K1 := Lib.hid (fun w hA => pdepth_any A c l r w (by omega) hA)
  have K2 := Lib.hid (fun w hA => rdepth_any A c l r w hl hA)
  have K4 := Lib.hid (fun w hA => pcut_any A c l r w (by omega) hA)
  have K5 := Lib.hid (fun w hA => rcut_any A c l r w (by omega) hA)
  have K6 := Lib.hid (fun A1 A2 c1 c2 w h1 h2 => rsamen_any A1 A2 c1 c2 (cut l r) w (cut_len l r) h1 h2)
  have K7 := Lib.hid (fun w hA => pparent_any A c l r n w (by omega) hA)
  have K8 := Lib.hid (fun w hA => rparent_any A c l r n w hl hA)
  generalize depth l r = p at *
  generalize parent l r n = q at *
  generalize cut l r = F at *
  go_enter Try.func5, Try.ntmps5
  go_wp2_with fail
  refine (K1.out _ HA.out).mono ?_
  rintro _ w1 ⟨rfl, hb⟩
  have B1 := Lib.hid hb
  have HA := Lib.hid (HA.out.next hb)
  clear hb
  go_wp2_with fail
  refine (K2.out _ HA.out).mono ?_
  rintro _ w2 ⟨rfl, hb⟩
  have B2 := Lib.hid (B1.out.trans (hb.mono B1.out.size))
  have HA := Lib.hid (HA.out.next hb)
  clear hb
  go_wp2_with fail
  refine (K4.out _ HA.out).mono ?_
  rintro _ w3 ⟨v, rfl, ho, hb⟩
  obtain ⟨X1_A, X1_c, rfl, hs, X1_h, X1_n⟩ := ho.read
  have B3 := Lib.hid (B2.out.trans (hb.mono B2.out.size))
  have HA := Lib.hid (HA.out.next hb)
  have X1 := Lib.hid hs
  clear hs ho X1_n
  clear hb
  go_wp2_with fail
  refine (K5.out _ HA.out).mono ?_
  rintro _ w4 ⟨v, rfl, ho, hb⟩
  obtain ⟨X2_A, X2_c, rfl, hs, X2_h, X2_n⟩ := ho.read
  have B4 := Lib.hid (B3.out.trans (hb.mono B3.out.size))
  have HA := Lib.hid (HA.out.next hb)
  have X1 := Lib.hid (X1.out.next hb)
  have X2 := Lib.hid hs
  clear hs ho X2_n
  clear hb
  go_wp2_with fail
  refine (K6.out _ _ _ _ _ X1.out X2.out).mono ?_
  rintro _ w5 ⟨rfl, hb⟩
  have B5 := Lib.hid (B4.out.trans (hb.mono B4.out.size))
  have HA := Lib.hid (HA.out.next hb)
  have X1 := Lib.hid (X1.out.next hb)
  have X2 := Lib.hid (X2.out.next hb)
  clear hb
  clear X1 X2
  go_wp2_with fail
  refine (K7.out _ HA.out).mono ?_
  rintro _ w6 ⟨rfl, hb⟩
  have B6 := Lib.hid (B5.out.trans (hb.mono B5.out.size))
  have HA := Lib.hid (HA.out.next hb)
  clear hb
  go_wp2_with fail
  refine (K8.out _ HA.out).mono ?_
  rintro _ w7 ⟨rfl, hb⟩
  have B7 := Lib.hid (B6.out.trans (hb.mono B6.out.size))
  have HA := Lib.hid (HA.out.next hb)
  clear hb
  go_wp2_with fail
  refine (awake_any _).mono ?_
  rintro _ w8 ⟨rfl, hb⟩
  have B8 := Lib.hid (B7.out.trans (hb.mono B7.out.size))
  clear hb
  go_wp2_with fail
  go_ret
  exact outB rfl B8.out

set_option maxRecDepth 100000 in
set_option maxHeartbeats 4000000 in
theorem law_removes (w : World) (A : Option Addr) (c : Nat) (l : List Ed) (A2 : Option Addr) (c2 : Nat) (off : List Int) (hl : l.length ≤ 9223372036854775807) (hA : EdAt w w.heap.size A l) (hl2 : off.length ≤ 9223372036854775807) (hA2 : FlAt fI w w.heap.size A2 off) :
    Calls Try.prog 6 #[.slice A l.length c, .slice A2 off.length c2] w (OutB w true) := by
  have HB := Lib.hid hA2
  clear hA2
  have HA := Lib.hid hA
  clear hA
  by_cases h60 : 60 < l.length
  · have d : decide ((60 : Int) < (l.length : Int)) = true := dt (by omega)
    go_enter Try.func6, Try.ntmps6
    go_wp2_with fail
    refine (awake_any _).mono ?_
    rintro _ w1 ⟨rfl, hb⟩
    have B1 := Lib.hid hb
    clear hb
    go_wp2_with fail
    go_ret
    exact outB rfl B1.out
  have d : decide ((60 : Int) < (l.length : Int)) = false := df (by omega)
  by_cases h20 : 20 < off.length
  · have d2 : decide ((20 : Int) < (off.length : Int)) = true := dt (by omega)
    go_enter Try.func6, Try.ntmps6
    go_wp2_with fail
    refine (awake_any _).mono ?_
    rintro _ w1 ⟨rfl, hb⟩
    have B1 := Lib.hid hb
    clear hb
    go_wp2_with fail
    go_ret
    exact outB rfl B1.out
  have d2 : decide ((20 : Int) < (off.length : Int)) = false := df (by omega)
  have K1 := Lib.hid (fun w hA hB => pwout_any A c l A2 c2 off w (by omega) hA hl2 hB)
  have K2 := Lib.hid (fun w hA hB => rwout_any A c l A2 c2 off w (by omega) hA hl2 hB)
  have K3 := Lib.hid (fun A1 A2 c1 c2 w h1 h2 => rsamee_any A1 A2 c1 c2 (wout l off) w (by have := wout_len l off; omega) h1 h2)
  generalize wout l off = F at *
  go_enter Try.func6, Try.ntmps6
  go_wp2_with fail
  refine (K1.out _ HA.out HB.out).mono ?_
  rintro _ w1 ⟨v, rfl, ho, hb⟩
  obtain ⟨X1_A, X1_c, rfl, hs, X1_h, X1_n⟩ := ho.read
  have B1 := Lib.hid hb
  have HA := Lib.hid (HA.out.next hb)
  have HB := Lib.hid (HB.out.next hb)
  have X1 := Lib.hid hs
  clear hs ho X1_n
  clear hb
  go_wp2_with fail
  refine (K2.out _ HA.out HB.out).mono ?_
  rintro _ w2 ⟨v, rfl, ho, hb⟩
  obtain ⟨X2_A, X2_c, rfl, hs, X2_h, X2_n⟩ := ho.read
  have B2 := Lib.hid (B1.out.trans (hb.mono B1.out.size))
  have HA := Lib.hid (HA.out.next hb)
  have HB := Lib.hid (HB.out.next hb)
  have X1 := Lib.hid (X1.out.next hb)
  have X2 := Lib.hid hs
  clear hs ho X2_n
  clear hb
  go_wp2_with fail
  refine (K3.out _ _ _ _ _ X1.out X2.out).mono ?_
  rintro _ w3 ⟨rfl, hb⟩
  have B3 := Lib.hid (B2.out.trans (hb.mono B2.out.size))
  have HA := Lib.hid (HA.out.next hb)
  have HB := Lib.hid (HB.out.next hb)
  have X1 := Lib.hid (X1.out.next hb)
  have X2 := Lib.hid (X2.out.next hb)
  clear hb
  clear X1 X2 HA HB
  go_wp2_with fail
  refine (awake_any _).mono ?_
  rintro _ w4 ⟨rfl, hb⟩
  have B4 := Lib.hid (B3.out.trans (hb.mono B3.out.size))
  clear hb
  go_wp2_with fail
  go_ret
  exact outB rfl B4.out

set_option maxRecDepth 100000 in
set_option maxHeartbeats 4000000 in
theorem law_distances (w : World) (A : Option Addr) (c : Nat) (l : List Ed) (a b k : Int) (ia : I64 a) (ib : I64 b) (ik : I64 k) (hl : l.length ≤ 9223372036854775807) (hA : EdAt w w.heap.size A l) :
    Calls Try.prog 7 #[.slice A l.length c, .int .i64 a, .int .i64 b, .int .i64 k] w (OutB w true) := by
  have HA := Lib.hid hA
  clear hA
  by_cases h60 : 60 < l.length
  · have d : decide ((60 : Int) < (l.length : Int)) = true := dt (by omega)
    go_enter Try.func7, Try.ntmps7
    go_wp2_with fail
    refine (awake_any _).mono ?_
    rintro _ w1 ⟨rfl, hb⟩
    have B1 := Lib.hid hb
    clear hb
    go_wp2_with fail
    go_ret
    exact outB rfl B1.out
  have d : decide ((60 : Int) < (l.length : Int)) = false := df (by omega)
  have K1 := Lib.hid (fun w hA => phops_any A c l a b w (by omega) ib hA)
  have K2 := Lib.hid (fun w hA => phops_any A c l b k w (by omega) ik hA)
  have K3 := Lib.hid (fun w hA => phops_any A c l a k w (by omega) ik hA)
  have K4 := Lib.hid (fun w hA => phops_any A c l b a w (by omega) ia hA)
  rw [dist_symm l b a] at K4
  have K5 := Lib.hid (fun w hA => pnear_any A c l a w (by omega) hA)
  have K6 := Lib.hid (fun w hA => preach_any A c l a w (by omega) hA)
  have LN := near_len l a
  have LR := reach_len l a
  have K7 := Lib.hid (fun A1 c1 w h1 => (show Calls Try.prog 30 #[.slice A1 (near l a).length c1, .int .i64 b] w fun e w' => e = .returned (.bool (dist l a b == 1)) ∧ w = w' from by
    have := ramong_any A1 c1 (near l a) b w (by omega) h1
    rw [show decide (b ∈ near l a) = (dist l a b == 1) from by rw [Bool.eq_iff_iff, decide_eq_true_eq, mem_near, beq_iff_eq, dist_one]] at this
    exact this))
  have K8 := Lib.hid (fun A1 c1 w h1 => (show Calls Try.prog 30 #[.slice A1 (reach l a).length c1, .int .i64 b] w fun e w' => e = .returned (.bool (decide (0 ≤ dist l a b))) ∧ w = w' from by
    have := ramong_any A1 c1 (reach l a) b w (by omega) h1
    rw [show decide (b ∈ reach l a) = decide (0 ≤ dist l a b) from by rw [Bool.eq_iff_iff, decide_eq_true_eq, decide_eq_true_eq, mem_reach]] at this
    exact this))
  have x1 := dist_neg l a b
  have x2 := dist_max l a b
  have y2 := dist_max l b k
  have T := Lib.hid (show 0 ≤ dist l a b → 0 ≤ dist l b k → 0 ≤ dist l a k ∧ dist l a k ≤ dist l a b + dist l b k from dist_tri)
  generalize dist l a b = x at *
  generalize dist l b k = y at *
  generalize dist l a k = z at *
  generalize near l a = F at *
  generalize reach l a = G at *
  have d3 : decide (x < -1) = false := df (by omega)
  have d4 : decide (250 < x) = false := df (by omega)
  have key : Hid ((decide (0 ≤ x) = true ∧ decide (0 ≤ y) = true ∧ decide (z < 0) = false ∧ decide (x + y < z) = false ∧ IntKind.i64.wrap (x + y) = x + y) ∨ (decide (0 ≤ x) = true ∧ decide (0 ≤ y) = false) ∨ decide (0 ≤ x) = false) := Lib.hid (by
    by_cases hx : 0 ≤ x
    · by_cases hy : 0 ≤ y
      · obtain ⟨t1, t2⟩ := T.out hx hy
        exact Or.inl ⟨dt hx, dt hy, df (by omega), df (by omega), by rw [IntKind.wrap_i64]; omega⟩
      · exact Or.inr (Or.inl ⟨dt hx, df hy⟩)
    · exact Or.inr (Or.inr (df hx)))
  clear T x1 x2 y2
  rcases key.out with ⟨e1, e2, e3, e4, e5⟩ | ⟨e1, e2⟩ | e1
  · clear key
    go_enter Try.func7, Try.ntmps7
    go_wp2_with fail
    refine (K1.out _ HA.out).mono ?_
    rintro _ w1 ⟨rfl, hb⟩
    have B1 := Lib.hid hb
    have HA := Lib.hid (HA.out.next hb)
    clear hb
    go_wp2_with fail
    refine (K2.out _ HA.out).mono ?_
    rintro _ w2 ⟨rfl, hb⟩
    have B2 := Lib.hid (B1.out.trans (hb.mono B1.out.size))
    have HA := Lib.hid (HA.out.next hb)
    clear hb
    go_wp2_with fail
    refine (K3.out _ HA.out).mono ?_
    rintro _ w3 ⟨rfl, hb⟩
    have B3 := Lib.hid (B2.out.trans (hb.mono B2.out.size))
    have HA := Lib.hid (HA.out.next hb)
    clear hb
    go_wp2_with fail
    refine (K4.out _ HA.out).mono ?_
    rintro _ w4 ⟨rfl, hb⟩
    have B4 := Lib.hid (B3.out.trans (hb.mono B3.out.size))
    have HA := Lib.hid (HA.out.next hb)
    clear hb
    go_wp2_with fail
    refine (K5.out _ HA.out).mono ?_
    rintro _ w5 ⟨v, rfl, ho, hb⟩
    obtain ⟨X1_A, X1_c, rfl, hs, X1_h, X1_n⟩ := ho.read
    have B5 := Lib.hid (B4.out.trans (hb.mono B4.out.size))
    have HA := Lib.hid (HA.out.next hb)
    have X1 := Lib.hid hs
    clear hs ho X1_n
    clear hb
    go_wp2_with fail
    refine (K7.out _ _ _ X1.out).mono ?_
    rintro _ _ ⟨rfl, rfl⟩
    clear X1
    go_wp2_with fail
    refine (K6.out _ HA.out).mono ?_
    rintro _ w6 ⟨v, rfl, ho, hb⟩
    obtain ⟨X1_A, X1_c, rfl, hs, X1_h, X1_n⟩ := ho.read
    have B6 := Lib.hid (B5.out.trans (hb.mono B5.out.size))
    have HA := Lib.hid (HA.out.next hb)
    have X1 := Lib.hid hs
    clear hs ho X1_n
    clear hb
    go_wp2_with fail
    refine (K8.out _ _ _ X1.out).mono ?_
    rintro _ _ ⟨rfl, rfl⟩
    clear X1
    go_wp2_with fail
    refine (awake_any _).mono ?_
    rintro _ w7 ⟨rfl, hb⟩
    have B7 := Lib.hid (B6.out.trans (hb.mono B6.out.size))
    clear hb
    go_wp2_with fail
    go_ret
    exact outB rfl B7.out
  · clear key
    go_enter Try.func7, Try.ntmps7
    go_wp2_with fail
    refine (K1.out _ HA.out).mono ?_
    rintro _ w1 ⟨rfl, hb⟩
    have B1 := Lib.hid hb
    have HA := Lib.hid (HA.out.next hb)
    clear hb
    go_wp2_with fail
    refine (K2.out _ HA.out).mono ?_
    rintro _ w2 ⟨rfl, hb⟩
    have B2 := Lib.hid (B1.out.trans (hb.mono B1.out.size))
    have HA := Lib.hid (HA.out.next hb)
    clear hb
    go_wp2_with fail
    refine (K3.out _ HA.out).mono ?_
    rintro _ w3 ⟨rfl, hb⟩
    have B3 := Lib.hid (B2.out.trans (hb.mono B2.out.size))
    have HA := Lib.hid (HA.out.next hb)
    clear hb
    go_wp2_with fail
    refine (K4.out _ HA.out).mono ?_
    rintro _ w4 ⟨rfl, hb⟩
    have B4 := Lib.hid (B3.out.trans (hb.mono B3.out.size))
    have HA := Lib.hid (HA.out.next hb)
    clear hb
    go_wp2_with fail
    refine (K5.out _ HA.out).mono ?_
    rintro _ w5 ⟨v, rfl, ho, hb⟩
    obtain ⟨X1_A, X1_c, rfl, hs, X1_h, X1_n⟩ := ho.read
    have B5 := Lib.hid (B4.out.trans (hb.mono B4.out.size))
    have HA := Lib.hid (HA.out.next hb)
    have X1 := Lib.hid hs
    clear hs ho X1_n
    clear hb
    go_wp2_with fail
    refine (K7.out _ _ _ X1.out).mono ?_
    rintro _ _ ⟨rfl, rfl⟩
    clear X1
    go_wp2_with fail
    refine (K6.out _ HA.out).mono ?_
    rintro _ w6 ⟨v, rfl, ho, hb⟩
    obtain ⟨X1_A, X1_c, rfl, hs, X1_h, X1_n⟩ := ho.read
    have B6 := Lib.hid (B5.out.trans (hb.mono B5.out.size))
    have HA := Lib.hid (HA.out.next hb)
    have X1 := Lib.hid hs
    clear hs ho X1_n
    clear hb
    go_wp2_with fail
    refine (K8.out _ _ _ X1.out).mono ?_
    rintro _ _ ⟨rfl, rfl⟩
    clear X1
    go_wp2_with fail
    refine (awake_any _).mono ?_
    rintro _ w7 ⟨rfl, hb⟩
    have B7 := Lib.hid (B6.out.trans (hb.mono B6.out.size))
    clear hb
    go_wp2_with fail
    go_ret
    exact outB rfl B7.out
  · clear key
    go_enter Try.func7, Try.ntmps7
    go_wp2_with fail
    refine (K1.out _ HA.out).mono ?_
    rintro _ w1 ⟨rfl, hb⟩
    have B1 := Lib.hid hb
    have HA := Lib.hid (HA.out.next hb)
    clear hb
    go_wp2_with fail
    refine (K2.out _ HA.out).mono ?_
    rintro _ w2 ⟨rfl, hb⟩
    have B2 := Lib.hid (B1.out.trans (hb.mono B1.out.size))
    have HA := Lib.hid (HA.out.next hb)
    clear hb
    go_wp2_with fail
    refine (K3.out _ HA.out).mono ?_
    rintro _ w3 ⟨rfl, hb⟩
    have B3 := Lib.hid (B2.out.trans (hb.mono B2.out.size))
    have HA := Lib.hid (HA.out.next hb)
    clear hb
    go_wp2_with fail
    refine (K4.out _ HA.out).mono ?_
    rintro _ w4 ⟨rfl, hb⟩
    have B4 := Lib.hid (B3.out.trans (hb.mono B3.out.size))
    have HA := Lib.hid (HA.out.next hb)
    clear hb
    go_wp2_with fail
    refine (K5.out _ HA.out).mono ?_
    rintro _ w5 ⟨v, rfl, ho, hb⟩
    obtain ⟨X1_A, X1_c, rfl, hs, X1_h, X1_n⟩ := ho.read
    have B5 := Lib.hid (B4.out.trans (hb.mono B4.out.size))
    have HA := Lib.hid (HA.out.next hb)
    have X1 := Lib.hid hs
    clear hs ho X1_n
    clear hb
    go_wp2_with fail
    refine (K7.out _ _ _ X1.out).mono ?_
    rintro _ _ ⟨rfl, rfl⟩
    clear X1
    go_wp2_with fail
    refine (K6.out _ HA.out).mono ?_
    rintro _ w6 ⟨v, rfl, ho, hb⟩
    obtain ⟨X1_A, X1_c, rfl, hs, X1_h, X1_n⟩ := ho.read
    have B6 := Lib.hid (B5.out.trans (hb.mono B5.out.size))
    have HA := Lib.hid (HA.out.next hb)
    have X1 := Lib.hid hs
    clear hs ho X1_n
    clear hb
    go_wp2_with fail
    refine (K8.out _ _ _ X1.out).mono ?_
    rintro _ _ ⟨rfl, rfl⟩
    clear X1
    go_wp2_with fail
    refine (awake_any _).mono ?_
    rintro _ w7 ⟨rfl, hb⟩
    have B7 := Lib.hid (B6.out.trans (hb.mono B6.out.size))
    clear hb
    go_wp2_with fail
    go_ret
    exact outB rfl B7.out
end Go.Proofs.Ytdmakcjcocghhaa.Tpo
