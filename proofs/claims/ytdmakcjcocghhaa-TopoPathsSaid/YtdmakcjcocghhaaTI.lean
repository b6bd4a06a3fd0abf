/- Links as arguments; the chapter's examples. -/
import Derived.Test.YtdmakcjcocghhaaTZ
import Derived.Test.YtdmakcjcocghhaaTC2
import Derived.Test.YtdmakcjcocghhaaTH
set_option linter.unusedVariables false
namespace Go.Proofs.Ytdmakcjcocghhaa.Tpo
open Go.RowKit

section
open Go.ChangeShapes Go.WideShapes
variable {H : Type} {enc : TypeId × Value → H}
theorem edges_at {W : World} {fuel : Nat} {sp : Nat → Bool} {hd : Bool} {A : Option Addr} {n c : Nat} {x : DataW H × List MemPlace} (hf : DataW.trod enc Try.prog W 0 sp hd fuel 22 [.slice A n c] = some x) :
    ∃ l, n = List.length l ∧ EdAt W W.heap.size A l ∧ l.length ≤ 9223372036854775807 ∧ l.length ≤ c ∧ (A = none → c = 0) := by
  refine flat_open Try.underlying22 (by kernel_rfl) (fun q cs y hl ht => ?_) hf
  obtain ⟨xs, q, _, _, _, hxl, hfi⟩ := DataW.trod_struct Try.underlying41 ht
  match cs, hl with
  | [c0, c1], _ =>
    have f0 : DataW.trod enc Try.prog W 0 sp hd q 3 [c0] = xs[0]? := hfi 0 _ rfl
    have f1 : DataW.trod enc Try.prog W 0 sp hd q 3 [c1] = xs[1]? := hfi 1 _ rfl
    rw [List.getElem?_eq_getElem (by rw [hxl]; decide)] at f0 f1
    obtain ⟨n0, e0, _, w0⟩ := DataW.trod_int Try.underlying3 f0
    obtain ⟨n1, e1, _, w1⟩ := DataW.trod_int Try.underlying3 f1
    obtain rfl : c0 = .int .i64 n0 := by simpa using e0
    obtain rfl : c1 = .int .i64 n1 := by simpa using e1
    exact ⟨(n0, n1), rfl, lit_i64 w0, lit_i64 w1⟩
theorem nums_at {W : World} {fuel : Nat} {sp : Nat → Bool} {hd : Bool} {A : Option Addr} {n c : Nat} {x : DataW H × List MemPlace} (hf : DataW.trod enc Try.prog W 0 sp hd fuel 28 [.slice A n c] = some x) :
    ∃ l, n = List.length l ∧ FlAt fI W W.heap.size A l ∧ l.length ≤ 9223372036854775807 ∧ l.length ≤ c ∧ (A = none → c = 0) := by
  refine flat_open Try.underlying28 (by kernel_rfl) (fun q cs y hl ht => ?_) hf
  match cs, hl with
  | [c0], _ =>
    obtain ⟨n0, e0, _, w0⟩ := DataW.trod_int Try.underlying3 ht
    obtain rfl : c0 = .int .i64 n0 := by simpa using e0
    exact ⟨n0, rfl, lit_i64 w0⟩
end

def V02 : List Int := [0, 2]
def V12 : List Int := [1, 2]
def V0 : List Int := [0]
def VN : List Int := []
def LE : List Ed := [(2, 3)]
theorem i64_s {n : Int} (h : -1000000 ≤ n ∧ n ≤ 1000000) : I64 n := by unfold I64; omega
/-- Literals of links, of numbers. -/
theorem lit_e (w : World) (l : List Ed) (cs : Array Value) (hn : l.length ≤ 1000) (hc : cs.toList = l.flatMap fE.enc) (hok : ∀ x ∈ l, (-1000000 ≤ x.1 ∧ x.1 ≤ 1000000) ∧ (-1000000 ≤ x.2 ∧ x.2 ≤ 1000000)) : EdAt (w.alloc (.cells cs 41)) (w.alloc (.cells cs 41)).heap.size (some ⟨w.heap.size, 0, none⟩) l :=
  FlAt.lit (F := fE) w l cs 41 (by unfold maxLen; omega) hc fun x hx => ⟨i64_s (hok x hx).1, i64_s (hok x hx).2⟩
theorem lit_n (w : World) (l : List Int) (cs : Array Value) (hn : l.length ≤ 1000) (hc : cs.toList = l.flatMap fI.enc) (hok : ∀ x ∈ l, -1000000 ≤ x ∧ x ≤ 1000000) : FlAt fI (w.alloc (.cells cs 3)) (w.alloc (.cells cs 3)).heap.size (some ⟨w.heap.size, 0, none⟩) l :=
  FlAt.lit (F := fI) w l cs 3 (by unfold maxLen; omega) hc fun x hx => i64_s (hok x hx)

theorem append_ring (w : World) : ∃ A c w', (Builtin.append_ #[22, 22] 22 #[.slice (some ⟨w.heap.size + 1, 0, none⟩) 1 1, .slice (some ⟨w.heap.size, 0, none⟩) 3 3]).run Try.prog ((w.alloc (.cells #[.int .i64 0, .int .i64 1, .int .i64 1, .int .i64 2, .int .i64 2, .int .i64 3] 41)).alloc (.cells #[.int .i64 3, .int .i64 0] 41)) = .ok (.slice A 4 c) w' ∧ EdAt w' w'.heap.size A LR ∧ EdAt w' w'.heap.size (some ⟨w.heap.size, 0, none⟩) L3 ∧ Below w.heap.size w w' := by
  have X0 : EdAt (w.alloc (.cells #[.int .i64 0, .int .i64 1, .int .i64 1, .int .i64 2, .int .i64 2, .int .i64 3] 41)) (w.alloc (.cells #[.int .i64 0, .int .i64 1, .int .i64 1, .int .i64 2, .int .i64 2, .int .i64 3] 41)).heap.size (some ⟨w.heap.size, 0, none⟩) L3 := (lit_e w [(0, 1), (1, 2), (2, 3)] #[.int .i64 0, .int .i64 1, .int .i64 1, .int .i64 2, .int .i64 2, .int .i64 3] (by decide) rfl (by decide))
  have hz : (w.alloc (.cells #[.int .i64 0, .int .i64 1, .int .i64 1, .int .i64 2, .int .i64 2, .int .i64 3] 41)).heap.size = w.heap.size + 1 := by simp
  have OR : OwnE ((w.alloc (.cells #[.int .i64 0, .int .i64 1, .int .i64 1, .int .i64 2, .int .i64 2, .int .i64 3] 41)).alloc (.cells #[.int .i64 3, .int .i64 0] 41)) w.heap.size (.slice (some ⟨(w.alloc (.cells #[.int .i64 0, .int .i64 1, .int .i64 1, .int .i64 2, .int .i64 2, .int .i64 3] 41)).heap.size, 0, none⟩) 1 1) [(3, 0)] := OwnF.lit (F := fE) (w.alloc (.cells #[.int .i64 0, .int .i64 1, .int .i64 1, .int .i64 2, .int .i64 2, .int .i64 3] 41)) w.heap.size [(3, 0)] #[.int .i64 3, .int .i64 0] (by simp) (by decide) rfl fun x hx => ⟨i64_s (by revert x; decide), i64_s (by revert x; decide)⟩
  have XA := X0.below (alloc_below _ (.cells #[.int .i64 3, .int .i64 0] 41))
  obtain ⟨v', w', h1, h2, h3, _, h4⟩ := OR.app eEd (c := 3) 22 XA (by decide) (by simp; omega)
  rw [hz] at h1 h4
  obtain ⟨A, c, rfl, h5, _⟩ := h2.read
  refine ⟨A, c, w', h1, h5, (XA.below ?_).mono ?_, ((Below.refl _ _).alloc (Nat.le_refl _) _ |>.alloc (by simp) _).trans h3⟩
  · rw [hz]
    exact ⟨h4.os, h4.tape, h4.output, h4.size, fun k hk => h4.block k (by simp; omega) fun e => by simp [Value.ownBlock] at e; omega⟩
  · have := h4.size
    simp at this ⊢
    omega

set_option maxRecDepth 100000 in
set_option maxHeartbeats 4000000 in
theorem awake_any (w : World) : Calls Try.prog 11 #[] w (OutB w true) := by
  have K1 := Lib.hid (show ∀ A c w, EdAt w w.heap.size A L3 → Calls Try.prog 15 #[.slice A 3 c, .int .i64 1] w (OutN w V02) from fun A c w h => by have := pnear_any A c L3 1 w (by decide) h; rw [x_near] at this; exact this)
  have S1 := Lib.hid (show ∀ A c w, FlAt fI w w.heap.size A V02 → Calls Try.prog 14 #[.slice A 2 c, .slice (some ⟨w.heap.size, 0, none⟩) 2 2] (w.alloc (.cells #[.int .i64 0, .int .i64 2] 3)) (OutB (w.alloc (.cells #[.int .i64 0, .int .i64 2] 3)) true) from fun A c w h => by
    exact rsamen_any A (some ⟨w.heap.size, 0, none⟩) c 2 V02 (w.alloc (.cells #[.int .i64 0, .int .i64 2] 3)) (by decide) (h.next (alloc_below _ _)) (lit_n w [0, 2] #[.int .i64 0, .int .i64 2] (by decide) rfl (by decide)))
  have K2 := Lib.hid (show ∀ A c w, EdAt w w.heap.size A L3 → Calls Try.prog 19 #[.slice A 3 c, .int .i64 0, .int .i64 3] w (OutI w 3) from fun A c w h => by have := phops_any A c L3 0 3 w (by decide) (by unfold I64; omega) h; rw [x_hops] at this; exact this)
  have K3 := Lib.hid (show ∀ A c w, EdAt w w.heap.size A L3 → Calls Try.prog 21 #[.slice A 3 c, .int .i64 0] w (OutI w 3) from fun A c w h => by have := pdepth_any A c L3 0 w (by decide) h; rw [x_depth0] at this; exact this)
  have K4 := Lib.hid (show ∀ A c w, EdAt w w.heap.size A L3 → Calls Try.prog 21 #[.slice A 3 c, .int .i64 1] w (OutI w 2) from fun A c w h => by have := pdepth_any A c L3 1 w (by decide) h; rw [x_depth1] at this; exact this)
  have K5 := Lib.hid (show ∀ A c w, EdAt w w.heap.size A L3 → Calls Try.prog 23 #[.slice A 3 c, .int .i64 0] w (OutN w V12) from fun A c w h => by have := pcut_any A c L3 0 w (by decide) h; rw [x_cut] at this; exact this)
  have S5 := Lib.hid (show ∀ A c w, FlAt fI w w.heap.size A V12 → Calls Try.prog 14 #[.slice A 2 c, .slice (some ⟨w.heap.size, 0, none⟩) 2 2] (w.alloc (.cells #[.int .i64 1, .int .i64 2] 3)) (OutB (w.alloc (.cells #[.int .i64 1, .int .i64 2] 3)) true) from fun A c w h => by
    exact rsamen_any A (some ⟨w.heap.size, 0, none⟩) c 2 V12 (w.alloc (.cells #[.int .i64 1, .int .i64 2] 3)) (by decide) (h.next (alloc_below _ _)) (lit_n w [1, 2] #[.int .i64 1, .int .i64 2] (by decide) rfl (by decide)))
  have K6 := Lib.hid (show ∀ A c w, EdAt w w.heap.size A L3 → Calls Try.prog 25 #[.slice A 3 c, .int .i64 0, .int .i64 3] w (OutI w 2) from fun A c w h => by have := pparent_any A c L3 0 3 w (by decide) h; rw [x_par] at this; exact this)
  have K7 := Lib.hid (show ∀ A c w, EdAt w w.heap.size A L3 → Calls Try.prog 28 #[.slice A 3 c, .slice (some ⟨w.heap.size, 0, none⟩) 1 1] (w.alloc (.cells #[.int .i64 1] 3)) (OutL (w.alloc (.cells #[.int .i64 1] 3)) LE) from fun A c w h => by
    have := pwout_any A c L3 (some ⟨w.heap.size, 0, none⟩) 1 [1] (w.alloc (.cells #[.int .i64 1] 3)) (by decide) (h.next (alloc_below _ _)) (by decide) (lit_n w [1] #[.int .i64 1] (by decide) rfl (by decide))
    rw [x_rest] at this
    exact this)
  have K8 := Lib.hid (show ∀ A c w, EdAt w w.heap.size A LR → Calls Try.prog 19 #[.slice A 4 c, .int .i64 0, .int .i64 3] w (OutI w 1) from fun A c w h => by have := phops_any A c LR 0 3 w (by decide) (by unfold I64; omega) h; rw [x_ring] at this; exact this)
  have K9 := Lib.hid (show ∀ A c w, EdAt w w.heap.size A LR → Calls Try.prog 23 #[.slice A 4 c, .int .i64 0] w (OutN w VN) from fun A c w h => by have := pcut_any A c LR 0 w (by decide) h; rw [x_cut2] at this; exact this)
  have KA := Lib.hid (show ∀ A c w, EdAt w w.heap.size A LR → Calls Try.prog 25 #[.slice A 4 c, .int .i64 0, .int .i64 2] w (OutI w 1) from fun A c w h => by have := pparent_any A c LR 0 2 w (by decide) h; rw [x_par2] at this; exact this)
  have SB := Lib.hid (show ∀ A c w, EdAt w w.heap.size A LE → Calls Try.prog 27 #[.slice A 1 c, .slice (some ⟨w.heap.size, 0, none⟩) 1 1] (w.alloc (.cells #[.int .i64 2, .int .i64 3] 41)) (OutB (w.alloc (.cells #[.int .i64 2, .int .i64 3] 41)) true) from fun A c w h => by
    exact rsamee_any A (some ⟨w.heap.size, 0, none⟩) c 1 LE (w.alloc (.cells #[.int .i64 2, .int .i64 3] 41)) (by decide) (h.next (alloc_below _ _)) (lit_e w [(2, 3)] #[.int .i64 2, .int .i64 3] (by decide) rfl (by decide)))
  have KC := Lib.hid (show ∀ A c w, EdAt w w.heap.size A LE → Calls Try.prog 17 #[.slice A 1 c, .int .i64 0] w (OutN w V0) from fun A c w h => by have := preach_any A c LE 0 w (by decide) h; unfold LE at this; rw [x_reach] at this; exact this)
  have SC := Lib.hid (show ∀ A c w, FlAt fI w w.heap.size A V0 → Calls Try.prog 14 #[.slice A 1 c, .slice (some ⟨w.heap.size, 0, none⟩) 1 1] (w.alloc (.cells #[.int .i64 0] 3)) (OutB (w.alloc (.cells #[.int .i64 0] 3)) true) from fun A c w h => by
    exact rsamen_any A (some ⟨w.heap.size, 0, none⟩) c 1 V0 (w.alloc (.cells #[.int .i64 0] 3)) (by decide) (h.next (alloc_below _ _)) (lit_n w [0] #[.int .i64 0] (by decide) rfl (by decide)))
  have KD := Lib.hid (show ∀ w : World, Calls Try.prog 12 #[.slice (some ⟨w.heap.size, 0, none⟩) 2 2] (w.alloc (.cells #[.int .i64 0, .int .i64 1, .int .i64 1, .int .i64 0] 41)) (OutI (w.alloc (.cells #[.int .i64 0, .int .i64 1, .int .i64 1, .int .i64 0] 41)) 9) from fun w => by
    have := pcheck_any (some ⟨w.heap.size, 0, none⟩) 2 [(0, 1), (1, 0)] (w.alloc (.cells #[.int .i64 0, .int .i64 1, .int .i64 1, .int .i64 0] 41)) (by decide) (lit_e w [(0, 1), (1, 0)] #[.int .i64 0, .int .i64 1, .int .i64 1, .int .i64 0] (by decide) rfl (by decide))
    rw [x_dup] at this
    exact this)
  have KE := Lib.hid (show ∀ w : World, Calls Try.prog 12 #[.slice (some ⟨w.heap.size, 0, none⟩) 1 1] (w.alloc (.cells #[.int .i64 3, .int .i64 3] 41)) (OutI (w.alloc (.cells #[.int .i64 3, .int .i64 3] 41)) 2) from fun w => by
    have := pcheck_any (some ⟨w.heap.size, 0, none⟩) 1 [(3, 3)] (w.alloc (.cells #[.int .i64 3, .int .i64 3] 41)) (by decide) (lit_e w [(3, 3)] #[.int .i64 3, .int .i64 3] (by decide) rfl (by decide))
    rw [x_rng] at this
    exact this)
  have AP := Lib.hid (append_ring w)
  have N1 : Hid (V02.length = 2) := Lib.hid rfl
  have N5 : Hid (V12.length = 2) := Lib.hid rfl
  have N7 : Hid (LE.length = 1) := Lib.hid rfl
  have N9 : Hid (VN.length = 0) := Lib.hid rfl
  have NC : Hid (V0.length = 1) := Lib.hid rfl
  generalize V02 = v02 at *
  generalize V12 = v12 at *
  generalize V0 = v0 at *
  generalize VN = vn at *
  generalize LE = el at *
  generalize LR = lr at *
  generalize L3 = l3 at *
  go_enter Try.func11, Try.ntmps11
  obtain ⟨XR_A, XR_c, w4, hap, hs, ht, hb⟩ := AP.out
  have XR := Lib.hid hs
  have X0 := Lib.hid ht
  have BR := Lib.hid hb
  clear hs ht hb AP
  go_wp2_with (at_builtin; refine Lib.wpList_append_run _ rfl _ _ _ _ rfl _ _ rfl rfl _ _ hap ?_)
  go_wp2_with fail
  refine (K1.out _ _ _ X0.out).mono ?_
  rintro _ w1 ⟨v, rfl, ho, hb⟩
  obtain ⟨Y1_A, Y1_c, rfl, hs, Y1_h, Y1_n⟩ := ho.read; rw [N1.out]
  have B1 := Lib.hid (BR.out.trans (hb.mono BR.out.size))
  have X0 := Lib.hid (X0.out.next hb)
  have XR := Lib.hid (XR.out.next hb)
  have Y1 := Lib.hid hs
  clear hs ho Y1_n
  clear hb
  go_wp2_with fail
  have BA := Lib.hid (B1.out.alloc B1.out.size (.cells #[.int .i64 0, .int .i64 2] 3))
  have KS := Lib.hid (S1.out _ Y1_c _ Y1.out)
  have X0 := Lib.hid (X0.out.next (alloc_below _ (.cells #[.int .i64 0, .int .i64 2] 3)))
  have XR := Lib.hid (XR.out.next (alloc_below _ (.cells #[.int .i64 0, .int .i64 2] 3)))
  have Y1 := Lib.hid (Y1.out.next (alloc_below _ (.cells #[.int .i64 0, .int .i64 2] 3)))
  refine (KS.out).mono ?_
  rintro _ w2 ⟨rfl, hb⟩
  have B2 := Lib.hid (BA.out.trans (hb.mono BA.out.size))
  have X0 := Lib.hid (X0.out.next hb)
  have XR := Lib.hid (XR.out.next hb)
  have Y1 := Lib.hid (Y1.out.next hb)
  clear hb KS BA
  clear Y1
  go_wp2_with fail
  refine (K2.out _ _ _ X0.out).mono ?_
  rintro _ w3 ⟨rfl, hb⟩
  have B3 := Lib.hid (B2.out.trans (hb.mono B2.out.size))
  have X0 := Lib.hid (X0.out.next hb)
  have XR := Lib.hid (XR.out.next hb)
  clear hb
  go_wp2_with fail
  refine (K3.out _ _ _ X0.out).mono ?_
  rintro _ w4 ⟨rfl, hb⟩
  have B4 := Lib.hid (B3.out.trans (hb.mono B3.out.size))
  have X0 := Lib.hid (X0.out.next hb)
  have XR := Lib.hid (XR.out.next hb)
  clear hb
  go_wp2_with fail
  refine (K4.out _ _ _ X0.out).mono ?_
  rintro _ w5 ⟨rfl, hb⟩
  have B5 := Lib.hid (B4.out.trans (hb.mono B4.out.size))
  have X0 := Lib.hid (X0.out.next hb)
  have XR := Lib.hid (XR.out.next hb)
  clear hb
  go_wp2_with fail
  refine (K5.out _ _ _ X0.out).mono ?_
  rintro _ w6 ⟨v, rfl, ho, hb⟩
  obtain ⟨Y5_A, Y5_c, rfl, hs, Y5_h, Y5_n⟩ := ho.read; rw [N5.out]
  have B6 := Lib.hid (B5.out.trans (hb.mono B5.out.size))
  have X0 := Lib.hid (X0.out.next hb)
  have XR := Lib.hid (XR.out.next hb)
  have Y5 := Lib.hid hs
  clear hs ho Y5_n
  clear hb
  go_wp2_with fail
  have BA := Lib.hid (B6.out.alloc B6.out.size (.cells #[.int .i64 1, .int .i64 2] 3))
  have KS := Lib.hid (S5.out _ Y5_c _ Y5.out)
  have X0 := Lib.hid (X0.out.next (alloc_below _ (.cells #[.int .i64 1, .int .i64 2] 3)))
  have XR := Lib.hid (XR.out.next (alloc_below _ (.cells #[.int .i64 1, .int .i64 2] 3)))
  have Y5 := Lib.hid (Y5.out.next (alloc_below _ (.cells #[.int .i64 1, .int .i64 2] 3)))
  refine (KS.out).mono ?_
  rintro _ w7 ⟨rfl, hb⟩
  have B7 := Lib.hid (BA.out.trans (hb.mono BA.out.size))
  have X0 := Lib.hid (X0.out.next hb)
  have XR := Lib.hid (XR.out.next hb)
  have Y5 := Lib.hid (Y5.out.next hb)
  clear hb KS BA
  clear Y5
  go_wp2_with fail
  refine (K6.out _ _ _ X0.out).mono ?_
  rintro _ w8 ⟨rfl, hb⟩
  have B8 := Lib.hid (B7.out.trans (hb.mono B7.out.size))
  have X0 := Lib.hid (X0.out.next hb)
  have XR := Lib.hid (XR.out.next hb)
  clear hb
  go_wp2_with fail
  have BA := Lib.hid (B8.out.alloc B8.out.size (.cells #[.int .i64 1] 3))
  have KS := Lib.hid (K7.out _ 3 _ X0.out)
  have X0 := Lib.hid (X0.out.next (alloc_below _ (.cells #[.int .i64 1] 3)))
  have XR := Lib.hid (XR.out.next (alloc_below _ (.cells #[.int .i64 1] 3)))
  refine (KS.out).mono ?_
  rintro _ w9 ⟨v, rfl, ho, hb⟩
  obtain ⟨Y7_A, Y7_c, rfl, hs, Y7_h, Y7_n⟩ := ho.read; rw [N7.out]
  have B9 := Lib.hid (BA.out.trans (hb.mono BA.out.size))
  have X0 := Lib.hid (X0.out.next hb)
  have XR := Lib.hid (XR.out.next hb)
  have Y7 := Lib.hid hs
  clear hs ho Y7_n
  clear hb KS BA
  clear X0
  go_wp2_with fail
  refine (K8.out _ _ _ XR.out).mono ?_
  rintro _ w10 ⟨rfl, hb⟩
  have B10 := Lib.hid (B9.out.trans (hb.mono B9.out.size))
  have XR := Lib.hid (XR.out.next hb)
  have Y7 := Lib.hid (Y7.out.next hb)
  clear hb
  go_wp2_with fail
  refine (K9.out _ _ _ XR.out).mono ?_
  rintro _ w11 ⟨v, rfl, ho, hb⟩
  obtain ⟨Y9_A, Y9_c, rfl, hs, Y9_h, Y9_n⟩ := ho.read; rw [N9.out]
  have B11 := Lib.hid (B10.out.trans (hb.mono B10.out.size))
  have XR := Lib.hid (XR.out.next hb)
  have Y7 := Lib.hid (Y7.out.next hb)
  have Y9 := Lib.hid hs
  clear hs ho Y9_n
  clear hb
  clear Y9
  go_wp2_with fail
  refine (KA.out _ _ _ XR.out).mono ?_
  rintro _ w12 ⟨rfl, hb⟩
  have B12 := Lib.hid (B11.out.trans (hb.mono B11.out.size))
  have XR := Lib.hid (XR.out.next hb)
  have Y7 := Lib.hid (Y7.out.next hb)
  clear hb
  clear XR
  go_wp2_with fail
  have BA := Lib.hid (B12.out.alloc B12.out.size (.cells #[.int .i64 2, .int .i64 3] 41))
  have KS := Lib.hid (SB.out _ Y7_c _ Y7.out)
  have Y7 := Lib.hid (Y7.out.next (alloc_below _ (.cells #[.int .i64 2, .int .i64 3] 41)))
  refine (KS.out).mono ?_
  rintro _ w13 ⟨rfl, hb⟩
  have B13 := Lib.hid (BA.out.trans (hb.mono BA.out.size))
  have Y7 := Lib.hid (Y7.out.next hb)
  clear hb KS BA
  go_wp2_with fail
  refine (KC.out _ _ _ Y7.out).mono ?_
  rintro _ w14 ⟨v, rfl, ho, hb⟩
  obtain ⟨YC_A, YC_c, rfl, hs, YC_h, YC_n⟩ := ho.read; rw [NC.out]
  have B14 := Lib.hid (B13.out.trans (hb.mono B13.out.size))
  have Y7 := Lib.hid (Y7.out.next hb)
  have YC := Lib.hid hs
  clear hs ho YC_n
  clear hb
  clear Y7
  go_wp2_with fail
  have BA := Lib.hid (B14.out.alloc B14.out.size (.cells #[.int .i64 0] 3))
  have KS := Lib.hid (SC.out _ YC_c _ YC.out)
  have YC := Lib.hid (YC.out.next (alloc_below _ (.cells #[.int .i64 0] 3)))
  refine (KS.out).mono ?_
  rintro _ w15 ⟨rfl, hb⟩
  have B15 := Lib.hid (BA.out.trans (hb.mono BA.out.size))
  have YC := Lib.hid (YC.out.next hb)
  clear hb KS BA
  clear YC
  go_wp2_with fail
  have BA := Lib.hid (B15.out.alloc B15.out.size (.cells #[.int .i64 0, .int .i64 1, .int .i64 1, .int .i64 0] 41))
  have KS := Lib.hid (KD.out w15)
  refine (KS.out).mono ?_
  rintro _ w16 ⟨rfl, hb⟩
  have B16 := Lib.hid (BA.out.trans (hb.mono BA.out.size))
  clear hb KS BA
  go_wp2_with fail
  have BA := Lib.hid (B16.out.alloc B16.out.size (.cells #[.int .i64 3, .int .i64 3] 41))
  have KS := Lib.hid (KE.out w16)
  refine (KS.out).mono ?_
  rintro _ w17 ⟨rfl, hb⟩
  have B17 := Lib.hid (BA.out.trans (hb.mono BA.out.size))
  clear hb KS BA
  go_wp2_with fail
  go_ret
  exact outB rfl B17.out
end Go.Proofs.Ytdmakcjcocghhaa.Tpo
