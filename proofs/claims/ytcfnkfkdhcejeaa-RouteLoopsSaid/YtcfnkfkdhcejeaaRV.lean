/- Tables as arguments; the chapter's examples. -/
import Derived.Test.YtcfnkfkdhcejeaaRU
set_option linter.unusedVariables false
namespace Go.Proofs.Ytcfnkfkdhcejeaa.Rte
open Go.RowKit

section
open Go.ChangeShapes Go.WideShapes
variable {H : Type} {enc : TypeId × Value → H}
theorem routes_at {W : World} {fuel : Nat} {sp : Nat → Bool} {hd : Bool} {A : Option Addr} {n c : Nat} {x : DataW H × List MemPlace} (hf : DataW.trod enc Try.prog W 0 sp hd fuel 22 [.slice A n c] = some x) :
    ∃ l, n = List.length l ∧ RtAt W W.heap.size A l ∧ l.length ≤ 9223372036854775807 ∧ l.length ≤ c ∧ (A = none → c = 0) := by
  refine flat_open Try.underlying22 (by kernel_rfl) (fun q cs y hl ht => ?_) hf
  obtain ⟨xs, q, _, _, _, hxl, hfi⟩ := DataW.trod_struct Try.underlying43 ht
  match cs, hl with
  | [c0, c1, c2, c3], _ =>
    have f0 : DataW.trod enc Try.prog W 0 sp hd q 3 [c0] = xs[0]? := hfi 0 _ rfl
    have f1 : DataW.trod enc Try.prog W 0 sp hd q 3 [c1] = xs[1]? := hfi 1 _ rfl
    have f2 : DataW.trod enc Try.prog W 0 sp hd q 3 [c2] = xs[2]? := hfi 2 _ rfl
    have f3 : DataW.trod enc Try.prog W 0 sp hd q 3 [c3] = xs[3]? := hfi 3 _ rfl
    rw [List.getElem?_eq_getElem (by rw [hxl]; decide)] at f0 f1 f2 f3
    obtain ⟨n0, e0, _, w0⟩ := DataW.trod_int Try.underlying3 f0
    obtain ⟨n1, e1, _, w1⟩ := DataW.trod_int Try.underlying3 f1
    obtain ⟨n2, e2, _, w2⟩ := DataW.trod_int Try.underlying3 f2
    obtain ⟨n3, e3, _, w3⟩ := DataW.trod_int Try.underlying3 f3
    obtain rfl : c0 = .int .i64 n0 := by simpa using e0
    obtain rfl : c1 = .int .i64 n1 := by simpa using e1
    obtain rfl : c2 = .int .i64 n2 := by simpa using e2
    obtain rfl : c3 = .int .i64 n3 := by simpa using e3
    exact ⟨(n0, n1, n2, n3), rfl, lit_i64 w0, lit_i64 w1, lit_i64 w2, lit_i64 w3⟩
end

/-! The tables of the examples. -/
def T0 : List Rt := [(1, 0, 0, 1)]
def T1 : List Rt := [(0, 4, 30, 2), (1, 0, 0, 1), (2, 6, 10, 2)]
def T2 : List Rt := [(0, 5, 255, 255), (1, 0, 0, 1), (2, 7, 255, 255)]
def T3 : List Rt := [(0, 6, 15, 3), (1, 0, 0, 1), (2, 7, 255, 255)]
def T4 : List Rt := [(0, 6, 15, 255), (1, 0, 0, 255), (2, 7, 255, 255)]
set_option maxRecDepth 100000 in
theorem t0_eq : nw 1 = T0 := by decide
set_option maxRecDepth 100000 in
theorem t1_eq : upd T0 1 2 10 [(0, 4, 20, 0), (2, 6, 0, 0)] = T1 := by decide
set_option maxRecDepth 100000 in
theorem t1_hop : hop T1 0 = (2, true) := by decide
set_option maxRecDepth 100000 in
theorem t2_eq : brk T1 1 2 = T2 := by decide
set_option maxRecDepth 100000 in
theorem t2_hop : hop T2 0 = (0, false) := by decide
set_option maxRecDepth 100000 in
theorem t2_upd : upd T2 1 3 10 [(0, 4, 5, 0)] = T2 := by decide
set_option maxRecDepth 100000 in
theorem t3_eq : upd T2 1 3 10 [(0, 6, 5, 0)] = T3 := by decide
set_option maxRecDepth 100000 in
theorem t3_chk : chk T3 1 = 0 := by decide
theorem t4_eq : dec (enc T3) = (T4, 0) := dec_enc ((chk_zero T3 1).1 t3_chk)
theorem i64_s {n : Int} (h : -1000000 ≤ n ∧ n ≤ 1000000) : I64 n := by unfold I64; omega
/-- A literal of routes. -/
theorem lit_at (w : World) (l : List Rt) (cs : Array Value) (hn : l.length ≤ 1000) (hc : cs.toList = l.flatMap fR.enc) (hok : ∀ x ∈ l, fR.ok x) : RtAt (w.alloc (.cells cs 43)) (w.alloc (.cells cs 43)).heap.size (some ⟨w.heap.size, 0, none⟩) l :=
  FlAt.lit (F := fR) w l cs 43 (by unfold maxLen; omega) hc hok
theorem ok_small {l : List Rt} (h : ∀ x ∈ l, (-1000000 ≤ x.1 ∧ x.1 ≤ 1000000) ∧ (-1000000 ≤ x.2.1 ∧ x.2.1 ≤ 1000000) ∧ (-1000000 ≤ x.2.2.1 ∧ x.2.2.1 ≤ 1000000) ∧ (-1000000 ≤ x.2.2.2 ∧ x.2.2.2 ≤ 1000000)) : ∀ x ∈ l, fR.ok x := fun x hx =>
  ⟨i64_s (h x hx).1, i64_s (h x hx).2.1, i64_s (h x hx).2.2.1, i64_s (h x hx).2.2.2⟩

set_option maxRecDepth 100000 in
set_option maxHeartbeats 4000000 in
theorem awake_any (w : World) : Calls Try.prog 10 #[] w (OutB w true) := by
  have K1 := Lib.hid (show ∀ w, Calls Try.prog 12 #[.int .i64 1] w (OutT w T0) from fun w => by have := pnew_any 1 w; rw [t0_eq] at this; exact this)
  have K2 := Lib.hid (show ∀ A c w, RtAt w w.heap.size A T0 → Calls Try.prog 18 #[.slice A 1 c, .int .i64 1, .int .i64 2, .int .i64 10, .slice (some ⟨w.heap.size, 0, none⟩) 2 2] (w.alloc (.cells #[.int .i64 0, .int .i64 4, .int .i64 20, .int .i64 0, .int .i64 2, .int .i64 6, .int .i64 0, .int .i64 0] 43)) (OutT (w.alloc (.cells #[.int .i64 0, .int .i64 4, .int .i64 20, .int .i64 0, .int .i64 2, .int .i64 6, .int .i64 0, .int .i64 0] 43)) T1) from fun A c w h => by
    have := pupd_any A c T0 1 2 10 (some ⟨w.heap.size, 0, none⟩) 2 [(0, 4, 20, 0), (2, 6, 0, 0)] (w.alloc (.cells #[.int .i64 0, .int .i64 4, .int .i64 20, .int .i64 0, .int .i64 2, .int .i64 6, .int .i64 0, .int .i64 0] 43)) (by decide) (h.next (alloc_below _ _)) (by decide) (lit_at w [(0, 4, 20, 0), (2, 6, 0, 0)] #[.int .i64 0, .int .i64 4, .int .i64 20, .int .i64 0, .int .i64 2, .int .i64 6, .int .i64 0, .int .i64 0] (by decide) rfl (ok_small (by decide)))
    rw [t1_eq] at this
    exact this)
  have K3 := Lib.hid (show ∀ A c w, RtAt w w.heap.size A T1 → Calls Try.prog 20 #[.slice A 3 c, .int .i64 0] w (OutP w (2, true)) from fun A c w h => by have := phop_any A c T1 0 w (by decide) h; rw [t1_hop] at this; exact this)
  have K4 := Lib.hid (show ∀ A c w, RtAt w w.heap.size A T1 → Calls Try.prog 22 #[.slice A 3 c, .int .i64 1, .int .i64 2] w (OutT w T2) from fun A c w h => by have := pbreak_any A c T1 1 2 w (by decide) h; rw [t2_eq] at this; exact this)
  have K5 := Lib.hid (show ∀ A c w, RtAt w w.heap.size A T2 → Calls Try.prog 20 #[.slice A 3 c, .int .i64 0] w (OutP w (0, false)) from fun A c w h => by have := phop_any A c T2 0 w (by decide) h; rw [t2_hop] at this; exact this)
  have K6 := Lib.hid (show ∀ A c w, RtAt w w.heap.size A T2 → Calls Try.prog 18 #[.slice A 3 c, .int .i64 1, .int .i64 3, .int .i64 10, .slice (some ⟨w.heap.size, 0, none⟩) 1 1] (w.alloc (.cells #[.int .i64 0, .int .i64 4, .int .i64 5, .int .i64 0] 43)) (OutT (w.alloc (.cells #[.int .i64 0, .int .i64 4, .int .i64 5, .int .i64 0] 43)) T2) from fun A c w h => by
    have := pupd_any A c T2 1 3 10 (some ⟨w.heap.size, 0, none⟩) 1 [(0, 4, 5, 0)] (w.alloc (.cells #[.int .i64 0, .int .i64 4, .int .i64 5, .int .i64 0] 43)) (by decide) (h.next (alloc_below _ _)) (by decide) (lit_at w [(0, 4, 5, 0)] #[.int .i64 0, .int .i64 4, .int .i64 5, .int .i64 0] (by decide) rfl (ok_small (by decide)))
    rw [t2_upd] at this
    exact this)
  have K7 := Lib.hid (show ∀ A c w, RtAt w w.heap.size A T2 → Calls Try.prog 18 #[.slice A 3 c, .int .i64 1, .int .i64 3, .int .i64 10, .slice (some ⟨w.heap.size, 0, none⟩) 1 1] (w.alloc (.cells #[.int .i64 0, .int .i64 6, .int .i64 5, .int .i64 0] 43)) (OutT (w.alloc (.cells #[.int .i64 0, .int .i64 6, .int .i64 5, .int .i64 0] 43)) T3) from fun A c w h => by
    have := pupd_any A c T2 1 3 10 (some ⟨w.heap.size, 0, none⟩) 1 [(0, 6, 5, 0)] (w.alloc (.cells #[.int .i64 0, .int .i64 6, .int .i64 5, .int .i64 0] 43)) (by decide) (h.next (alloc_below _ _)) (by decide) (lit_at w [(0, 6, 5, 0)] #[.int .i64 0, .int .i64 6, .int .i64 5, .int .i64 0] (by decide) rfl (ok_small (by decide)))
    rw [t3_eq] at this
    exact this)
  have K8 := Lib.hid (show ∀ A c w, RtAt w w.heap.size A T3 → Calls Try.prog 26 #[.slice A 3 c] w (OutS w (enc T3)) from fun A c w h => penc_any A c T3 w (by decide) h)
  have K9 := Lib.hid (show ∀ w, Calls Try.prog 24 #[.string (bs (enc T3))] w (OutD w (T4, 0)) from fun w => by have := pdec_any (bs (enc T3)) w (by rw [bs_size]; have := enc_len_le T3; omega); rw [bs_data, t4_eq] at this; exact this)
  have KA := Lib.hid (show ∀ A c w, RtAt w w.heap.size A T1 → Calls Try.prog 11 #[.slice A 3 c, .slice (some ⟨w.heap.size, 0, none⟩) 3 3] (w.alloc (.cells #[.int .i64 0, .int .i64 4, .int .i64 30, .int .i64 2, .int .i64 1, .int .i64 0, .int .i64 0, .int .i64 1, .int .i64 2, .int .i64 6, .int .i64 10, .int .i64 2] 43)) (OutB (w.alloc (.cells #[.int .i64 0, .int .i64 4, .int .i64 30, .int .i64 2, .int .i64 1, .int .i64 0, .int .i64 0, .int .i64 1, .int .i64 2, .int .i64 6, .int .i64 10, .int .i64 2] 43)) true) from fun A c w h => by
    exact rsame_any A (some ⟨w.heap.size, 0, none⟩) c 3 T1 (w.alloc (.cells #[.int .i64 0, .int .i64 4, .int .i64 30, .int .i64 2, .int .i64 1, .int .i64 0, .int .i64 0, .int .i64 1, .int .i64 2, .int .i64 6, .int .i64 10, .int .i64 2] 43)) (by decide) (h.next (alloc_below _ _)) (lit_at w [(0, 4, 30, 2), (1, 0, 0, 1), (2, 6, 10, 2)] #[.int .i64 0, .int .i64 4, .int .i64 30, .int .i64 2, .int .i64 1, .int .i64 0, .int .i64 0, .int .i64 1, .int .i64 2, .int .i64 6, .int .i64 10, .int .i64 2] (by decide) rfl (ok_small (by decide))))
  have KB := Lib.hid (show ∀ A1 A2 c1 c2 w, RtAt w w.heap.size A1 T2 → RtAt w w.heap.size A2 T2 → Calls Try.prog 11 #[.slice A1 3 c1, .slice A2 3 c2] w (OutB w true) from fun A1 A2 c1 c2 w h1 h2 => rsame_any A1 A2 c1 c2 T2 w (by decide) h1 h2)
  have KC := Lib.hid (show ∀ A c w, RtAt w w.heap.size A T3 → Calls Try.prog 11 #[.slice A 3 c, .slice (some ⟨w.heap.size, 0, none⟩) 3 3] (w.alloc (.cells #[.int .i64 0, .int .i64 6, .int .i64 15, .int .i64 3, .int .i64 1, .int .i64 0, .int .i64 0, .int .i64 1, .int .i64 2, .int .i64 7, .int .i64 255, .int .i64 255] 43)) (OutB (w.alloc (.cells #[.int .i64 0, .int .i64 6, .int .i64 15, .int .i64 3, .int .i64 1, .int .i64 0, .int .i64 0, .int .i64 1, .int .i64 2, .int .i64 7, .int .i64 255, .int .i64 255] 43)) true) from fun A c w h => by
    exact rsame_any A (some ⟨w.heap.size, 0, none⟩) c 3 T3 (w.alloc (.cells #[.int .i64 0, .int .i64 6, .int .i64 15, .int .i64 3, .int .i64 1, .int .i64 0, .int .i64 0, .int .i64 1, .int .i64 2, .int .i64 7, .int .i64 255, .int .i64 255] 43)) (by decide) (h.next (alloc_below _ _)) (lit_at w [(0, 6, 15, 3), (1, 0, 0, 1), (2, 7, 255, 255)] #[.int .i64 0, .int .i64 6, .int .i64 15, .int .i64 3, .int .i64 1, .int .i64 0, .int .i64 0, .int .i64 1, .int .i64 2, .int .i64 7, .int .i64 255, .int .i64 255] (by decide) rfl (ok_small (by decide))))
  have KD := Lib.hid (show ∀ A c w, RtAt w w.heap.size A T3 → Calls Try.prog 14 #[.slice A 3 c, .int .i64 1] w (OutI w 0) from fun A c w h => by have := pcheck_any A c T3 1 w (by decide) h; rw [t3_chk] at this; exact this)
  have N0 : Hid (T0.length = 1) := Lib.hid rfl
  have N1 : Hid (T1.length = 3) := Lib.hid rfl
  have N2 : Hid (T2.length = 3) := Lib.hid rfl
  have N3 : Hid (T3.length = 3) := Lib.hid rfl
  have N4 : Hid (T4.length = 3) := Lib.hid rfl
  have C4 := Lib.hid (show ∀ A w, RtAt w w.heap.size A T4 → ∃ b p, A = some ⟨b, p, none⟩ ∧ w.cell? ⟨b, p + 2, none⟩ = some (.int .i64 15) from fun A w h => by
    obtain ⟨b, p, e, _, _, _, g2, _⟩ := rt_cell h 0 (by decide)
    rw [Nat.zero_mul, Nat.add_zero] at g2
    exact ⟨b, p, e, g2⟩)
  unfold OutP OutS at *
  generalize enc T3 = s3 at *
  generalize T0 = t0 at *
  generalize T1 = t1 at *
  generalize T2 = t2 at *
  generalize T3 = t3 at *
  generalize T4 = t4 at *
  go_enter Try.func10, Try.ntmps10
  go_wp2_with fail
  refine (K1.out _).mono ?_
  rintro _ w1 ⟨v, rfl, ho, hb⟩
  obtain ⟨X0_A, X0_c, rfl, hs, X0_h, X0_n⟩ := ho.read; rw [N0.out]
  have B1 := Lib.hid hb
  have X0 := Lib.hid hs
  clear hs ho X0_n
  clear hb
  go_wp2_with fail
  have BA := Lib.hid (B1.out.alloc B1.out.size (.cells #[.int .i64 0, .int .i64 4, .int .i64 20, .int .i64 0, .int .i64 2, .int .i64 6, .int .i64 0, .int .i64 0] 43))
  have KS := Lib.hid (K2.out _ X0_c _ X0.out)
  have X0 := Lib.hid (X0.out.next (alloc_below _ (.cells #[.int .i64 0, .int .i64 4, .int .i64 20, .int .i64 0, .int .i64 2, .int .i64 6, .int .i64 0, .int .i64 0] 43)))
  refine (KS.out).mono ?_
  rintro _ w2 ⟨v, rfl, ho, hb⟩
  obtain ⟨X1_A, X1_c, rfl, hs, X1_h, X1_n⟩ := ho.read; rw [N1.out]
  have B2 := Lib.hid (BA.out.trans (hb.mono BA.out.size))
  have X0 := Lib.hid (X0.out.next hb)
  have X1 := Lib.hid hs
  clear hs ho X1_n
  clear hb KS BA
  go_wp2_with fail
  refine (K3.out _ _ _ X1.out).mono ?_
  rintro _ w3 ⟨rfl, hb⟩
  have B3 := Lib.hid (B2.out.trans (hb.mono B2.out.size))
  have X1 := Lib.hid (X1.out.next hb)
  clear hb
  go_wp2_with fail
  refine (K4.out _ _ _ X1.out).mono ?_
  rintro _ w4 ⟨v, rfl, ho, hb⟩
  obtain ⟨X2_A, X2_c, rfl, hs, X2_h, X2_n⟩ := ho.read; rw [N2.out]
  have B4 := Lib.hid (B3.out.trans (hb.mono B3.out.size))
  have X1 := Lib.hid (X1.out.next hb)
  have X2 := Lib.hid hs
  clear hs ho X2_n
  clear hb
  go_wp2_with fail
  refine (K5.out _ _ _ X2.out).mono ?_
  rintro _ w5 ⟨rfl, hb⟩
  have B5 := Lib.hid (B4.out.trans (hb.mono B4.out.size))
  have X1 := Lib.hid (X1.out.next hb)
  have X2 := Lib.hid (X2.out.next hb)
  clear hb
  go_wp2_with fail
  have BA := Lib.hid (B5.out.alloc B5.out.size (.cells #[.int .i64 0, .int .i64 4, .int .i64 5, .int .i64 0] 43))
  have KS := Lib.hid (K6.out _ X2_c _ X2.out)
  have X1 := Lib.hid (X1.out.next (alloc_below _ (.cells #[.int .i64 0, .int .i64 4, .int .i64 5, .int .i64 0] 43)))
  have X2 := Lib.hid (X2.out.next (alloc_below _ (.cells #[.int .i64 0, .int .i64 4, .int .i64 5, .int .i64 0] 43)))
  refine (KS.out).mono ?_
  rintro _ w6 ⟨v, rfl, ho, hb⟩
  obtain ⟨X3_A, X3_c, rfl, hs, X3_h, X3_n⟩ := ho.read; rw [N2.out]
  have B6 := Lib.hid (BA.out.trans (hb.mono BA.out.size))
  have X1 := Lib.hid (X1.out.next hb)
  have X2 := Lib.hid (X2.out.next hb)
  have X3 := Lib.hid hs
  clear hs ho X3_n
  clear hb KS BA
  go_wp2_with fail
  have BA := Lib.hid (B6.out.alloc B6.out.size (.cells #[.int .i64 0, .int .i64 6, .int .i64 5, .int .i64 0] 43))
  have KS := Lib.hid (K7.out _ X2_c _ X2.out)
  have X1 := Lib.hid (X1.out.next (alloc_below _ (.cells #[.int .i64 0, .int .i64 6, .int .i64 5, .int .i64 0] 43)))
  have X2 := Lib.hid (X2.out.next (alloc_below _ (.cells #[.int .i64 0, .int .i64 6, .int .i64 5, .int .i64 0] 43)))
  have X3 := Lib.hid (X3.out.next (alloc_below _ (.cells #[.int .i64 0, .int .i64 6, .int .i64 5, .int .i64 0] 43)))
  refine (KS.out).mono ?_
  rintro _ w7 ⟨v, rfl, ho, hb⟩
  obtain ⟨X4_A, X4_c, rfl, hs, X4_h, X4_n⟩ := ho.read; rw [N3.out]
  have B7 := Lib.hid (BA.out.trans (hb.mono BA.out.size))
  have X1 := Lib.hid (X1.out.next hb)
  have X2 := Lib.hid (X2.out.next hb)
  have X3 := Lib.hid (X3.out.next hb)
  have X4 := Lib.hid hs
  clear hs ho X4_n
  clear hb KS BA
  go_wp2_with fail
  refine (K8.out _ _ _ X4.out).mono ?_
  rintro _ w8 ⟨rfl, hb⟩
  have B8 := Lib.hid (B7.out.trans (hb.mono B7.out.size))
  have X1 := Lib.hid (X1.out.next hb)
  have X2 := Lib.hid (X2.out.next hb)
  have X3 := Lib.hid (X3.out.next hb)
  have X4 := Lib.hid (X4.out.next hb)
  clear hb
  go_wp2_with fail
  refine (K9.out _).mono ?_
  rintro _ w9 ⟨v, rfl, ho, hb⟩
  obtain ⟨X5_A, X5_c, rfl, hs, X5_h, X5_n⟩ := ho.read; rw [N4.out]
  have B9 := Lib.hid (B8.out.trans (hb.mono B8.out.size))
  have X1 := Lib.hid (X1.out.next hb)
  have X2 := Lib.hid (X2.out.next hb)
  have X3 := Lib.hid (X3.out.next hb)
  have X4 := Lib.hid (X4.out.next hb)
  have X5 := Lib.hid hs
  clear hs ho X5_n
  clear hb
  go_wp2_with fail
  have BA := Lib.hid (B9.out.alloc B9.out.size (.cells #[.int .i64 0, .int .i64 4, .int .i64 30, .int .i64 2, .int .i64 1, .int .i64 0, .int .i64 0, .int .i64 1, .int .i64 2, .int .i64 6, .int .i64 10, .int .i64 2] 43))
  have KS := Lib.hid (KA.out _ X1_c _ X1.out)
  have X1 := Lib.hid (X1.out.next (alloc_below _ (.cells #[.int .i64 0, .int .i64 4, .int .i64 30, .int .i64 2, .int .i64 1, .int .i64 0, .int .i64 0, .int .i64 1, .int .i64 2, .int .i64 6, .int .i64 10, .int .i64 2] 43)))
  have X2 := Lib.hid (X2.out.next (alloc_below _ (.cells #[.int .i64 0, .int .i64 4, .int .i64 30, .int .i64 2, .int .i64 1, .int .i64 0, .int .i64 0, .int .i64 1, .int .i64 2, .int .i64 6, .int .i64 10, .int .i64 2] 43)))
  have X3 := Lib.hid (X3.out.next (alloc_below _ (.cells #[.int .i64 0, .int .i64 4, .int .i64 30, .int .i64 2, .int .i64 1, .int .i64 0, .int .i64 0, .int .i64 1, .int .i64 2, .int .i64 6, .int .i64 10, .int .i64 2] 43)))
  have X4 := Lib.hid (X4.out.next (alloc_below _ (.cells #[.int .i64 0, .int .i64 4, .int .i64 30, .int .i64 2, .int .i64 1, .int .i64 0, .int .i64 0, .int .i64 1, .int .i64 2, .int .i64 6, .int .i64 10, .int .i64 2] 43)))
  have X5 := Lib.hid (X5.out.next (alloc_below _ (.cells #[.int .i64 0, .int .i64 4, .int .i64 30, .int .i64 2, .int .i64 1, .int .i64 0, .int .i64 0, .int .i64 1, .int .i64 2, .int .i64 6, .int .i64 10, .int .i64 2] 43)))
  refine (KS.out).mono ?_
  rintro _ w10 ⟨rfl, hb⟩
  have B10 := Lib.hid (BA.out.trans (hb.mono BA.out.size))
  have X1 := Lib.hid (X1.out.next hb)
  have X2 := Lib.hid (X2.out.next hb)
  have X3 := Lib.hid (X3.out.next hb)
  have X4 := Lib.hid (X4.out.next hb)
  have X5 := Lib.hid (X5.out.next hb)
  clear hb KS BA
  go_wp2_with fail
  refine (KB.out _ _ _ _ _ X2.out X3.out).mono ?_
  rintro _ w11 ⟨rfl, hb⟩
  have B11 := Lib.hid (B10.out.trans (hb.mono B10.out.size))
  have X1 := Lib.hid (X1.out.next hb)
  have X2 := Lib.hid (X2.out.next hb)
  have X3 := Lib.hid (X3.out.next hb)
  have X4 := Lib.hid (X4.out.next hb)
  have X5 := Lib.hid (X5.out.next hb)
  clear hb
  go_wp2_with fail
  have BA := Lib.hid (B11.out.alloc B11.out.size (.cells #[.int .i64 0, .int .i64 6, .int .i64 15, .int .i64 3, .int .i64 1, .int .i64 0, .int .i64 0, .int .i64 1, .int .i64 2, .int .i64 7, .int .i64 255, .int .i64 255] 43))
  have KS := Lib.hid (KC.out _ X4_c _ X4.out)
  have X1 := Lib.hid (X1.out.next (alloc_below _ (.cells #[.int .i64 0, .int .i64 6, .int .i64 15, .int .i64 3, .int .i64 1, .int .i64 0, .int .i64 0, .int .i64 1, .int .i64 2, .int .i64 7, .int .i64 255, .int .i64 255] 43)))
  have X2 := Lib.hid (X2.out.next (alloc_below _ (.cells #[.int .i64 0, .int .i64 6, .int .i64 15, .int .i64 3, .int .i64 1, .int .i64 0, .int .i64 0, .int .i64 1, .int .i64 2, .int .i64 7, .int .i64 255, .int .i64 255] 43)))
  have X3 := Lib.hid (X3.out.next (alloc_below _ (.cells #[.int .i64 0, .int .i64 6, .int .i64 15, .int .i64 3, .int .i64 1, .int .i64 0, .int .i64 0, .int .i64 1, .int .i64 2, .int .i64 7, .int .i64 255, .int .i64 255] 43)))
  have X4 := Lib.hid (X4.out.next (alloc_below _ (.cells #[.int .i64 0, .int .i64 6, .int .i64 15, .int .i64 3, .int .i64 1, .int .i64 0, .int .i64 0, .int .i64 1, .int .i64 2, .int .i64 7, .int .i64 255, .int .i64 255] 43)))
  have X5 := Lib.hid (X5.out.next (alloc_below _ (.cells #[.int .i64 0, .int .i64 6, .int .i64 15, .int .i64 3, .int .i64 1, .int .i64 0, .int .i64 0, .int .i64 1, .int .i64 2, .int .i64 7, .int .i64 255, .int .i64 255] 43)))
  refine (KS.out).mono ?_
  rintro _ w12 ⟨rfl, hb⟩
  have B12 := Lib.hid (BA.out.trans (hb.mono BA.out.size))
  have X1 := Lib.hid (X1.out.next hb)
  have X2 := Lib.hid (X2.out.next hb)
  have X3 := Lib.hid (X3.out.next hb)
  have X4 := Lib.hid (X4.out.next hb)
  have X5 := Lib.hid (X5.out.next hb)
  clear hb KS BA
  obtain ⟨b5, p5, rfl, g5⟩ := C4.out _ _ X5.out
  go_wp2_with fail
  refine (KD.out _ _ _ X4.out).mono ?_
  rintro _ w13 ⟨rfl, hb⟩
  have B13 := Lib.hid (B12.out.trans (hb.mono B12.out.size))
  have X1 := Lib.hid (X1.out.next hb)
  have X2 := Lib.hid (X2.out.next hb)
  have X3 := Lib.hid (X3.out.next hb)
  have X4 := Lib.hid (X4.out.next hb)
  have X5 := Lib.hid (X5.out.next hb)
  clear hb
  go_wp2_with fail
  go_ret
  exact outB rfl B13.out
end Go.Proofs.Ytcfnkfkdhcejeaa.Rte
