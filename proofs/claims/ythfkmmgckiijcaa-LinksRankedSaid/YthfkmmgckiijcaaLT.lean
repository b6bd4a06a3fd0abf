/- Tables as arguments; the chapter's examples. -/
import Derived.Test.YthfkmmgckiijcaaLR
set_option linter.unusedVariables false
namespace Go.Proofs.Ythfkmmgckiijcaa.Lnk
open Go.RowKit

section
open Go.ChangeShapes Go.WideShapes
variable {H : Type} {enc : TypeId × Value → H}
theorem links_at {W : World} {fuel : Nat} {sp : Nat → Bool} {hd : Bool} {A : Option Addr} {n c : Nat} {x : DataW H × List MemPlace} (hf : DataW.trod enc Try.prog W 0 sp hd fuel 22 [.slice A n c] = some x) :
    ∃ l, n = List.length l ∧ LkAt W W.heap.size A l ∧ l.length ≤ 9223372036854775807 ∧ l.length ≤ c ∧ (A = none → c = 0) := by
  refine flat_open Try.underlying22 (by kernel_rfl) (fun q cs y hl ht => ?_) hf
  obtain ⟨xs, q, _, _, _, hxl, hfi⟩ := DataW.trod_struct Try.underlying38 ht
  match cs, hl with
  | [c0, c1, c2], _ =>
    have f0 : DataW.trod enc Try.prog W 0 sp hd q 3 [c0] = xs[0]? := hfi 0 _ rfl
    have f1 : DataW.trod enc Try.prog W 0 sp hd q 3 [c1] = xs[1]? := hfi 1 _ rfl
    have f2 : DataW.trod enc Try.prog W 0 sp hd q 3 [c2] = xs[2]? := hfi 2 _ rfl
    rw [List.getElem?_eq_getElem (by rw [hxl]; decide)] at f0 f1 f2
    obtain ⟨n0, e0, _, w0⟩ := DataW.trod_int Try.underlying3 f0
    obtain ⟨n1, e1, _, w1⟩ := DataW.trod_int Try.underlying3 f1
    obtain ⟨n2, e2, _, w2⟩ := DataW.trod_int Try.underlying3 f2
    obtain rfl : c0 = .int .i64 n0 := by simpa using e0
    obtain rfl : c1 = .int .i64 n1 := by simpa using e1
    obtain rfl : c2 = .int .i64 n2 := by simpa using e2
    exact ⟨(n0, n1, n2), rfl, lit_i64 w0, lit_i64 w1, lit_i64 w2⟩
end

/-! The tables of the examples. -/
def T1 : List Lk := sen [] 5 1
def T2 : List Lk := sen T1 5 0
def T3 : List Lk := sen T2 5 1
def TM : List Lk := sen T3 2 0
set_option maxRecDepth 100000 in
theorem t1_eq : T1 = [(5, 1, 1)] := by decide
set_option maxRecDepth 100000 in
theorem t2_eq : T2 = [(5, 2, 2)] := by unfold T2; rw [t1_eq]; decide
set_option maxRecDepth 100000 in
theorem t3_eq : T3 = [(5, 5, 3)] := by unfold T3; rw [t2_eq]; decide
set_option maxRecDepth 100000 in
theorem tm_eq : TM = [(2, 0, 1), (5, 5, 3)] := by unfold TM; rw [t3_eq]; decide
set_option maxRecDepth 100000 in
theorem t3_cost : cost T3 5 = 15 := by rw [t3_eq]; decide
set_option maxRecDepth 100000 in
theorem t3_qual : quality T3 5 = 66 := by rw [t3_eq]; decide
set_option maxRecDepth 100000 in
theorem tm_cost : cost TM 2 = 255 := by rw [tm_eq]; decide
set_option maxRecDepth 100000 in
theorem tm_best : bst TM = [5] := by
  have hv : vl TM = [(2, 0, 1), (5, 5, 3)] := by rw [tm_eq]; decide
  have := nbs_best (l := TM) (sl := [(5, 5, 3), (2, 0, 1)]) (by rw [hv]; exact List.Perm.swap _ _ _) (by unfold Srt; decide)
  rw [← this]
  decide

set_option maxRecDepth 100000 in
set_option maxHeartbeats 4000000 in
theorem awake_any (w : World) : Calls Try.prog 11 #[] w (OutB w true) := by
  have n1 : T1.length ≤ 24 := (sen_val [] 5 1 (Or.inr rfl)).1
  have n2 : T2.length ≤ 24 := (sen_val T1 5 0 (Or.inl rfl)).1
  have n3 : T3.length ≤ 24 := (sen_val T2 5 1 (Or.inr rfl)).1
  have n4 : TM.length ≤ 24 := (sen_val T3 2 0 (Or.inl rfl)).1
  have K1 := Lib.hid (show ∀ w, Calls Try.prog 13 #[.slice none 0 0, .int .i64 5, .bool true] w (OutF fL w T1) from fun w => lseen_any none 0 [] 5 w (by simp) (by simp) (fun _ => rfl) (FlAt.nil _ _ _) true)
  have K2 := Lib.hid (show ∀ A c w, T1.length ≤ c → (A = none → c = 0) → LkAt w w.heap.size A T1 → Calls Try.prog 13 #[.slice A T1.length c, .int .i64 5, .bool false] w (OutF fL w T2) from fun A c w h1 h2 h3 => lseen_any A c T1 5 w (by omega) h1 h2 h3 false)
  have K3 := Lib.hid (show ∀ A c w, T2.length ≤ c → (A = none → c = 0) → LkAt w w.heap.size A T2 → Calls Try.prog 13 #[.slice A T2.length c, .int .i64 5, .bool true] w (OutF fL w T3) from fun A c w h1 h2 h3 => lseen_any A c T2 5 w (by omega) h1 h2 h3 true)
  have K4 := Lib.hid (show ∀ A c w, T3.length ≤ c → (A = none → c = 0) → LkAt w w.heap.size A T3 → Calls Try.prog 13 #[.slice A T3.length c, .int .i64 2, .bool false] w (OutF fL w TM) from fun A c w h1 h2 h3 => lseen_any A c T3 2 w (by omega) h1 h2 h3 false)
  have K5 := Lib.hid (show ∀ A c w, LkAt w w.heap.size A T3 → Calls Try.prog 12 #[.slice A T3.length c, .slice (some ⟨w.heap.size, 0, none⟩) 1 1] (w.alloc (bxL 5 5 3)) (OutB (w.alloc (bxL 5 5 3)) true) from fun A c w h => by
    have e : T3 = [(5, 5, 3)] := t3_eq
    have h2 : LkAt (w.alloc (bxL 5 5 3)) (w.alloc (bxL 5 5 3)).heap.size (some ⟨w.heap.size, 0, none⟩) T3 := by
      rw [e]
      exact FlAt.lit (F := fL) w [(5, 5, 3)] #[.int .i64 5, .int .i64 5, .int .i64 3] 38 (by unfold maxLen; simp) rfl (fun a ha => by obtain rfl := List.mem_singleton.1 ha; exact ⟨(i64_small (by omega) : I64 5), (i64_small (by omega) : I64 5), (i64_small (by omega) : I64 3)⟩)
    have := rsame_any A (some ⟨w.heap.size, 0, none⟩) c 1 T3 (w.alloc (bxL 5 5 3)) (by omega) (h.next (alloc_below _ _)) h2
    rw [show T3.length = 1 by rw [e]; rfl] at this ⊢
    exact this)
  have K6 := Lib.hid (show ∀ A c w, T3.length ≤ c → (A = none → c = 0) → LkAt w w.heap.size A T3 → Calls Try.prog 17 #[.slice A T3.length c, .int .i64 5] w (OutI w 15) from fun A c w h1 h2 h3 => by have := lcost_any A c T3 5 w (by omega) h1 h2 h3; rw [t3_cost] at this; exact this)
  have K7 := Lib.hid (show ∀ A c w, T3.length ≤ c → (A = none → c = 0) → LkAt w w.heap.size A T3 → Calls Try.prog 19 #[.slice A T3.length c, .int .i64 5] w (OutI w 66) from fun A c w h1 h2 h3 => by have := lquality_any A c T3 5 w (by omega) h1 h2 h3; rw [t3_qual] at this; exact this)
  have K8 := Lib.hid (show ∀ A c w, TM.length ≤ c → (A = none → c = 0) → LkAt w w.heap.size A TM → Calls Try.prog 17 #[.slice A TM.length c, .int .i64 2] w (OutI w 255) from fun A c w h1 h2 h3 => by have := lcost_any A c TM 2 w (by omega) h1 h2 h3; rw [tm_cost] at this; exact this)
  have K9 := Lib.hid (show ∀ A c w, TM.length ≤ c → (A = none → c = 0) → LkAt w w.heap.size A TM → Calls Try.prog 22 #[.slice A TM.length c] w (fun e w' => ∃ A2 c2, e = .returned (.slice A2 1 c2) ∧ FlAt fI w' w'.heap.size A2 [5] ∧ 1 ≤ c2 ∧ (A2 = none → c2 = 0) ∧ Below w.heap.size w w') from fun A c w h1 h2 h3 => by have := lbest_any A c TM w (by omega) h1 h2 h3; rw [tm_best] at this; exact this)
  have KA := Lib.hid (show ∀ A c w, FlAt fI w w.heap.size A [5] → Calls Try.prog 21 #[.slice A 1 c, .slice (some ⟨w.heap.size, 0, none⟩) 1 1] (w.alloc (.cells #[.int .i64 5] 3)) (OutB (w.alloc (.cells #[.int .i64 5] 3)) true) from fun A c w h =>
    rsameI_any A (some ⟨w.heap.size, 0, none⟩) c 1 [5] (w.alloc (.cells #[.int .i64 5] 3)) (by simp) (h.next (alloc_below _ _)) (FlAt.lit (F := fI) w [5] #[.int .i64 5] 3 (by unfold maxLen; simp) rfl (fun a ha => by obtain rfl := List.mem_singleton.1 ha; exact (i64_small (by omega) : I64 5))))
  clear n1 n2 n3 n4
  generalize T1 = t1 at *
  generalize T2 = t2 at *
  generalize T3 = t3 at *
  generalize TM = tm at *
  go_enter Try.func11, Try.ntmps11
  go_wp2_with fail
  refine (K1.out _).mono ?_
  rintro _ w1 ⟨X1_A, X1_c, rfl, hs, X1_h, hn, hb⟩
  have B1 := Lib.hid hb
  have X1 := Lib.hid hs
  have X1_n := Lib.hid hn
  clear hs hn
  clear hb
  go_wp2_with fail
  refine (K2.out _ _ _ X1_h X1_n.out X1.out).mono ?_
  rintro _ w2 ⟨X2_A, X2_c, rfl, hs, X2_h, hn, hb⟩
  have B2 := Lib.hid (B1.out.trans (hb.mono B1.out.size))
  have X1 := Lib.hid (X1.out.next hb)
  have X2 := Lib.hid hs
  have X2_n := Lib.hid hn
  clear hs hn
  clear hb
  go_wp2_with fail
  refine (K3.out _ _ _ X2_h X2_n.out X2.out).mono ?_
  rintro _ w3 ⟨X3_A, X3_c, rfl, hs, X3_h, hn, hb⟩
  have B3 := Lib.hid (B2.out.trans (hb.mono B2.out.size))
  have X1 := Lib.hid (X1.out.next hb)
  have X2 := Lib.hid (X2.out.next hb)
  have X3 := Lib.hid hs
  have X3_n := Lib.hid hn
  clear hs hn
  clear hb
  go_wp2_with fail
  refine (K4.out _ _ _ X3_h X3_n.out X3.out).mono ?_
  rintro _ w4 ⟨X4_A, X4_c, rfl, hs, X4_h, hn, hb⟩
  have B4 := Lib.hid (B3.out.trans (hb.mono B3.out.size))
  have X1 := Lib.hid (X1.out.next hb)
  have X2 := Lib.hid (X2.out.next hb)
  have X3 := Lib.hid (X3.out.next hb)
  have X4 := Lib.hid hs
  have X4_n := Lib.hid hn
  clear hs hn
  clear hb
  clear X1 X2 X1_n X2_n
  go_wp2_with fail
  have BA := Lib.hid (B4.out.alloc B4.out.size (bxL 5 5 3))
  have KS := Lib.hid (K5.out _ X3_c _ X3.out)
  have X3 := Lib.hid (X3.out.next (alloc_below _ (bxL 5 5 3)))
  have X4 := Lib.hid (X4.out.next (alloc_below _ (bxL 5 5 3)))
  refine (KS.out).mono ?_
  rintro _ w5 ⟨rfl, hb⟩
  have B5 := Lib.hid (BA.out.trans (hb.mono BA.out.size))
  have X3 := Lib.hid (X3.out.next hb)
  have X4 := Lib.hid (X4.out.next hb)
  clear hb
  go_wp2_with fail
  refine (K6.out _ _ _ X3_h X3_n.out X3.out).mono ?_
  rintro _ w6 ⟨rfl, hb⟩
  have B6 := Lib.hid (B5.out.trans (hb.mono B5.out.size))
  have X3 := Lib.hid (X3.out.next hb)
  have X4 := Lib.hid (X4.out.next hb)
  clear hb
  go_wp2_with fail
  refine (K7.out _ _ _ X3_h X3_n.out X3.out).mono ?_
  rintro _ w7 ⟨rfl, hb⟩
  have B7 := Lib.hid (B6.out.trans (hb.mono B6.out.size))
  have X3 := Lib.hid (X3.out.next hb)
  have X4 := Lib.hid (X4.out.next hb)
  clear hb
  go_wp2_with fail
  refine (K8.out _ _ _ X4_h X4_n.out X4.out).mono ?_
  rintro _ w8 ⟨rfl, hb⟩
  have B8 := Lib.hid (B7.out.trans (hb.mono B7.out.size))
  have X3 := Lib.hid (X3.out.next hb)
  have X4 := Lib.hid (X4.out.next hb)
  clear hb
  go_wp2_with fail
  refine (K9.out _ _ _ X4_h X4_n.out X4.out).mono ?_
  rintro _ w9 ⟨X9_A, X9_c, rfl, hs, X9_h, hn, hb⟩
  have B9 := Lib.hid (B8.out.trans (hb.mono B8.out.size))
  have X3 := Lib.hid (X3.out.next hb)
  have X4 := Lib.hid (X4.out.next hb)
  have X9 := Lib.hid hs
  have X9_n := Lib.hid hn
  clear hs hn
  clear hb
  go_wp2_with fail
  have BC := Lib.hid (B9.out.alloc B9.out.size (.cells #[.int .i64 5] 3))
  have KT := Lib.hid (KA.out _ X9_c _ X9.out)
  clear X3 X4 X9 X3_n X4_n X9_n
  refine (KT.out).mono ?_
  rintro _ w10 ⟨rfl, hb⟩
  have B10 := Lib.hid (BC.out.trans (hb.mono BC.out.size))
  clear hb
  go_wp2_with fail
  go_ret
  exact outB rfl B10.out
end Go.Proofs.Ythfkmmgckiijcaa.Lnk
