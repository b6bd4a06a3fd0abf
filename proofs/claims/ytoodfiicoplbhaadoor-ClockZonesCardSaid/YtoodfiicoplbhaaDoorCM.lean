/- The chapter's examples (awake) and 'later'. -/
import Derived.Test.YtoodfiicoplbhaaDoorCL
import Derived.Test.YtoodfiicoplbhaaDoorCF
import Derived.Test.YtoodfiicoplbhaaDoorCG
set_option linter.unusedVariables false
namespace Go.Proofs.YtoodfiicoplbhaaDoor
open Go.RowKit

theorem chg_one (w : World) : ChgAt (w.alloc (.cells #[.int .i64 1000, .int .i64 120] 46)) (w.heap.size + 1) (some ⟨w.heap.size, 0, none⟩) [(1000, 120)] := fun i hi => by
  obtain rfl : i = 0 := by simp at hi; omega
  exact ⟨w.heap.size, 0, rfl, by omega, by simp, by simp, (show I64 1000 from ⟨by decide, by decide⟩), (show I64 120 from ⟨by decide, by decide⟩)⟩
theorem ex1 : atR 2000 3 1 0 0 = (86400, 0) := by decide +kernel
theorem ex2 : atR 2100 2 29 0 0 = (0, 2) := by decide +kernel
theorem ex3 : ofV 86399 = dV 2000 2 29 23 59 := by
  have h := of_at 2000 2 29 23 59 (by decide +kernel) (by decide +kernel)
  have e : atM 2000 2 29 23 59 = 86399 := by decide +kernel
  rw [e] at h
  unfold ofV
  rw [h.1, h.2.1, h.2.2.1, h.2.2.2.1, h.2.2.2.2]
theorem ex4 : wd 0 = 5 := by decide +kernel
theorem ex5 : wd 1500 * 1440 + vm 1500 % 1440 = 8700 := by decide +kernel
theorem ex6 : loc 60 [(1000, 120)] 999 = 1059 := by decide +kernel
theorem ex7 : loc 60 [(1000, 120)] 1000 = 1120 := by decide +kernel
theorem ex8 : utc 60 [(1000, 120)] 1059 = some 999 := by decide +kernel
theorem ex9 : utc 60 [(1000, 120)] 1060 = none := by decide +kernel
theorem ex10 : chk 60 [(1000, 120)] = 0 := by decide +kernel

set_option maxRecDepth 100000 in
set_option maxHeartbeats 4000000 in
theorem awake_any (w : World) (hT : Tab w) :
    Calls Tryd.prog 15 #[] w (OutB w true) := by
  have T := Lib.hid hT
  clear hT
  have E1 := Lib.hid (fun w h => at_any 2000 3 1 0 0 w h)
  have E2 := Lib.hid (fun w h => at_any 2100 2 29 0 0 w h)
  rw [ex1] at E1
  rw [ex2] at E2
  unfold dV at E1 E2
  go_enter Tryd.func15, Tryd.ntmps15
  go_wp2_with fail
  refine (E1.out _ T.out).mono ?_
  rintro e w1 ⟨rfl, hb1⟩
  have T1 := Lib.hid (T.out.below hb1)
  go_wp2_with fail
  refine (E2.out _ T1.out).mono ?_
  rintro e w2 ⟨rfl, hb2⟩
  have B2 := Lib.hid (hb1.trans (hb2.mono hb1.size))
  have T2 := Lib.hid (T1.out.below hb2)
  clear hb1 hb2
  go_wp2_with fail
  have hz : (w2.alloc (.cells #[.int .i64 1000, .int .i64 120] 46)).heap.size = w2.heap.size + 1 := by simp
  have C0 := Lib.hid (chg_one w2)
  have HC := Lib.hid (show ∀ wr, BxZ (w2.alloc (.cells #[.int .i64 1000, .int .i64 120] 46)) 60 (some ⟨w2.heap.size, 0, none⟩) 1 1 wr → ChgAt wr wr.heap.size (some ⟨w2.heap.size, 0, none⟩) [(1000, 120)] ∧ Tab wr ∧ Below w.heap.size w wr ∧ wr.cell? ⟨w2.heap.size + 1, 0, none⟩ = some (.int .i64 60) ∧ wr.cell? ⟨w2.heap.size + 1, 1, none⟩ = some (.slice (some ⟨w2.heap.size, 0, none⟩) 1 1) from fun wr h => by
    have hb := h.below
    have h0 := h.c0
    have h1 := h.c1
    have hs := h.lt
    rw [hz] at hb h0 h1 hs
    have hb2 : Below w2.heap.size w2 wr := ((Below.refl _ _).alloc (Nat.le_refl _) _).trans (hb.mono (Nat.le_succ _))
    exact ⟨(C0.out.below hb).mono (by omega), T2.out.below hb2, B2.out.trans (hb2.mono B2.out.size), h0, h1⟩)
  have X0 := BxZ.start (w2.alloc (.cells #[.int .i64 1000, .int .i64 120] 46)) 60 (some ⟨w2.heap.size, 0, none⟩) 1 1
  have U1 := Lib.hid (fun w h => utc_any 60 (some ⟨w2.heap.size, 0, none⟩) 1 [(1000, 120)] 1059 w ⟨by decide, by decide⟩ (by decide) h)
  have U2 := Lib.hid (fun w h => utc_any 60 (some ⟨w2.heap.size, 0, none⟩) 1 [(1000, 120)] 1060 w ⟨by decide, by decide⟩ (by decide) h)
  have L1 := Lib.hid (fun w h => local_any 60 (some ⟨w2.heap.size, 0, none⟩) 1 [(1000, 120)] 999 w (by decide) h)
  have L2 := Lib.hid (fun w h => local_any 60 (some ⟨w2.heap.size, 0, none⟩) 1 [(1000, 120)] 1000 w (by decide) h)
  have K1 := Lib.hid (fun w h => check_any 60 (some ⟨w2.heap.size, 0, none⟩) 1 [(1000, 120)] w (by decide) h)
  have O1 := Lib.hid (fun w h => of_any 86399 w h)
  rw [ex8] at U1
  rw [ex9] at U2
  rw [ex6] at L1
  rw [ex7] at L2
  rw [ex10] at K1
  rw [ex3] at O1
  unfold zV at U1 U2 L1 L2 K1
  unfold dV at O1
  refine (U1.out _ (HC.out _ X0).1).mono ?_
  rintro e w3 ⟨he, hb⟩
  obtain rfl : e = .returned (.tuple #[.int .i64 999, .bool true]) := he
  have X1 := X0.next hb
  have c1 := (HC.out _ X1).2.2.2.1
  have c2 := (HC.out _ X1).2.2.2.2
  clear X0 hb
  go_wp2_with fail
  refine (U2.out _ (HC.out _ X1).1).mono ?_
  rintro e w4 ⟨he, hb⟩
  obtain rfl : e = .returned (.tuple #[.int .i64 0, .bool false]) := he
  clear c1 c2
  have X2 := X1.next hb
  have c1 := (HC.out _ X2).2.2.2.1
  have c2 := (HC.out _ X2).2.2.2.2
  clear X1 hb
  go_wp2_with fail
  refine (O1.out _ (HC.out _ X2).2.1).mono ?_
  rintro e w5 ⟨rfl, hb⟩
  clear c1 c2
  have X3 := X2.next hb
  have c1 := (HC.out _ X3).2.2.2.1
  have c2 := (HC.out _ X3).2.2.2.2
  clear X2 hb
  go_wp2_with (first
    | (go_at_call 16; refine (wday_any _ _).mono ?_; rintro e w' ⟨rfl, rfl⟩)
    | (go_at_call 20; refine (ofweek_any _ _).mono ?_; rintro e w' ⟨rfl, rfl⟩))
  refine (L1.out _ (HC.out _ X3).1).mono ?_
  rintro e w6 ⟨rfl, hb⟩
  clear c1 c2
  have X4 := X3.next hb
  have c1 := (HC.out _ X4).2.2.2.1
  have c2 := (HC.out _ X4).2.2.2.2
  clear X3 hb
  go_wp2_with fail
  refine (L2.out _ (HC.out _ X4).1).mono ?_
  rintro e w7 ⟨rfl, hb⟩
  clear c1 c2
  have X5 := X4.next hb
  have c1 := (HC.out _ X5).2.2.2.1
  have c2 := (HC.out _ X5).2.2.2.2
  clear X4 hb
  go_wp2_with fail
  refine (K1.out _ (HC.out _ X5).1).mono ?_
  rintro e w8 ⟨rfl, hb⟩
  clear c1 c2
  have X6 := X5.next hb
  clear X5 hb
  go_wp2_with fail
  go_ret
  exact outB rfl (HC.out _ X6).2.2.1
end Go.Proofs.YtoodfiicoplbhaaDoor
