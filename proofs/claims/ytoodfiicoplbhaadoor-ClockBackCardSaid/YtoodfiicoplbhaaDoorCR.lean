/- The walks of ClockDates and ClockBack. -/
import Derived.Test.YtoodfiicoplbhaaDoorCM
set_option linter.unusedVariables false
namespace Go.Proofs.YtoodfiicoplbhaaDoor
open Go.RowKit

/-- What a boxed date's world gives, however it has grown. -/
def BxD (w : World) (y m d h i : Int) (wr : World) : Prop :=
  Below (w.alloc (.cells #[.int .i64 y, .int .i64 m, .int .i64 d, .int .i64 h, .int .i64 i] 23)).heap.size (w.alloc (.cells #[.int .i64 y, .int .i64 m, .int .i64 d, .int .i64 h, .int .i64 i] 23)) wr
section
variable {w wr wt : World} {y m d h i : Int}
theorem BxD.start (w : World) (y m d h i : Int) : BxD w y m d h i (w.alloc (.cells #[.int .i64 y, .int .i64 m, .int .i64 d, .int .i64 h, .int .i64 i] 23)) := Below.refl _ _
theorem BxD.cells (q : BxD w y m d h i wr) : wr.cell? ⟨w.heap.size, 0, none⟩ = some (.int .i64 y) ∧ wr.cell? ⟨w.heap.size, 1, none⟩ = some (.int .i64 m) ∧ wr.cell? ⟨w.heap.size, 2, none⟩ = some (.int .i64 d) ∧ wr.cell? ⟨w.heap.size, 3, none⟩ = some (.int .i64 h) ∧ wr.cell? ⟨w.heap.size, 4, none⟩ = some (.int .i64 i) :=
  ⟨box_at q 0 rfl, box_at q 1 rfl, box_at q 2 rfl, box_at q 3 rfl, box_at q 4 rfl⟩
theorem BxD.below (q : BxD w y m d h i wr) : Below w.heap.size w wr := box_below q
theorem BxD.next (q : BxD w y m d h i wr) (hb : Below wr.heap.size wr wt) : BxD w y m d h i wt := Below.trans q (hb.mono q.size)
end

set_option maxRecDepth 100000 in
set_option maxHeartbeats 2000000 in
theorem law_dates (k y m d h i : Int) (w : World) (hT : Tab w) :
    Calls Tryd.prog 3 #[.int .i64 k, dV y m d h i] w (OutB w true) := by
  have T := Lib.hid hT
  have A1 := Lib.hid (fun w h1 => at_any y m d h i w h1)
  have A2 := Lib.hid (fun w => rat_any y m d h i w)
  have O1 := Lib.hid (fun w h1 => of_any k w h1)
  have O2 := Lib.hid (fun w => rof_any k w)
  have X0 := BxD.start w y m d h i
  unfold ofV at O1 O2
  unfold dV at *
  clear hT
  generalize (atR y m d h i) = r at *
  generalize oY k = kY at *
  generalize oM k = kM at *
  generalize oD k = kD at *
  generalize oH k = kH at *
  generalize oI k = kI at *
  go_enter Tryd.func3, Tryd.ntmps3
  go_wp2_with fail
  refine (A1.out _ (T.out.below X0.below)).mono ?_
  rintro e w1 ⟨rfl, hb⟩
  have X1 := X0.next hb
  obtain ⟨c0, c1, c2, c3, c4⟩ := X1.cells
  clear X0 hb
  go_wp2_with fail
  refine (A2.out _).mono ?_
  rintro e w2 ⟨rfl, hb⟩
  clear c0 c1 c2 c3 c4
  have X2 := X1.next hb
  clear X1 hb
  go_wp2_with fail
  refine (O1.out _ (T.out.below X2.below)).mono ?_
  rintro e w3 ⟨rfl, hb⟩
  have X3 := X2.next hb
  clear X2 hb
  go_wp2_with fail
  refine (O2.out _).mono ?_
  rintro e w4 ⟨rfl, hb⟩
  have X4 := X3.next hb
  clear X3 hb
  go_wp2_with fail
  trace_state
  refine (awake_any _ (T.out.below X4.below)).mono ?_
  rintro e w5 ⟨rfl, hb⟩
  go_wp2_with fail
  go_ret
  exact outB rfl (X4.next hb).below
end Go.Proofs.YtoodfiicoplbhaaDoor
