/- The reference: New, table (given Check). -/
import Derived.Test.YtcfnkfkdhcejeaaRB
set_option linter.unusedVariables false
namespace Go.Proofs.Ytcfnkfkdhcejeaa.Rte
open Go.RowKit

set_option maxHeartbeats 1000000 in
theorem rnew_any (n : Int) (w : World) : Calls Try.prog 13 #[.int .i64 n] w (OutF fR w (nw n)) := by
  have LI := lim_in n
  have NW := Lib.hid (show nw n = [(lim n, 0, 0, lim n)] from rfl)
  have KL := Lib.hid (fun w => rlimit_any n w)
  generalize lim n = s at *
  have ho : I64 s := by unfold I64; omega
  have HO := Lib.hid (show fR.ok (s, 0, 0, s) from ⟨ho, by unfold I64; simp, by unfold I64; simp, ho⟩)
  clear ho LI
  go_enter Try.func13, Try.ntmps13
  go_wp2_with fail
  refine (KL.out _).mono ?_
  rintro _ w1 ⟨rfl, rfl⟩
  go_wp2_with fail
  go_ret
  exact outF NW.out rfl (FlAt.lit (F := fR) w [(s, 0, 0, s)] #[.int .i64 s, .int .i64 0, .int .i64 0, .int .i64 s] 43 (by unfold maxLen; simp) rfl (fun x hx => by rw [List.mem_singleton.1 hx]; exact HO.out)) (by simp) (by simp) (alloc_below _ _)

set_option maxRecDepth 100000 in
set_option maxHeartbeats 2000000 in
theorem rsame_any (A1 A2 : Option Addr) (c1 c2 : Nat) (l : List Rt) (w : World) (hl : l.length ≤ 1000000) (h1 : FlAt fR w w.heap.size A1 l) (h2 : FlAt fR w w.heap.size A2 l) : Calls Try.prog 11 #[.slice A1 l.length c1, .slice A2 l.length c2] w (OutB w true) := by
  have H1 := Lib.hid h1
  have H2 := Lib.hid h2
  clear h1 h2
  go_enter Try.func11, Try.ntmps11
  go_wp2_with fail
  go_loopw [5] (fun i wr => ∃ k : Nat, i = .int .i64 k ∧ k ≤ l.length ∧ Below w.heap.size w wr) (fun i _ => l.length - (intOf i).toNat)
  case atStart => exact ⟨0, rfl, Nat.zero_le _, Below.refl _ _⟩
  case round =>
    obtain ⟨k, rfl, hk, hb⟩ := hrel
    have B := Lib.hid hb
    by_cases hlt : k < l.length
    · obtain ⟨b, p, rfl, _, g0, g1, g2, g6, _⟩ := rt_cell (H1.out.below hb) k hlt
      obtain ⟨b', p', rfl, _, g3, g4, g5, g7, _⟩ := rt_cell (H2.out.below hb) k hlt
      clear hb
      generalize l[k].1 = x0 at *
      generalize l[k].2.1 = x1 at *
      generalize l[k].2.2.1 = x2 at *
      generalize l[k].2.2.2 = x3 at *
      go_wp2_with fail
      go_quiet (fail)
      go_wp2_with fail
      go_roundw
      case rel => exact ⟨k + 1, by go_num, hlt, below_drewN B.out _⟩
      case measure => simp [intOf]; omega
    · clear hb
      go_wp2_with fail
      go_ret
      exact outB rfl B.out
end Go.Proofs.Ytcfnkfkdhcejeaa.Rte
