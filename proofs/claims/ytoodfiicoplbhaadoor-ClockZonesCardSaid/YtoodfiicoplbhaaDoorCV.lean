/- The walk of ClockZones. -/
import Derived.Test.YtoodfiicoplbhaaDoorCO
import Derived.Deep.RegionHeld3
set_option linter.unusedVariables false
namespace Go.Proofs.YtoodfiicoplbhaaDoor
open Go.RowKit

set_option maxRecDepth 100000 in
set_option maxHeartbeats 4000000 in
theorem law_zones (o : Int) (A : Option Addr) (c : Nat) (l : List Chg) (m : Int) (w : World) (hl : l.length ≤ 9223372036854775807) (hA : ChgAt w w.heap.size A l) (hT : Tab w) :
    Calls Tryd.prog 5 #[zV o A l.length c, .int .i64 m] w (OutB w true) := by
  by_cases hn : 70 < l.length
  · exact (law_long o A c l m w hn hl hT).2.1
  have HC := Lib.hid (zone_facts (o := o) (c := c) hA hT)
  have K1 := Lib.hid (fun w h => check_any o A c l w (by omega) h)
  have K2 := Lib.hid (fun w h => rcheck_any o A c l w (by omega) h)
  have F1 := Lib.hid (fun w h => offset_any o A c l m w (by omega) h)
  have F2 := Lib.hid (fun w h => roffset_any o A c l m w (by omega) h)
  have L1 := Lib.hid (fun w h => local_any o A c l m w (by omega) h)
  have L2 := Lib.hid (fun w h => rlocal_any o A c l m w (by omega) h)
  have X0 := BxZ.start w o A l.length c
  have c0 := X0.c0
  have c1 := X0.c1
  have d1 := df (show ¬ (70 : Int) < (l.length : Int) by omega)
  unfold zV at *
  clear hA hT
  generalize chk o l = r1 at *
  generalize off o l m = r2 at *
  generalize loc o l m = r3 at *
  go_enter Tryd.func5, Tryd.ntmps5
  go_wp2_with fail
  have Y0 := X0.next (Below.refl _ _).drew
  have CC := Lib.hid (fun wr (h : BxZ w o A l.length c wr) => And.intro h.c0 h.c1)
  go_region_held3 (fun w' => w'.cell? ⟨w.heap.size, 0, none⟩ = some (.int .i64 o) ∧ w'.cell? ⟨w.heap.size, 1, none⟩ = some (.slice A l.length c))
    (first | exact CC.out _ Y7 | exact CC.out _ Y6 | exact CC.out _ Y5 | exact CC.out _ Y4 | exact CC.out _ Y3 | exact CC.out _ Y2 | exact CC.out _ Y1 | exact CC.out _ Y0 | fail)
    (first
    | (go_at_call 22; refine (K1.out _ (HC.out _ Y0).1).mono ?_; rintro e wa ⟨rfl, hb⟩; have Y1 := Y0.next hb; clear hb)
    | (go_at_call 23; refine (K2.out _ (HC.out _ Y1).1).mono ?_; rintro e wb ⟨rfl, hb⟩; have Y2 := Y1.next hb; clear hb)
    | (go_at_call 24; refine (F1.out _ (HC.out _ Y2).1).mono ?_; rintro e wc ⟨rfl, hb⟩; have Y3 := Y2.next hb; clear hb)
    | (go_at_call 25; refine (F2.out _ (HC.out _ Y3).1).mono ?_; rintro e wd ⟨rfl, hb⟩; have Y4 := Y3.next hb; clear hb)
    | (go_at_call 26; refine (L1.out _ (HC.out _ Y4).1).mono ?_; rintro e we ⟨rfl, hb⟩; have Y5 := Y4.next hb; clear hb)
    | (go_at_call 27; refine (L2.out _ (HC.out _ Y5).1).mono ?_; rintro e wf ⟨rfl, hb⟩; have Y6 := Y5.next hb; clear hb)
    | (go_at_call 15; refine (awake_any _ (HC.out _ Y6).2.1).mono ?_; rintro e wg ⟨rfl, hb⟩; have Y7 := Y6.next hb; clear hb) | fail)
  all_goals
    go_wp2_with fail
    go_ret
    exact outB rfl Y7.below
end Go.Proofs.YtoodfiicoplbhaaDoor
