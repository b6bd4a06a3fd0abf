/- Contracts of Offset and Local, of clock and of the reference. -/
import Derived.Test.YtoodfiicoplbhaaDoorCI
import Derived.Deep.RegionWith
set_option linter.unusedVariables false
namespace Go.Proofs.YtoodfiicoplbhaaDoor
open Go.RowKit

theorem offL_step (l : List Chg) (k : Nat) (h : k < l.length) (f M : Int) : offL f (l.drop k) M = if l[k].1 ≤ M then offL l[k].2 (l.drop (k + 1)) M else f := by rw [drop_one l k h]; rfl
theorem offR_step (l : List Chg) (k : Nat) (h : k < l.length) (f M : Int) : offR f (l.drop k) M = offR (if l[k].1 ≤ M then l[k].2 else f) (l.drop (k + 1)) M := by rw [drop_one l k h]; rfl
theorem off_nil (l : List Chg) (k : Nat) (h : ¬ k < l.length) (f M : Int) : offL f (l.drop k) M = f ∧ offR f (l.drop k) M = f := by
  rw [List.drop_eq_nil_of_le (by omega)]; exact ⟨rfl, rfl⟩

set_option maxRecDepth 100000 in
set_option maxHeartbeats 2000000 in
theorem offset_any (o : Int) (A : Option Addr) (c : Nat) (l : List Chg) (m : Int) (w : World) (hl : l.length ≤ 100000) (hA : ChgAt w w.heap.size A l) :
    Calls Tryd.prog 24 #[zV o A l.length c, .int .i64 m] w (OutI w (off o l m)) := by
  have HA := Lib.hid hA
  have CH := Lib.hid (fun w (h : ChgAt w w.heap.size A l) => check_any o A c l w hl h)
  unfold zV at *
  clear hA
  by_cases hc : chk o l = 0
  · have R := Lib.hid (show off o l m = offL o l (vm m) by unfold off; rw [if_pos hc])
    rw [hc] at CH
    clear hc
    go_enter Tryd.func24, Tryd.ntmps24
    go_wp2_with fail
    refine (CH.out _ ((HA.out.below ((Below.refl _ _).alloc (Nat.le_refl _) _)).mono (by simp))).mono ?_
    rintro e w1 ⟨rfl, hb⟩
    have hb := (BxZ.start w o A l.length c).next hb
    have B := Lib.hid hb
    have c0 := hb.c0
    have c1 := hb.c1
    clear hb
    go_wp2_with (go_at_call 41; refine (limit_any _ _).mono ?_; rintro e w' ⟨rfl, rfl⟩)
    go_loopw [5, 18] (fun ov i wr => ∃ (k : Nat) (f : Int), ov = .int .i64 f ∧ i = .int .i64 k ∧ k ≤ l.length ∧ offL o l (vm m) = offL f (l.drop k) (vm m) ∧ BxZ w o A l.length c wr) (fun _ i _ => l.length - (intOf i).toNat)
    case atStart => exact ⟨0, o, rfl, rfl, Nat.zero_le _, rfl, B.out⟩
    case round =>
      obtain ⟨k, f, rfl, rfl, hk, hof, hb⟩ := hrel
      have B := Lib.hid hb
      have c0 := hb.c0
      have c1 := hb.c1
      have hz := hb.lt
      by_cases hlt : k < l.length
      · obtain ⟨b2, p, rfl, g1, g2, g3, g4, g5⟩ := (HA.out.below hb.below) k hlt
        rw [offL_step l k hlt] at hof
        generalize l[k].1 = t at *
        generalize l[k].2 = f2 at *
        by_cases hle : t ≤ vm m
        · rw [if_pos hle] at hof
          have OF := Lib.hid hof
          have d := df (show ¬ vm m < t by omega)
          clear hof hb
          go_wp2_with fail
          go_roundw
          case rel => exact ⟨k + 1, f2, rfl, by go_num, hlt, OF.out, B.out.next ((Below.refl _ _).alloc (Nat.le_refl _) _)⟩
          case measure => simp [intOf]; omega
        · rw [if_neg hle] at hof
          have OF := Lib.hid hof
          have d := dt (show vm m < t by omega)
          clear hof hb
          go_wp2_with fail
          go_ret
          exact outI (by rw [R.out, OF.out]) (B.out.next ((Below.refl _ _).alloc (Nat.le_refl _) _)).below
      · rw [(off_nil l k hlt f _).1] at hof
        have OF := Lib.hid hof
        clear hof hb
        go_wp2_with fail
        go_ret
        exact outI (by rw [R.out, OF.out]) B.out.below
  · have R := Lib.hid (show off o l m = 0 by unfold off; rw [if_neg hc])
    have t1 : (chk o l == 0) = false := by simpa using hc
    have t2 : (chk o l != 0) = true := by simpa using hc
    generalize chk o l = q at *
    clear hc
    go_enter Tryd.func24, Tryd.ntmps24
    go_wp2_with fail
    refine (CH.out _ ((HA.out.below ((Below.refl _ _).alloc (Nat.le_refl _) _)).mono (by simp))).mono ?_
    rintro e w1 ⟨rfl, hb⟩
    have hb := (BxZ.start w o A l.length c).next hb
    have B := Lib.hid hb
    clear hb
    go_wp2_with fail
    go_ret
    exact outI R.out.symm B.out.below

set_option maxRecDepth 100000 in
set_option maxHeartbeats 2000000 in
theorem roffset_any (o : Int) (A : Option Addr) (c : Nat) (l : List Chg) (m : Int) (w : World) (hl : l.length ≤ 100000) (hA : ChgAt w w.heap.size A l) :
    Calls Tryd.prog 25 #[zV o A l.length c, .int .i64 m] w (OutI w (off o l m)) := by
  have HA := Lib.hid hA
  have CH := Lib.hid (fun w (h : ChgAt w w.heap.size A l) => rcheck_any o A c l w hl h)
  unfold zV at *
  clear hA
  by_cases hc : chk o l = 0
  · have R := Lib.hid (show off o l m = offR o l (vm m) by unfold off; rw [if_pos hc, offR_offL l _ o (chk_zero hc).2.2.2])
    rw [hc] at CH
    clear hc
    go_enter Tryd.func25, Tryd.ntmps25
    go_wp2_with fail
    refine (CH.out _ ((HA.out.below ((Below.refl _ _).alloc (Nat.le_refl _) _)).mono (by simp))).mono ?_
    rintro e w1 ⟨rfl, hb⟩
    have hb := (BxZ.start w o A l.length c).next hb
    have B := Lib.hid hb
    have c0 := hb.c0
    have c1 := hb.c1
    clear hb
    go_wp2_with fail
    go_loopw [5, 6] (fun ov i wr => ∃ (k : Nat) (f : Int), ov = .int .i64 f ∧ i = .int .i64 k ∧ k ≤ l.length ∧ offR o l (vm m) = offR f (l.drop k) (vm m) ∧ BxZ w o A l.length c wr) (fun _ i _ => l.length - (intOf i).toNat)
    case atStart => exact ⟨0, o, rfl, rfl, Nat.zero_le _, rfl, B.out⟩
    case round =>
      obtain ⟨k, f, rfl, rfl, hk, hof, hb⟩ := hrel
      have B := Lib.hid hb
      have c0 := hb.c0
      have c1 := hb.c1
      by_cases hlt : k < l.length
      · obtain ⟨b2, p, rfl, g1, g2, g3, g4, g5⟩ := (HA.out.below hb.below) k hlt
        rw [offR_step l k hlt] at hof
        generalize l[k].1 = t at *
        generalize l[k].2 = f2 at *
        have i1 : (k : Int) < (l.length : Int) := by omega
        by_cases hle : t ≤ vm m
        · rw [if_pos hle] at hof
          have OF := Lib.hid hof
          have d := dt hle
          clear hof hb
          go_wp2_with fail
          go_quiet ((go_at_call 40; exact quiet_same (rvalid_any _ _)))
          go_wp2_with fail
          go_roundw
          case rel => exact ⟨k + 1, f2, rfl, by go_num, hlt, OF.out, B.out.next (below_drewN (Below.refl _ _) _)⟩
          case measure => simp [intOf]; omega
        · rw [if_neg hle] at hof
          have OF := Lib.hid hof
          have d := df hle
          clear hof hb
          go_wp2_with fail
          go_quiet ((go_at_call 40; exact quiet_same (rvalid_any _ _)))
          go_wp2_with fail
          go_roundw
          case rel => exact ⟨k + 1, f, rfl, by go_num, hlt, OF.out, B.out.next (below_drewN (Below.refl _ _) _)⟩
          case measure => simp [intOf]; omega
      · rw [(off_nil l k hlt f _).2] at hof
        have OF := Lib.hid hof
        clear hof hb
        go_wp2_with fail
        go_ret
        exact outI (by rw [R.out, OF.out]) B.out.below
  · have R := Lib.hid (show off o l m = 0 by unfold off; rw [if_neg hc])
    have t1 : (chk o l == 0) = false := by simpa using hc
    have t2 : (chk o l != 0) = true := by simpa using hc
    generalize chk o l = q at *
    clear hc
    go_enter Tryd.func25, Tryd.ntmps25
    go_wp2_with fail
    refine (CH.out _ ((HA.out.below ((Below.refl _ _).alloc (Nat.le_refl _) _)).mono (by simp))).mono ?_
    rintro e w1 ⟨rfl, hb⟩
    have hb := (BxZ.start w o A l.length c).next hb
    have B := Lib.hid hb
    clear hb
    go_wp2_with fail
    go_ret
    exact outI R.out.symm B.out.below

set_option maxRecDepth 100000 in
set_option maxHeartbeats 2000000 in
theorem local_any (o : Int) (A : Option Addr) (c : Nat) (l : List Chg) (m : Int) (w : World) (hl : l.length ≤ 100000) (hA : ChgAt w w.heap.size A l) :
    Calls Tryd.prog 26 #[zV o A l.length c, .int .i64 m] w (OutI w (loc o l m)) := by
  have HA := Lib.hid hA
  have CH := Lib.hid (fun w (h : ChgAt w w.heap.size A l) => offset_any o A c l m w hl h)
  have v1 := vm_in m
  have v2 := off_in o l m
  have q1 : IntKind.i64.wrap (vm m + off o l m) = vm m + off o l m := IntWalk.i64_in _ ⟨by omega, by omega⟩
  have R := Lib.hid (show loc o l m = vm (vm m + off o l m) from rfl)
  unfold zV at *
  clear hA
  go_enter Tryd.func26, Tryd.ntmps26
  go_wp2_with fail
  go_region_with (first
    | (go_at_call 41; refine (limit_any _ _).mono ?_; rintro e w' ⟨rfl, rfl⟩)
    | (go_at_call 24; refine (CH.out _ ?_).mono ?_; exact (HA.out.below (below_drewN ((Below.refl _ _).alloc (Nat.le_refl _) _) 1)).mono (by simp); rintro e w1 ⟨rfl, hb⟩))
  all_goals go_wp2_with fail
  all_goals exact bodyPost_ret (v := .int .i64 (vm (vm m + off o l m))) (by simp [results, Tryd.results26, go_sem]) rfl (outI R.out.symm ((BxZ.start w o A l.length c).next ((Below.refl _ _).drew.trans (show Below (w.alloc (.cells #[.int .i64 o, .slice A l.length c] 34)).heap.size (w.alloc (.cells #[.int .i64 o, .slice A l.length c] 34)).drew w1 from hb))).below)

set_option maxRecDepth 100000 in
set_option maxHeartbeats 2000000 in
theorem rlocal_any (o : Int) (A : Option Addr) (c : Nat) (l : List Chg) (m : Int) (w : World) (hl : l.length ≤ 100000) (hA : ChgAt w w.heap.size A l) :
    Calls Tryd.prog 27 #[zV o A l.length c, .int .i64 m] w (OutI w (loc o l m)) := by
  have HA := Lib.hid hA
  have CH := Lib.hid (fun w (h : ChgAt w w.heap.size A l) => roffset_any o A c l m w hl h)
  have v1 := vm_in m
  have v2 := off_in o l m
  have q1 : IntKind.i64.wrap (vm m + off o l m) = vm m + off o l m := IntWalk.i64_in _ ⟨by omega, by omega⟩
  have R := Lib.hid (show loc o l m = vm (vm m + off o l m) from rfl)
  unfold zV at *
  clear hA
  go_enter Tryd.func27, Tryd.ntmps27
  go_wp2_with fail
  go_region_with (first
    | (go_at_call 40; refine (rvalid_any _ _).mono ?_; rintro e w' ⟨rfl, rfl⟩)
    | (go_at_call 25; refine (CH.out _ ?_).mono ?_; exact (HA.out.below (below_drewN ((Below.refl _ _).alloc (Nat.le_refl _) _) 1)).mono (by simp); rintro e w1 ⟨rfl, hb⟩))
  all_goals go_wp2_with fail
  all_goals exact bodyPost_ret (v := .int .i64 (vm (vm m + off o l m))) (by simp [results, Tryd.results27, go_sem]) rfl (outI R.out.symm ((BxZ.start w o A l.length c).next ((Below.refl _ _).drew.trans (show Below (w.alloc (.cells #[.int .i64 o, .slice A l.length c] 34)).heap.size (w.alloc (.cells #[.int .i64 o, .slice A l.length c] 34)).drew w1 from hb))).below)
end Go.Proofs.YtoodfiicoplbhaaDoor
