/- Contracts of Utc, of clock and of the reference. -/
import Derived.Test.YtoodfiicoplbhaaDoorCK
set_option linter.unusedVariables false
namespace Go.Proofs.YtoodfiicoplbhaaDoor
open Go.RowKit

theorem first_of (a b o L : Int) (w : World) (x : Option Int) (h : fstO a b o L = x) (a0 : 0 ≤ a) (a1 : a ≤ 1073741824) (b0 : -1 ≤ b) (b1 : b ≤ 1073741824) (o0 : -840 ≤ o) (o1 : o ≤ 840) (hL : I64 L) :
    Calls Tryd.prog 43 #[.int .i64 a, .int .i64 b, .int .i64 o, .int .i64 L] w fun e w' => e = .returned (.tuple #[.int .i64 (uR x).1, .bool (uR x).2]) ∧ w = w' := by
  subst h; exact first_any a b o L w a0 a1 b0 b1 o0 o1 hL
def OutU (w : World) (x : Option Int) (e : Ending) (w' : World) : Prop := e = .returned (.tuple #[.int .i64 (uR x).1, .bool (uR x).2]) ∧ Below w.heap.size w w'
theorem outU {w w' : World} {x : Option Int} {m : Int} {b : Bool} (h : uR x = (m, b)) (hb : Below w.heap.size w w') : OutU w x (.returned (.tuple #[.int .i64 m, .bool b])) w' := ⟨by rw [h], hb⟩
theorem utcL_step (l : List Chg) (k : Nat) (h : k < l.length) (a o L : Int) : utcL a o (l.drop k) L = match fstO a (l[k].1 - 1) o L with
    | some m => some m
    | none => utcL l[k].1 l[k].2 (l.drop (k + 1)) L := by rw [drop_one l k h]; rfl
theorem utcL_end (l : List Chg) (k : Nat) (h : ¬ k < l.length) (a o L : Int) : utcL a o (l.drop k) L = fstO a 1073741824 o L := by rw [List.drop_eq_nil_of_le (by omega)]; rfl
theorem BxZ.fr {w wr : World} {o : Int} {A : Option Addr} {n c : Nat} (h : BxZ w o A n c wr) (j : Nat) : wr.frozen? ⟨w.heap.size, j, none⟩ = false := by
  have := Below.frozen (p := ⟨w.heap.size, j, none⟩) h (by simp)
  rw [this]; simp

set_option maxRecDepth 100000 in
set_option maxHeartbeats 2000000 in
theorem utc_any (o : Int) (A : Option Addr) (c : Nat) (l : List Chg) (L : Int) (w : World) (hL : I64 L) (hl : l.length ≤ 100000) (hA : ChgAt w w.heap.size A l) :
    Calls Tryd.prog 28 #[zV o A l.length c, .int .i64 L] w (OutU w (utc o l L)) := by
  have HA := Lib.hid hA
  have CH := Lib.hid (fun w (h : ChgAt w w.heap.size A l) => check_any o A c l w hl h)
  unfold zV at *
  clear hA
  by_cases hc : chk o l = 0
  · have R := Lib.hid (show utc o l L = utcL 0 o l L by unfold utc; rw [if_pos hc])
    rw [hc] at CH
    obtain ⟨ho, hac, _, _⟩ := chk_zero hc
    have OK := Lib.hid (allC_mem hac)
    have o1 := okO_in ho
    clear hc ho hac
    go_enter Tryd.func28, Tryd.ntmps28
    go_wp2_with fail
    refine (CH.out _ ((HA.out.below ((Below.refl _ _).alloc (Nat.le_refl _) _)).mono (by simp))).mono ?_
    rintro e w1 ⟨rfl, hb⟩
    have hb := (BxZ.start w o A l.length c).next hb
    have B := Lib.hid hb
    have c0 := hb.c0
    have c1 := hb.c1
    clear hb
    go_wp2_with fail
    go_quiet (fail)
    have B := Lib.hid (B.out.next (below_drewN (Below.refl _ _) nq))
    clear c0 c1
    generalize w1.drewN nq = W at *
    have c0 := B.out.c0
    have c1 := B.out.c1
    go_wp2_with fail
    go_loopw [6, 7, 21] (fun fv ov i wr => ∃ (k : Nat) (a f : Int), fv = .int .i64 a ∧ ov = .int .i64 f ∧ i = .int .i64 k ∧ k ≤ l.length ∧ (0 ≤ a ∧ a ≤ 1073741824) ∧ (-840 ≤ f ∧ f ≤ 840) ∧ utcL 0 o l L = utcL a f (l.drop k) L ∧ BxZ w o A l.length c wr) (fun _ _ i _ => l.length - (intOf i).toNat)
    case atStart => exact ⟨0, 0, o, rfl, rfl, rfl, Nat.zero_le _, ⟨by omega, by omega⟩, o1, rfl, B.out⟩
    case round =>
      obtain ⟨k, a, f, rfl, rfl, rfl, hk, ⟨a0, a1⟩, ⟨f0, f1⟩, hu, hb⟩ := hrel
      have B := Lib.hid hb
      have c0 := hb.c0
      have c1 := hb.c1
      have hz := hb.lt
      by_cases hlt : k < l.length
      · obtain ⟨b2, p, rfl, g1, g2, g3, g4, g5⟩ := (HA.out.below hb.below) k hlt
        have ok := OK.out l[k] (List.getElem_mem hlt)
        have ok1 := okO_in ok.1
        have ok2 := okM_in ok.2
        rw [utcL_step l k hlt] at hu
        clear ok
        generalize l[k].1 = t at *
        generalize l[k].2 = f2 at *
        cases hf : fstO a (t - 1) f L with
        | some m =>
          rw [hf] at hu
          have FC := Lib.hid (fun w => show Calls Tryd.prog 43 #[.int .i64 a, .int .i64 (t - 1), .int .i64 f, .int .i64 L] w fun e w' => e = .returned (.tuple #[.int .i64 m, .bool true]) ∧ w = w' from first_of a (t - 1) f L w _ hf a0 a1 (by omega) (by omega) f0 f1 hL)
          have U := Lib.hid hu
          clear hf hu hb
          go_wp2_with (go_at_call 43; refine (FC.out _).mono ?_; rintro e w' ⟨rfl, rfl⟩)
          exact bodyPost_ret (v := .tuple #[.int .i64 m, .bool true]) (by simp [results, Tryd.results28, go_sem]) rfl (outU (by rw [R.out, U.out]; rfl) (B.out.next ((Below.refl _ _).alloc (Nat.le_refl _) _)).below)
        | none =>
          rw [hf] at hu
          have FC := Lib.hid (fun w => show Calls Tryd.prog 43 #[.int .i64 a, .int .i64 (t - 1), .int .i64 f, .int .i64 L] w fun e w' => e = .returned (.tuple #[.int .i64 0, .bool false]) ∧ w = w' from first_of a (t - 1) f L w _ hf a0 a1 (by omega) (by omega) f0 f1 hL)
          have U := Lib.hid hu
          clear hf hu hb
          go_wp2_with (go_at_call 43; refine (FC.out _).mono ?_; rintro e w' ⟨rfl, rfl⟩)
          go_quiet (fail)
          go_wp2_with fail
          go_roundw
          case rel => exact ⟨k + 1, t, f2, rfl, rfl, by go_num, hlt, ok2, ok1, U.out, B.out.next (below_drewN ((Below.refl _ _).alloc (Nat.le_refl _) _) _)⟩
          case measure => simp [intOf]; omega
      · rw [utcL_end l k hlt] at hu
        have FC := Lib.hid (fun w => first_of a 1073741824 f L w _ rfl a0 a1 (by omega) (by omega) f0 f1 hL)
        have U := Lib.hid hu
        clear hu hb
        go_wp2_with (go_at_call 43; refine (FC.out _).mono ?_; rintro e w' ⟨rfl, rfl⟩)
        exact bodyPost_ret (v := .tuple #[.int .i64 (uR (fstO a 1073741824 f L)).1, .bool (uR (fstO a 1073741824 f L)).2]) (by simp [results, Tryd.results28, go_sem]) rfl (outU (by rw [R.out, U.out]) B.out.below)
  · have R := Lib.hid (show utc o l L = fstO 0 1073741824 0 L by unfold utc; rw [if_neg hc]; rfl)
    have t1 : (chk o l == 0) = false := by simpa using hc
    have t2 : (chk o l != 0) = true := by simpa using hc
    have FC := Lib.hid (fun w => first_of 0 1073741824 0 L w _ rfl (by omega) (by omega) (by omega) (by omega) (by omega) (by omega) hL)
    generalize chk o l = q at *
    clear hc
    go_enter Tryd.func28, Tryd.ntmps28
    go_wp2_with fail
    refine (CH.out _ ((HA.out.below ((Below.refl _ _).alloc (Nat.le_refl _) _)).mono (by simp))).mono ?_
    rintro e w1 ⟨rfl, hb⟩
    have hb := (BxZ.start w o A l.length c).next hb
    have B := Lib.hid hb
    have c0 := hb.c0
    have c1 := hb.c1
    have f0 := hb.fr 0
    have f1 := hb.fr 1
    clear hb
    go_wp2_with fail
    go_quiet (fail)
    go_wp2_with fail
    go_loopw [6, 7, 21] (fun fv ov i wr => fv = .int .i64 0 ∧ ov = .int .i64 0 ∧ i = .int .i64 0 ∧ Below w.heap.size w wr) (fun _ _ _ _ => 0)
    case atStart => exact ⟨rfl, rfl, rfl, below_drewN ((B.out.below.setCell (Nat.le_refl _) _).setCell (Nat.le_refl _) _) _⟩
    case round =>
      obtain ⟨rfl, rfl, rfl, hb⟩ := hrel
      have B := Lib.hid hb
      clear hb
      go_wp2_with (go_at_call 43; refine (FC.out _).mono ?_; rintro e w' ⟨rfl, rfl⟩)
      exact bodyPost_ret (v := .tuple #[.int .i64 (uR (fstO 0 1073741824 0 L)).1, .bool (uR (fstO 0 1073741824 0 L)).2]) (by simp [results, Tryd.results28, go_sem]) rfl (outU (by rw [R.out]) B.out)

/-- The reference's Utc is at a minute: no lesser one has the local minute. -/
def Sofar (o : Int) (l : List Chg) (L m : Int) : Prop := ∀ k, 0 ≤ k → k < m → loc o l k ≠ L

set_option maxRecDepth 100000 in
set_option maxHeartbeats 2000000 in
theorem rutc_any (o : Int) (A : Option Addr) (c : Nat) (l : List Chg) (L : Int) (w : World) (hL : I64 L) (hl : l.length ≤ 100000) (hA : ChgAt w w.heap.size A l) :
    Calls Tryd.prog 29 #[zV o A l.length c, .int .i64 L] w (OutU w (utc o l L)) := by
  have HA := Lib.hid hA
  have CH := Lib.hid (fun m w (h : ChgAt w w.heap.size A l) => rlocal_any o A c l m w hl h)
  unfold zV at *
  clear hA
  by_cases h0 : L < 0 ∨ 1073741824 < L
  · have R := Lib.hid (show utc o l L = none from utc_eq_none fun k k0 k1 => by have := vm_in (vm k + off o l k); unfold loc; omega)
    have BB := Lib.hid (fun w => (Below.refl w.heap.size w).alloc (Nat.le_refl _) (.cells #[.int .i64 o, .slice A l.length c] 34))
    by_cases h1 : L < 0
    · have d1 := dt h1
      clear h0 h1
      go_enter Tryd.func29, Tryd.ntmps29
      go_wp2_with fail
      exact bodyPost_ret (v := .tuple #[.int .i64 0, .bool false]) (by simp [results, Tryd.results29, go_sem]) rfl (outU (by rw [R.out]; rfl) (BB.out w))
    · have d1 := df h1
      have d2 := dt (show 1073741824 < L by omega)
      clear h0 h1
      go_enter Tryd.func29, Tryd.ntmps29
      go_wp2_with fail
      exact bodyPost_ret (v := .tuple #[.int .i64 0, .bool false]) (by simp [results, Tryd.results29, go_sem]) rfl (outU (by rw [R.out]; rfl) (BB.out w))
  · have l0 : 0 ≤ L := by omega
    have l1 : L ≤ 1073741824 := by omega
    have d1 := df (show ¬ L < 0 by omega)
    have d2 := df (show ¬ 1073741824 < L by omega)
    have va := vm_in (L - 840)
    have vb := vm_in (L + 840)
    have LOW := Lib.hid (show Sofar o l L (vm (L - 840)) from fun k k0 k1 => loc_low k0 (by omega) k1)
    have HIGH := Lib.hid (fun k (k0 : 0 ≤ k) (k1 : k ≤ 1073741824) (h : vm (L + 840) < k) => loc_high (o := o) (l := l) (L := L) k0 k1 h)
    clear h0
    go_enter Tryd.func29, Tryd.ntmps29
    go_wp2_with (go_at_call 40; refine (rvalid_any _ _).mono ?_; rintro e w' ⟨rfl, rfl⟩)
    clear d1 d2
    go_loopw [6] (fun i wr => ∃ m : Int, i = .int .i64 m ∧ 0 ≤ m ∧ m ≤ 1073741825 ∧ Sofar o l L m ∧ BxZ w o A l.length c wr) (fun i _ => (1073741825 - intOf i).toNat)
    case atStart => exact ⟨_, rfl, va.1, by omega, LOW.out, BxZ.start _ _ _ _ _⟩
    case round =>
      obtain ⟨m, rfl, m0, m1, hs, hb⟩ := hrel
      have SO := Lib.hid hs
      have B := Lib.hid hb
      have c0 := hb.c0
      have c1 := hb.c1
      have HB := Lib.hid (HA.out.below hb.below |>.mono (Nat.le_of_lt hb.lt))
      clear hs hb
      by_cases hle : m ≤ vm (L + 840)
      · have e := dt hle
        by_cases heq : loc o l m = L
        · have R := Lib.hid (utc_eq_some m0 (by omega) heq SO.out)
          have t1 : (loc o l m == L) = true := by simpa using heq
          clear heq
          go_wp2_with (first
            | (go_at_call 40; refine (rvalid_any _ _).mono ?_; rintro e w' ⟨rfl, rfl⟩)
            | (go_at_call 27; refine (CH.out _ _ HB.out).mono ?_; rintro e w1 ⟨rfl, hb⟩))
          exact bodyPost_ret (v := .tuple #[.int .i64 m, .bool true]) (by simp [results, Tryd.results29, go_sem]) rfl (outU (by rw [R.out]; rfl) (B.out.next hb).below)
        · have R := Lib.hid (show Sofar o l L (m + 1) from fun k k0 k1 => by
            rcases ilt_or k m with h | h
            · exact SO.out k k0 h
            · obtain rfl : k = m := by omega
              exact heq)
          have t1 : (loc o l m == L) = false := by simpa using heq
          clear heq
          go_wp2_with (first
            | (go_at_call 40; refine (rvalid_any _ _).mono ?_; rintro e w' ⟨rfl, rfl⟩)
            | (go_at_call 27; refine (CH.out _ _ HB.out).mono ?_; rintro e w1 ⟨rfl, hb⟩))
          go_roundw
          case rel => exact ⟨m + 1, rfl, by omega, by omega, R.out, B.out.next hb⟩
          case measure => simp [intOf]; omega
      · have e := df hle
        have R := Lib.hid (show utc o l L = none from utc_eq_none fun k k0 k1 => by
          rcases ilt_or k m with h | h
          · exact SO.out k k0 h
          · exact HIGH.out k k0 k1 (by omega))
        clear hle
        go_wp2_with (go_at_call 40; refine (rvalid_any _ _).mono ?_; rintro e w' ⟨rfl, rfl⟩)
        exact bodyPost_ret (v := .tuple #[.int .i64 0, .bool false]) (by simp [results, Tryd.results29, go_sem]) rfl (outU (by rw [R.out]; rfl) B.out.below)
end Go.Proofs.YtoodfiicoplbhaaDoor
