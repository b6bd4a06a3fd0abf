/- Contract of clock.Check. -/
import Derived.Test.YtoodfiicoplbhaaDoorCD
import Derived.Test.YtoodfiicoplbhaaDoorCZ
set_option linter.unusedVariables false
namespace Go.Proofs.YtoodfiicoplbhaaDoor
open Go.RowKit

/-- The slice with this address reads as these changes. -/
def ChgAt (w : World) (B : Nat) (A : Option Addr) (l : List Chg) : Prop :=
  ∀ i (hi : i < l.length), ∃ b p, A = some ⟨b, p, none⟩ ∧ b < B ∧ w.cell? ⟨b, p + i * 2, none⟩ = some (.int .i64 l[i].1) ∧ w.cell? ⟨b, p + i * 2 + 1, none⟩ = some (.int .i64 l[i].2) ∧ I64 l[i].1 ∧ I64 l[i].2
theorem ChgAt.below {w w' : World} {B : Nat} {A : Option Addr} {l : List Chg} (h : ChgAt w B A l) (hb : Below B w w') : ChgAt w' B A l := fun i hi => by
  obtain ⟨b, p, h1, h2, h3, h4, h5, h6⟩ := h i hi
  exact ⟨b, p, h1, h2, (hb.cell (p := ⟨b, p + i * 2, none⟩) h2).trans h3, (hb.cell (p := ⟨b, p + i * 2 + 1, none⟩) h2).trans h4, h5, h6⟩
theorem ChgAt.mono {w : World} {B B' : Nat} {A : Option Addr} {l : List Chg} (h : ChgAt w B A l) (hB : B ≤ B') : ChgAt w B' A l := fun i hi => by
  obtain ⟨b, p, h1, h2, h3⟩ := h i hi
  exact ⟨b, p, h1, by omega, h3⟩
/-- A zone as a value. -/
def zV (o : Int) (A : Option Addr) (n c : Nat) : Value := .agg #[.int .i64 o, .slice A n c]
/-- A number is handed back, and memory has only grown. -/
def OutI (w : World) (n : Int) (e : Ending) (w' : World) : Prop := e = .returned (.int .i64 n) ∧ Below w.heap.size w w'
theorem outI {w w' : World} {a b : Int} (h : a = b) (hb : Below w.heap.size w w') : OutI w b (.returned (.int .i64 a)) w' := ⟨by rw [h], hb⟩
theorem drop_one {α : Type} (l : List α) (k : Nat) (h : k < l.length) : l.drop k = l[k] :: l.drop (k + 1) := (List.drop_eq_getElem_cons h)
theorem allC_step (l : List Chg) (k : Nat) (h : k < l.length) : allC (l.drop k) = ((okOB l[k].2 && okMB l[k].1) && allC (l.drop (k + 1))) := by rw [drop_one l k h]; rfl
theorem asc_step (l : List Chg) (p : Nat) (h : p + 1 < l.length) : asc (l.drop p) = (decide (l[p].1 < l[p + 1].1) && asc (l.drop (p + 1))) := by
  rw [drop_one l p (by omega), drop_one l (p + 1) h]; rfl
theorem asc_end (l : List Chg) (p : Nat) (h : ¬ p + 1 < l.length) : asc (l.drop p) = true := by
  rcases Nat.lt_or_ge p l.length with e | e
  · rw [drop_one l p e, List.drop_eq_nil_of_le (by omega)]; rfl
  · rw [List.drop_eq_nil_of_le e]; rfl

/-- The world behind a boxed zone, grown. -/
def BxZ (w : World) (o : Int) (A : Option Addr) (n c : Nat) (wr : World) : Prop :=
  Below (w.alloc (.cells #[.int .i64 o, .slice A n c] 34)).heap.size (w.alloc (.cells #[.int .i64 o, .slice A n c] 34)) wr
section
variable {w wr wt : World} {o : Int} {A : Option Addr} {n c : Nat}
theorem BxZ.start (w : World) (o : Int) (A : Option Addr) (n c : Nat) : BxZ w o A n c (w.alloc (.cells #[.int .i64 o, .slice A n c] 34)) := Below.refl _ _
theorem BxZ.c0 (h : BxZ w o A n c wr) : wr.cell? ⟨w.heap.size, 0, none⟩ = some (.int .i64 o) := box_at h 0 rfl
theorem BxZ.c1 (h : BxZ w o A n c wr) : wr.cell? ⟨w.heap.size, 1, none⟩ = some (.slice A n c) := box_at h 1 rfl
theorem BxZ.below (h : BxZ w o A n c wr) : Below w.heap.size w wr := box_below h
theorem BxZ.next (h : BxZ w o A n c wr) (hb : Below wr.heap.size wr wt) : BxZ w o A n c wt := Below.trans h (hb.mono h.size)
theorem BxZ.lt (h : BxZ w o A n c wr) : w.heap.size < wr.heap.size := by have := Below.size h; simp at this; omega
end

set_option maxRecDepth 100000 in
set_option maxHeartbeats 2000000 in
theorem check_any (o : Int) (A : Option Addr) (c : Nat) (l : List Chg) (w : World) (hl : l.length ≤ 100000) (hA : ChgAt w w.heap.size A l) :
    Calls Tryd.prog 22 #[zV o A l.length c] w (OutI w (chk o l)) := by
  have HA := Lib.hid hA
  unfold zV
  clear hA
  by_cases ho : okOB o = true
  · have o1 : (decide (-840 ≤ o) && decide (o ≤ 840)) = true := ho
    have CK := Lib.hid (show chk o l = if allC l = false then 2 else if 64 < l.length then 3 else if asc l = true then 0 else 14 by unfold chk; rw [ho]; rfl)
    clear ho
    go_enter Tryd.func22, Tryd.ntmps22
    go_wp2_with (go_at_call 42; refine (isoff_any _ _).mono ?_; rintro e w' ⟨rfl, rfl⟩)
    go_loopw [13] (fun i wr => ∃ k : Nat, i = .int .i64 k ∧ k ≤ l.length ∧ allC l = allC (l.drop k) ∧ BxZ w o A l.length c wr) (fun i _ => l.length - (intOf i).toNat)
    case atStart => exact ⟨0, rfl, Nat.zero_le _, rfl, BxZ.start _ _ _ _ _⟩
    case round =>
      obtain ⟨k, rfl, hk, hal, hb⟩ := hrel
      have B := Lib.hid hb
      have c0 := hb.c0
      have c1 := hb.c1
      have hz := hb.lt
      by_cases hlt : k < l.length
      · obtain ⟨b, p, rfl, g1, g2, g3, g4, g5⟩ := (HA.out.below hb.below) k hlt
        rw [allC_step l k hlt] at hal
        have AL := Lib.hid hal
        clear hal hb
        generalize l[k].1 = t at *
        generalize l[k].2 = f at *
        cases hf : okOB f with
        | false =>
          have t1 : (decide (-840 ≤ f) && decide (f ≤ 840)) = false := hf
          have R := Lib.hid (show chk o l = 2 by rw [CK.out, AL.out, hf]; rfl)
          clear hf
          go_wp2_with (first
            | (go_at_call 42; refine (isoff_any _ _).mono ?_; rintro e w' ⟨rfl, rfl⟩)
            | (go_at_call 34; refine (ismin_any _ _).mono ?_; rintro e w' ⟨rfl, rfl⟩))
          go_ret
          exact outI R.out.symm (B.out.next ((Below.refl _ _).alloc (Nat.le_refl _) _)).below
        | true =>
          have t1 : (decide (-840 ≤ f) && decide (f ≤ 840)) = true := hf
          cases hm : okMB t with
          | false =>
            have t2 : (decide (0 ≤ t) && decide (t ≤ 1073741824)) = false := hm
            have R := Lib.hid (show chk o l = 2 by rw [CK.out, AL.out, hf, hm]; rfl)
            clear hf hm
            go_wp2_with (first
              | (go_at_call 42; refine (isoff_any _ _).mono ?_; rintro e w' ⟨rfl, rfl⟩)
              | (go_at_call 34; refine (ismin_any _ _).mono ?_; rintro e w' ⟨rfl, rfl⟩))
            go_ret
            exact outI R.out.symm (B.out.next ((Below.refl _ _).alloc (Nat.le_refl _) _)).below
          | true =>
            have t2 : (decide (0 ≤ t) && decide (t ≤ 1073741824)) = true := hm
            have R := Lib.hid (show allC l = allC (l.drop (k + 1)) by rw [AL.out, hf, hm]; rfl)
            clear hf hm
            go_wp2_with (first
              | (go_at_call 42; refine (isoff_any _ _).mono ?_; rintro e w' ⟨rfl, rfl⟩)
              | (go_at_call 34; refine (ismin_any _ _).mono ?_; rintro e w' ⟨rfl, rfl⟩))
            go_roundw
            case rel => exact ⟨k + 1, by go_num, hlt, R.out, B.out.next ((Below.refl _ _).alloc (Nat.le_refl _) _)⟩
            case measure => simp [intOf]; omega
      · obtain rfl : k = l.length := by omega
        rw [List.drop_eq_nil_of_le (Nat.le_refl _)] at hal
        have CK := Lib.hid (show chk o l = if 64 < l.length then 3 else if asc l = true then 0 else 14 by rw [CK.out, hal]; rfl)
        clear hal hb hlt
        by_cases h64 : 64 < l.length
        · have R := Lib.hid (show chk o l = 3 by rw [CK.out, if_pos h64])
          go_wp2_with fail
          go_ret
          exact outI R.out.symm B.out.below
        · have CK := Lib.hid (show chk o l = if asc l = true then 0 else 14 by rw [CK.out, if_neg h64])
          go_wp2_with fail
          go_loopw [5] (fun i wr => ∃ p : Nat, i = .int .i64 ((p : Int) + 1) ∧ p ≤ l.length ∧ asc l = asc (l.drop p) ∧ BxZ w o A l.length c wr) (fun i _ => l.length + 1 - (intOf i).toNat)
          case atStart => exact ⟨0, rfl, Nat.zero_le _, rfl, B.out⟩
          case round =>
            obtain ⟨p, rfl, hp, has, hb⟩ := hrel
            have B := Lib.hid hb
            have c0 := hb.c0
            have c1 := hb.c1
            by_cases hlt : p + 1 < l.length
            · obtain ⟨b, q, rfl, g1, g2, g3, g4, g5⟩ := (HA.out.below hb.below) (p + 1) hlt
              obtain ⟨b2, q2, hq, f1, f2, f3, f4, f5⟩ := (HA.out.below hb.below) p (by omega)
              cases hq
              rw [asc_step l p hlt] at has
              have AS := Lib.hid has
              have i1 : (p : Int) + 1 < (l.length : Int) := by omega
              have i2 : (p : Int) < (l.length : Int) := by omega
              have i3 : (0 : Int) ≤ (p : Int) + 1 := by omega
              have i4 : ((p : Int) + 1).toNat = p + 1 := by omega
              have j3 : IntKind.i64.wrap ((p : Int) + 1 - 1) = (p : Int) := by rw [show (p : Int) + 1 - 1 = (p : Int) by omega]; exact IntWalk.i64_in _ (by omega)
              have j4 : IntKind.i64.wrap (p : Int) = (p : Int) := IntWalk.i64_in _ (by omega)
              clear has hb
              generalize l[p + 1].1 = t at *
              generalize l[p + 1].2 = f at *
              generalize l[p].1 = t0 at *
              generalize l[p].2 = f0 at *
              by_cases hle : t ≤ t0
              · have d := dt hle
                have R := Lib.hid (show chk o l = 14 by rw [CK.out, AS.out, decide_eq_false (by omega)]; rfl)
                go_wp2_with fail
                go_quiet (fail)
                clear i1 i2 i3 i4 j3 j4
                go_wp2_with fail
                go_ret
                exact outI R.out.symm (B.out.next (below_drewN (Below.refl _ _) _)).below
              · have d := df hle
                have R := Lib.hid (show asc l = asc (l.drop (p + 1)) by rw [AS.out, decide_eq_true (by omega)]; rfl)
                go_wp2_with fail
                go_quiet (fail)
                clear i1 i2 i3 i4 j3 j4
                go_wp2_with fail
                go_roundw
                case rel => exact ⟨p + 1, by go_num, by omega, R.out, B.out.next (below_drewN (Below.refl _ _) _)⟩
                case measure => simp [intOf]; omega
            · rw [asc_end l p hlt] at has
              have R := Lib.hid (show chk o l = 0 by rw [CK.out, if_pos has])
              have d := df (show ¬ (p : Int) + 1 < (l.length : Int) by omega)
              clear has hb
              go_wp2_with fail
              go_ret
              exact outI R.out.symm B.out.below
  · have ho : okOB o = false := by simpa using ho
    have o1 : (decide (-840 ≤ o) && decide (o ≤ 840)) = false := ho
    have R := Lib.hid (show chk o l = 2 by unfold chk; rw [ho]; rfl)
    clear ho
    go_enter Tryd.func22, Tryd.ntmps22
    go_wp2_with (go_at_call 42; refine (isoff_any _ _).mono ?_; rintro e w' ⟨rfl, rfl⟩)
    go_ret
    exact outI R.out.symm ((Below.refl _ _).alloc (Nat.le_refl _) _)
end Go.Proofs.YtoodfiicoplbhaaDoor
