/- Contract of the reference's Check. -/
import Derived.Test.YtoodfiicoplbhaaDoorCH
set_option linter.unusedVariables false
namespace Go.Proofs.YtoodfiicoplbhaaDoor
open Go.RowKit

theorem ok_no {f t : Int} (h : f < -840 ∨ 840 < f ∨ t < 0 ∨ 1073741824 < t) : (okOB f && okMB t) = false := by
  unfold okOB okMB
  rw [← Bool.not_eq_true]
  simp only [Bool.and_eq_true, decide_eq_true_eq]
  omega
theorem ok_yes {f t : Int} (h1 : ¬ f < -840) (h2 : ¬ 840 < f) (h3 : ¬ t < 0) (h4 : ¬ 1073741824 < t) : (okOB f && okMB t) = true := by
  unfold okOB okMB
  simp only [Bool.and_eq_true, decide_eq_true_eq]
  omega
theorem bad_no {b x r g : Bool} (h : (b || !(x && r)) = g) (hx : x = false) : (true || !r) = g := by subst hx; cases b <;> cases r <;> simp_all
theorem bad_yes {b x r g : Bool} (h : (b || !(x && r)) = g) (hx : x = true) : (b || !r) = g := by subst hx; simpa using h

set_option maxRecDepth 100000 in
set_option maxHeartbeats 4000000 in
theorem rcheck_any (o : Int) (A : Option Addr) (c : Nat) (l : List Chg) (w : World) (hl : l.length ≤ 100000) (hA : ChgAt w w.heap.size A l) :
    Calls Tryd.prog 23 #[zV o A l.length c] w (OutI w (chk o l)) := by
  have HA := Lib.hid hA
  unfold zV
  clear hA
  have ho : ∃ b, okOB o = !b ∧ ((b = true ∧ o < -840) ∨ (b = true ∧ ¬ o < -840 ∧ 840 < o) ∨ (b = false ∧ ¬ o < -840 ∧ ¬ 840 < o)) := by
    by_cases h1 : o < -840
    · exact ⟨true, by unfold okOB; simp; omega, Or.inl ⟨rfl, h1⟩⟩
    · by_cases h2 : 840 < o
      · exact ⟨true, by unfold okOB; simp; omega, Or.inr (Or.inl ⟨rfl, h1, h2⟩)⟩
      · exact ⟨false, by unfold okOB; simp; omega, Or.inr (Or.inr ⟨rfl, h1, h2⟩)⟩
  obtain ⟨b0, hob, hc⟩ := ho
  have G := Lib.hid (show (b0 || !allC l) = !(okOB o && allC l) by rw [hob]; cases b0 <;> rfl)
  have CK := Lib.hid (show chk o l = if (okOB o && allC l) = false then 2 else if 64 < l.length then 3 else if asc l = true then 0 else 14 from rfl)
  generalize (okOB o && allC l) = g at *
  clear hob
  rcases hc with ⟨rfl, h1⟩ | ⟨rfl, h1, h2⟩ | ⟨rfl, h1, h2⟩
  all_goals
    go_enter Tryd.func23, Tryd.ntmps23
    go_wp2_with fail
    go_loopw [3, 4] (fun bd i wr => ∃ (k : Nat) (b : Bool), bd = .bool b ∧ i = .int .i64 k ∧ k ≤ l.length ∧ (b || !allC (l.drop k)) = !g ∧ BxZ w o A l.length c wr) (fun _ i _ => l.length - (intOf i).toNat)
    case atStart => exact ⟨0, _, rfl, rfl, Nat.zero_le _, G.out, BxZ.start _ _ _ _ _⟩
    case round =>
      obtain ⟨k, b, rfl, rfl, hk, hal, hb⟩ := hrel
      have B := Lib.hid hb
      have c0 := hb.c0
      have c1 := hb.c1
      have hz := hb.lt
      by_cases hlt : k < l.length
      · obtain ⟨b2, p, rfl, g1, g2, g3, g4, g5⟩ := (HA.out.below hb.below) k hlt
        rw [allC_step l k hlt] at hal
        have AL := Lib.hid hal
        clear hal hb
        generalize l[k].1 = t at *
        generalize l[k].2 = f at *
        go_wp2_with fail
        all_goals
          go_roundw
          case rel => exact ⟨k + 1, _, rfl, by go_num, hlt, by first | exact bad_no AL.out (ok_no (by omega)) | exact bad_yes AL.out (ok_yes (by omega) (by omega) (by omega) (by omega)), B.out.next ((Below.refl _ _).alloc (Nat.le_refl _) _)⟩
          case measure => simp [intOf]; omega
      · obtain rfl : k = l.length := by omega
        rw [List.drop_eq_nil_of_le (Nat.le_refl _)] at hal
        clear hb hlt
        cases b with
        | true =>
          have R := Lib.hid (show chk o l = 2 by rw [CK.out, if_pos (by simpa using hal.symm)])
          clear hal
          go_wp2_with fail
          go_ret
          exact outI R.out.symm B.out.below
        | false =>
          have CK := Lib.hid (show chk o l = if 64 < l.length then 3 else if asc l = true then 0 else 14 by rw [CK.out, if_neg (by simpa [allC] using hal)])
          clear hal
          by_cases h64 : 64 < l.length
          · have R := Lib.hid (show chk o l = 3 by rw [CK.out, if_pos h64])
            go_wp2_with fail
            go_ret
            exact outI R.out.symm B.out.below
          · have CK := Lib.hid (show chk o l = if asc l = true then 0 else 14 by rw [CK.out, if_neg h64])
            go_wp2_with fail
            go_loopw [6] (fun i wr => ∃ p : Nat, i = .int .i64 ((p : Int) + 1) ∧ p ≤ l.length ∧ asc l = asc (l.drop p) ∧ BxZ w o A l.length c wr) (fun i _ => l.length + 1 - (intOf i).toNat)
            case atStart => exact ⟨0, rfl, Nat.zero_le _, rfl, B.out⟩
            case round =>
              obtain ⟨p, rfl, hp, has, hb⟩ := hrel
              have B := Lib.hid hb
              have c0 := hb.c0
              have c1 := hb.c1
              by_cases hlt : p + 1 < l.length
              · obtain ⟨b, q, rfl, g1, g2, g3, g4, g5⟩ := (HA.out.below hb.below) (p + 1) hlt
                obtain ⟨b2, q2, hq, f1, f2, f3, f4, f5⟩ := (HA.out.below hb.below) p (by omega)
                cases hq
                rw [asc_step l p hlt] at has
                have AS := Lib.hid has
                have i1 : (p : Int) + 1 < (l.length : Int) := by omega
                have i2 : (p : Int) < (l.length : Int) := by omega
                have i3 : (0 : Int) ≤ (p : Int) + 1 := by omega
                have i4 : ((p : Int) + 1).toNat = p + 1 := by omega
                have j3 : IntKind.i64.wrap ((p : Int) + 1 - 1) = (p : Int) := by rw [show (p : Int) + 1 - 1 = (p : Int) by omega]; exact IntWalk.i64_in _ (by omega)
                have j4 : IntKind.i64.wrap (p : Int) = (p : Int) := IntWalk.i64_in _ (by omega)
                clear has hb
                generalize l[p + 1].1 = t at *
                generalize l[p + 1].2 = f at *
                generalize l[p].1 = t0 at *
                generalize l[p].2 = f0 at *
                by_cases hle : t ≤ t0
                · have d := dt hle
                  have R := Lib.hid (show chk o l = 14 by rw [CK.out, AS.out, decide_eq_false (by omega)]; rfl)
                  go_wp2_with fail
                  go_quiet (fail)
                  clear i1 i2 i3 i4 j3 j4
                  go_wp2_with fail
                  go_ret
                  exact outI R.out.symm (B.out.next (below_drewN (Below.refl _ _) _)).below
                · have d := df hle
                  have R := Lib.hid (show asc l = asc (l.drop (p + 1)) by rw [AS.out, decide_eq_true (by omega)]; rfl)
                  go_wp2_with fail
                  go_quiet (fail)
                  clear i1 i2 i3 i4 j3 j4
                  go_wp2_with fail
                  go_roundw
                  case rel => exact ⟨p + 1, by go_num, by omega, R.out, B.out.next (below_drewN (Below.refl _ _) _)⟩
                  case measure => simp [intOf]; omega
              · rw [asc_end l p hlt] at has
                have R := Lib.hid (show chk o l = 0 by rw [CK.out, if_pos has])
                have d := df (show ¬ (p : Int) + 1 < (l.length : Int) by omega)
                clear has hb
                go_wp2_with fail
                go_ret
                exact outI R.out.symm B.out.below
end Go.Proofs.YtoodfiicoplbhaaDoor
