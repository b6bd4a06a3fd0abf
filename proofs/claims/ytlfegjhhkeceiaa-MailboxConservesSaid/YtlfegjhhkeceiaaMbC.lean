/- The reference's Expire and Take. -/
import Derived.Test.YtlfegjhhkeceiaaMbB
set_option linter.unusedVariables false
namespace Go.Proofs.Ytlfegjhhkeceiaa.Mbx
open Go.RowKit

theorem MlC.below {w w' : World} {b p B : Nat} {x : Ml} (h : MlC w b p x) (hb : Below B w w') (hlt : b < B) : MlC w' b p x :=
  ⟨(hb.cell (p := ⟨b, p, none⟩) hlt).trans h.1, (hb.cell (p := ⟨b, p + 1, none⟩) hlt).trans h.2.1, (hb.cell (p := ⟨b, p + 2, none⟩) hlt).trans h.2.2.1, (hb.cell (p := ⟨b, p + 3, none⟩) hlt).trans h.2.2.2.1, (hb.cell (p := ⟨b, p + 4, none⟩) hlt).trans h.2.2.2.2.1, (hb.cell (p := ⟨b, p + 5, none⟩) hlt).trans h.2.2.2.2.2.1, (hb.cell (p := ⟨b, p + 6, none⟩) hlt).trans h.2.2.2.2.2.2.1, (hb.cell (p := ⟨b, p + 7, none⟩) hlt).trans h.2.2.2.2.2.2.2.1, (hb.cell (p := ⟨b, p + 8, none⟩) hlt).trans h.2.2.2.2.2.2.2.2.1, (hb.cell (p := ⟨b, p + 9, none⟩) hlt).trans h.2.2.2.2.2.2.2.2.2⟩
def exU (m : List Ml) (now life : Int) (k : Nat) : List Ml := (m.take k).filter fun x => decide (Liv now life x)
theorem exU_zero (m : List Ml) (now life : Int) : exU m now life 0 = [] := rfl
theorem exU_yes (m : List Ml) (now life : Int) (k : Nat) (h : k < m.length) (e : Liv now life m[k]) : exU m now life (k + 1) = exU m now life k ++ [m[k]] := by
  unfold exU
  rw [take_one m k h, List.filter_append, List.filter_cons_of_pos (by simpa using e)]
  rfl
theorem exU_no (m : List Ml) (now life : Int) (k : Nat) (h : k < m.length) (e : ¬ Liv now life m[k]) : exU m now life (k + 1) = exU m now life k := by
  unfold exU
  rw [take_one m k h, List.filter_append, List.filter_cons_of_neg (by simpa using e)]
  simp
theorem exU_len (m : List Ml) (now life : Int) (k : Nat) : (exU m now life k).length ≤ k := by
  have h := List.length_filter_le (fun x : Ml => decide (Liv now life x)) (m.take k)
  rw [List.length_take] at h
  unfold exU
  omega
theorem exU_end (l : List Ml) (now life : Int) : exU (l.take 16) now life (l.take 16).length = expi l now life := by unfold exU; rw [List.take_length]; rfl
set_option maxRecDepth 100000 in
set_option maxHeartbeats 2000000 in
theorem rexpire_any (A : Option Addr) (c : Nat) (l : List Ml) (now life : Int) (w : World) (hl : l.length ≤ 9223372036854775807) (hA : MlAt w w.heap.size A l) :
    Calls Try.prog 16 #[.slice A l.length c, .int .i64 now, .int .i64 life] w (OutM w (expi l now life)) := by
  have K0 := Lib.hid (rfirst_any A c l w hl hA)
  have GE := Lib.hid (exU_end l now life)
  have LM : (l.take 16).length ≤ 16 := by rw [List.length_take]; omega
  clear hA
  generalize expi l now life = F at *
  generalize l.take 16 = m at *
  have KL := Lib.hid (fun n w => rlimit_any n w)
  have GY := Lib.hid (fun (k : Nat) (h : k < m.length) (e : lim now - lim m[k].2 ≤ lim life) => exU_yes m now life k h e)
  have GZ := Lib.hid (fun (k : Nat) (h : k < m.length) (e : ¬ lim now - lim m[k].2 ≤ lim life) => exU_no m now life k h e)
  have GL := Lib.hid (fun k => exU_len m now life k)
  have G0 := Lib.hid (exU_zero m now life)
  have b1 := lim_in now
  have b3 := lim_in life
  generalize exU m now life = G at *
  have BX := Lib.hid lim_in
  generalize lim = f at *
  unfold OutM at K0
  go_enter Try.func16, Try.ntmps16
  go_wp2_with fail
  refine K0.out.mono ?_
  rintro _ w1 ⟨v, rfl, ho, hb⟩
  obtain ⟨A1, c1, rfl, hs, _, _⟩ := ho.read
  have B1 := Lib.hid hb
  have HM := Lib.hid hs
  clear hb hs ho K0
  go_wp2_with fail
  go_loopw [8, 9] (fun vo vk wr => ∃ (k : Nat) (A2 : Option Addr) (c2 : Nat), vk = .int .i64 k ∧ k ≤ m.length ∧ vo = .slice A2 (G k).length c2 ∧ Hid (OwnM wr w1.heap.size (.slice A2 (G k).length c2) (G k)) ∧ Below w1.heap.size w1 wr) (fun _ vk _ => m.length - (intOf vk).toNat)
  case atStart => exact ⟨0, none, 0, rfl, by omega, by rw [G0.out]; rfl, Lib.hid (by rw [G0.out]; exact OwnF.nil _ _), Below.refl _ _⟩
  case round =>
    obtain ⟨k, A2, c2, rfl, hk, rfl, O, hb⟩ := hrel
    have B := Lib.hid hb
    have HK := Lib.hid (HM.out.below hb)
    clear hb
    by_cases hlt : k < m.length
    · have Y := Lib.hid (GY.out k hlt)
      have Z := Lib.hid (GZ.out k hlt)
      have LG := GL.out k
      obtain ⟨bb, p, rfl, hbw, hc, hok⟩ := ml_cell HK.out k hlt
      have OK := Lib.hid hok
      clear HK GY GZ GL hok
      obtain ⟨x, hx⟩ : ∃ x, m[k] = x := ⟨_, rfl⟩
      rw [hx] at hc OK Y Z
      clear hx
      obtain ⟨⟨x0, x1, x2, x3, x4, x5, x6, x7, x8⟩, x9⟩ := x
      have HC := Lib.hid hc
      obtain ⟨_, _, _, _, _, _, _, _, _, g9⟩ := hc
      have b2 := BX.out x9
      simp only at g9 Y Z
      have z1 : IntKind.i64.wrap (f now - f x9) = f now - f x9 := by rw [IntKind.wrap_i64]; omega
      by_cases hv : f now - f x9 ≤ f life
      · have d1 : decide (f now - f x9 ≤ f life) = true := dt hv
        have N := Lib.hid (Y.out hv)
        clear Y Z hv b1 b2 b3
        go_wp2_with fail
        go_quiet ((go_at_call 30; exact quiet_same (KL.out _ _)))
        clear g9
        obtain ⟨wq, hwq⟩ : ∃ wq, wq = wr.drewN nq := ⟨_, rfl⟩
        rw [← hwq]
        have BQ : Below wr.heap.size wr wq := by rw [hwq]; exact below_drewN (Below.refl _ _) _
        have B2 := Lib.hid (B.out.trans (BQ.mono B.out.size))
        have O2 := Lib.hid (O.out.below BQ)
        obtain ⟨g0, g1, g2, g3, g4, g5, g6, g7, g8, g9⟩ := HC.out.below BQ (Nat.lt_of_lt_of_le hbw B.out.size)
        simp only at g0 g1 g2 g3 g4 g5 g6 g7 g8 g9
        clear HC BQ hwq O
        obtain ⟨v6, w6, hap, ho6, hb6⟩ := app_mail O2.out _ OK.out (by omega) B2.out.size
        obtain ⟨A6, c6, e6, _⟩ := ho6.form
        subst e6
        have L6 := Lib.hid (congrArg List.length N.out.symm)
        have O6 := Lib.hid (show OwnM w6 w1.heap.size (.slice A6 (G (k + 1)).length c6) (G (k + 1)) by rw [N.out]; exact ho6)
        have B6 := Lib.hid (B2.out.trans hb6)
        rw [L6.out] at hap
        clear ho6 hb6 LG N OK O2
        go_wp2_with (at_builtin; refine Lib.wpList_append_run _ rfl _ _ _ _ rfl _ _ rfl rfl _ _ hap ?_)
        go_roundw
        case rel => exact ⟨k + 1, A6, c6, by go_num, hlt, rfl, O6, B6.out⟩
        case measure => simp [intOf]; omega
      · have d1 : decide (f now - f x9 ≤ f life) = false := df hv
        have N := Lib.hid (Z.out (by omega))
        clear Y Z hv b1 b2 b3 HC OK
        go_wp2_with fail
        go_quiet ((go_at_call 30; exact quiet_same (KL.out _ _)))
        go_wp2_with fail
        go_roundw
        case rel => exact ⟨k + 1, A2, c2, by go_num, hlt, by rw [N.out], Lib.hid (by rw [N.out]; exact O.out.drew _), below_drewN B.out _⟩
        case measure => simp [intOf]; omega
    · have e : k = m.length := by omega
      subst e
      have E := Lib.hid GE.out
      clear HK GY GZ GL GE
      go_wp2_with fail
      go_ret
      exact ⟨_, rfl, by rw [← E.out]; exact O.out.down B1.out.size, B1.out.trans (B.out.mono B1.out.size)⟩
end Go.Proofs.Ytlfegjhhkeceiaa.Mbx
