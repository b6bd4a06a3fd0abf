/- The symmetric merge: the search, the rotation, the two halves. -/
import Derived.Test.YthfkmmgckiijcaaLH
import Derived.Deep.Cut
import Derived.Deep.CutRange
import Derived.Deep.DeepCutAuto
set_option linter.unusedVariables false
namespace Go.Proofs.Ythfkmmgckiijcaa.Lnk
open Go.RowKit Go.Sort
variable {lt : VL → VL → Bool}

set_option maxRecDepth 100000 in
set_option maxHeartbeats 4000000 in
theorem symC_any (hO : SWO lt) (blk cap a m b : Nat) (d0 d : Array VL) (w0 w : World) (R : RowK encV 3 w0 blk 0 d0) (hs : d.size = d0.size) (S : SWV w0 blk d w) (h0 : a + 1 < m) (h1 : m + 1 < b) (hb : b ≤ d.size) (hsz : d.size ≤ 1000000)
    (hl : SortedIn lt a m d) (hr : SortedIn lt m b d) (hg : Agr lt (ltOf cmpV) a m b d)
    (ih : ∀ (a' m' b' : Nat) (d' : Array VL) (w' : World), b' - a' < b - a → a' < m' → m' < b' → b' ≤ d'.size → d'.size = d0.size → SortedIn lt a' m' d' → SortedIn lt m' b' d' → Agr lt (ltOf cmpV) a' m' b' d' → SWV w0 blk d' w' →
      Calls Try.prog 56 #[.slice (some ⟨blk, 0, none⟩) d'.size cap, .int .i64 a', .int .i64 m', .int .i64 b', .func (.func 42) #[] #[]] w' (OutS lt w0 blk a' b' d')) :
    Calls Try.prog 56 #[.slice (some ⟨blk, 0, none⟩) d.size cap, .int .i64 a, .int .i64 m, .int .i64 b, .func (.func 42) #[] #[]] w (OutS lt w0 blk a b d) := by
  have S0 := Lib.hid S
  have HS := Lib.hid hs
  have HL := Lib.hid hl
  have HR := Lib.hid hr
  have HG := Lib.hid hg
  have IH := Lib.hid ih
  have t1 : ((m : Int) - (a : Int) == 1) = false := by simp; omega
  have t2 : ((b : Int) - (m : Int) == 1) = false := by simp; omega
  have eg := enB
  obtain ⟨l1, l2, l3, l4, l5⟩ := lo_hi (show a < m by omega) (show m < b by omega)
  obtain ⟨c, hc⟩ : ∃ c, c = (a + b) / 2 := ⟨_, rfl⟩
  have HC := Lib.hid hc
  rw [← hc] at l4 l5
  have hc1 : a < c := by omega
  have hc2 : c < b := by omega
  have uu := u64_nat2 a b (by omega)
  have ec : ((a : Int) + (b : Int)) / 2 = (c : Int) := by omega
  have wc0 := i64_nat c (by omega)
  obtain ⟨n, hn⟩ : ∃ n, n = c + m := ⟨_, rfl⟩
  have en : (c : Int) + (m : Int) = (n : Int) := by omega
  have wn := i64_nat n (by omega)
  obtain ⟨p, hp⟩ : ∃ p, p = n - 1 := ⟨_, rfl⟩
  have ep : (n : Int) - 1 = (p : Int) := by omega
  have wp := i64_nat p (by omega)
  have EP : (a + b) / 2 + m - 1 = p := by omega
  have SL : Hid (∀ x e, lo a m b ≤ x → x ≤ e → e < hi a m b → lt d[p - e]! d[e]! = false → lt d[p - x]! d[x]! = false) := Lib.hid (fun x e h1 h2 h3 h4 => by rw [← EP] at h4 ⊢; exact scan_low hO (by omega) (by omega) hl hr h1 h2 h3 h4)
  have SH : Hid (∀ x e, lo a m b ≤ e → e ≤ x → x < hi a m b → lt d[p - e]! d[e]! = true → lt d[p - x]! d[x]! = true) := Lib.hid (fun x e h1 h2 h3 h4 => by rw [← EP] at h4 ⊢; exact scan_high hO (by omega) (by omega) hl hr h1 h2 h3 h4)
  have FC : Hid (∀ (s : Nat) (d' : Array VL), lo a m b ≤ s → s ≤ hi a m b → (∀ x, lo a m b ≤ x → x < s → lt d[p - x]! d[x]! = false) → (∀ x, s ≤ x → x < hi a m b → lt d[p - x]! d[x]! = true) → Rot d s m (n - s) d' →
      (SortedIn lt a s d' ∧ SortedIn lt s c d' ∧ SortedIn lt c (n - s) d' ∧ SortedIn lt (n - s) b d' ∧ (∀ i j, a ≤ i → i < c → c ≤ j → j < b → lt d'[j]! d'[i]! = false)) ∧ Agr lt (ltOf cmpV) a s c d' ∧ Agr lt (ltOf cmpV) c (n - s) b d') :=
    Lib.hid (fun s d' h1 h2 h3 h4 h5 => by
      rw [hn, hc] at h5 ⊢
      exact ⟨fnd_cut hO (by omega) (by omega) hl hr ⟨h1, h2, fun x p1 p2 => by rw [EP]; exact h3 x p1 p2, fun x p1 p2 => by rw [EP]; exact h4 x p1 p2⟩ h5, rot_agr (by omega) (by omega) h1 h2 hg h5⟩)
  have n1 : n ≤ c + m := by omega
  have n2 : c + m ≤ n := by omega
  have n3 : p + 1 ≤ n := by omega
  have n4 : n ≤ p + 1 := by omega
  have LO := Lib.hid (show (c < m → lo a m b = n - b) ∧ (¬ c < m → lo a m b = a) from ⟨fun h => by unfold lo; rw [← hc, if_pos h, hn], fun h => by unfold lo; rw [← hc, if_neg h]⟩)
  have HI := Lib.hid (show (c < m → hi a m b = c) ∧ (¬ c < m → hi a m b = m) from ⟨fun h => by unfold hi; rw [← hc, if_pos h], fun h => by unfold hi; rw [← hc, if_neg h]⟩)
  clear S hs hl hr hg ih hc hn hp EP
  generalize hL : lo a m b = L at *
  generalize hH : hi a m b = H at *
  have HLH := Lib.hid (And.intro hL hH)
  clear hL hH
  go_enter Try.func56, Try.ntmps56
  go_upto_if 140 with fail
  go_cut [20, 21] from 25 (fun s20 s21 wx => s20 = .int .i64 (L : Int) ∧ s21 = .int .i64 (H : Int) ∧ wx = w)
  case first => as_aux_lemma =>
    by_cases hcm : c < m
    · have e1 : (n : Int) - (b : Int) = (L : Int) := by have := LO.out.1 hcm; omega
      have e2 := HI.out.1 hcm
      have wL := i64_nat L (by omega)
      have EH := Lib.hid (show (c : Int) = (H : Int) by omega)
      clear e2
      go_wp2_with fail
      go_meet
      exact ⟨rfl, by rw [EH.out], rfl⟩
    · have e1 := LO.out.2 hcm
      have e2 := HI.out.2 hcm
      have EH := Lib.hid (show (m : Int) = (H : Int) ∧ (a : Int) = (L : Int) by omega)
      clear e1 e2
      go_wp2_with fail
      go_meet
      exact ⟨by rw [EH.out.2], by rw [EH.out.1], rfl⟩
  case rest => as_aux_lemma =>
    obtain ⟨rfl, rfl, rfl⟩ := hcut
    go_wp2_with fail
    go_loopw [20, 21] (fun vs vr wr => ∃ s r : Nat, vs = .int .i64 s ∧ vr = .int .i64 r ∧ L ≤ s ∧ s ≤ r ∧ r ≤ H ∧ Hid (∀ x, L ≤ x → x < s → lt d[p - x]! d[x]! = false) ∧ Hid (∀ x, r ≤ x → x < H → lt d[p - x]! d[x]! = true) ∧ SWV w0 blk d wr) (fun vs vr _ => (intOf vr - intOf vs).toNat)
    case atStart => exact ⟨L, H, rfl, rfl, Nat.le_refl _, by omega, Nat.le_refl _, Lib.hid (fun x h1 h2 => by omega), Lib.hid (fun x h1 h2 => by omega), S0.out⟩
    case round =>
      clear S0
      obtain ⟨s, r, rfl, rfl, hLs, hsr, hrH, FL, FH, hS⟩ := hrel
      have SS := Lib.hid hS
      by_cases hlt : s < r
      · obtain ⟨x, hx⟩ : ∃ x, x = (s + r) / 2 := ⟨_, rfl⟩
        have x1 : s ≤ x := by omega
        have x2 : x < r := by omega
        have u1 := u64_nat2 s r (by omega)
        have eX : ((s : Int) + (r : Int)) / 2 = (x : Int) := by omega
        have wX := i64_nat x (by omega)
        obtain ⟨g, hgx⟩ : ∃ g, g = p - x := ⟨_, rfl⟩
        have eG : (p : Int) - (x : Int) = (g : Int) := by omega
        have wG := i64_nat g (by omega)
        have g1 : m ≤ g := by omega
        have g2 : g < b := by omega
        have bx : (x : Int) < (d.size : Int) := by omega
        have bg : (g : Int) < (d.size : Int) := by omega
        have C := fun n os => sw_cell (hS.grown n os) R HS.out g (by omega)
        have c0 := fun n os => (C n os).1
        have c1 := fun n os => (C n os).2.1
        have c2 := fun n os => (C n os).2.2
        have C' := fun n os => sw_cell (hS.grown n os) R HS.out x (by omega)
        have e0 := fun n os => (C' n os).1
        have e1 := fun n os => (C' n os).2.1
        have e2 := fun n os => (C' n os).2.2
        have KC := Lib.hid (fun W => cmpAt d[g]! d[x]! W)
        have AG := Lib.hid (show decide (cmpV d[g]! d[x]! < 0) = lt d[p - x]! d[x]! by rw [← hgx]; exact HG.out x g (by omega) (by omega) g1 g2)
        clear C C' hS hx hgx
        generalize cmpV d[g]! d[x]! = q at *
        generalize d[g]!.1.1 = x0 at *
        generalize d[g]!.1.2.1 = x1 at *
        generalize d[g]!.1.2.2 = x2 at *
        generalize d[x]!.1.1 = y0 at *
        generalize d[x]!.1.2.1 = y1 at *
        generalize d[x]!.1.2.2 = y2 at *
        by_cases hq : q < 0
        · have d1 := dt hq
          have LT := Lib.hid (show lt d[p - x]! d[x]! = true by rw [← AG.out]; exact d1)
          clear AG
          go_wp2_with fail
          have mixed := mixedB
          go_quiet_grown (first | (go_at_call 42; exact grown_out (KC.out _)) | fail)
          go_wp2_with fail
          go_roundw
          case rel => exact ⟨s, x, rfl, rfl, hLs, by omega, by omega, FL, Lib.hid (fun y p1 p2 => SH.out y x (by omega) p1 p2 LT.out), SS.out.grown _ _⟩
          case measure => simp [intOf]; omega
        · have d1 := df hq
          have LT := Lib.hid (show lt d[p - x]! d[x]! = false by rw [← AG.out]; exact d1)
          clear AG
          go_wp2_with fail
          have mixed := mixedB
          go_quiet_grown (first | (go_at_call 42; exact grown_out (KC.out _)) | fail)
          go_wp2_with fail
          go_roundw
          case rel => exact ⟨x + 1, r, by go_num, rfl, by omega, by omega, hrH, Lib.hid (fun y p1 p2 => SL.out y x p1 (by omega) (by omega) LT.out), FH, SS.out.grown _ _⟩
          case measure => simp [intOf]; omega
      · have FH := Lib.hid (show ∀ x, s ≤ x → x < H → lt d[p - x]! d[x]! = true from fun x p1 p2 => FH.out x (by omega) p2)
        obtain ⟨e, he⟩ : ∃ e, e = n - s := ⟨_, rfl⟩
        have eE : (n : Int) - (s : Int) = (e : Int) := by omega
        have wE := i64_nat e (by omega)
        have FC2 := Lib.hid (fun d' => FC.out s d' hLs (by omega) FL.out FH.out)
        rw [← he] at FC2
        have e1 : n ≤ e + s := by omega
        have e2 : e + s ≤ n := by omega
        have sH : s ≤ H := by omega
        clear hS he SL SH FC FL FH
        go_upto_region 39 with fail
        go_cut [185] from 25 (fun v wx => v = .bool (decide (s < m) && decide (m < e)) ∧ wx = wr)
        case first => as_aux_lemma =>
          by_cases k1 : s < m
          · by_cases k2 : m < e
            · have d1 := dt k1
              have d2 := dt k2
              go_wp2_with fail
              go_meet
              exact ⟨by simp [k1, k2], rfl⟩
            · have d1 := dt k1
              have d2 := df k2
              go_wp2_with fail
              go_meet
              exact ⟨by simp [k2], rfl⟩
          · have d1 := df k1
            go_wp2_with fail
            go_meet
            exact ⟨by simp [k1], rfl⟩
        case rest => as_aux_lemma =>
          obtain ⟨rfl, rfl⟩ := hcut
          go_upto_if 185 with fail
          go_cut [] from 25 (fun wx => ∃ d1, Hid (Rot d s m e d1 ∧ PermIn a b d d1) ∧ SWV w0 blk d1 wx)
          case first => as_aux_lemma =>
            by_cases k1 : s < m
            · by_cases k2 : m < e
              · have hc := rotate_any (.func (.func 42) #[] #[]) blk cap s m e d0 d w0 _ R HS.out SS.out k1 k2 (by omega) hsz
                have HRT := Lib.hid hc
                have d1 := dt k1
                have d2 := dt k2
                clear hc
                go_wp2_with fail
                refine HRT.out.mono ?_
                rintro _ w2 ⟨rfl, d1, hr1, hp1, hs1⟩
                have Z := Lib.hid (And.intro hr1 (permIn_mono _ _ s e a b (by omega) (by omega) hb hp1))
                clear hr1 hp1
                go_wp2_with fail
                go_meet
                exact ⟨d1, Z, hs1⟩
              · have d1 := dt k1
                have d2 := df k2
                have Z := Lib.hid (And.intro (show Rot d s m e d by rw [show e = m by omega]; exact rot_id_right d s m) (permIn_refl d a b))
                go_wp2_with fail
                go_meet
                exact ⟨d, Z, SS.out⟩
            · have d1 := df k1
              have Z := Lib.hid (And.intro (show Rot d s m e d by rw [show s = m by omega]; exact rot_id_left d m e) (permIn_refl d a b))
              go_wp2_with fail
              go_meet
              exact ⟨d, Z, SS.out⟩
          case rest => as_aux_lemma =>
            obtain ⟨d1, HD1, hS1⟩ := hcut
            obtain ⟨⟨q1, q2, q3, q4, q5⟩, q6, q7⟩ := FC2.out d1 HD1.out.1
            have P1 := Lib.hid HD1.out.2
            have z1 : d1.size ≤ d.size := Nat.le_of_eq P1.out.1
            have z2 : d.size ≤ d1.size := Nat.le_of_eq P1.out.1.symm
            have ZS := Lib.hid P1.out.1
            have Q1 := Lib.hid q1
            have Q2 := Lib.hid q2
            have Q3 := Lib.hid q3
            have Q4 := Lib.hid q4
            have Q5 := Lib.hid q5
            have Q6 := Lib.hid q6
            have Q7 := Lib.hid q7
            have SS1 := Lib.hid hS1
            clear q1 q2 q3 q4 q5 q6 q7 hS1 HD1 FC2 SS
            go_upto_region 41 with fail
            go_cut [199] from 25 (fun v wx => v = .bool (decide (a < s) && decide (s < c)) ∧ wx = wc)
            case first => as_aux_lemma =>
              by_cases k1 : a < s
              · by_cases k2 : s < c
                · have d1 := dt k1
                  have d2 := dt k2
                  go_wp2_with fail
                  go_meet
                  exact ⟨by simp [k1, k2], rfl⟩
                · have d1 := dt k1
                  have d2 := df k2
                  go_wp2_with fail
                  go_meet
                  exact ⟨by simp [k2], rfl⟩
              · have d1 := df k1
                go_wp2_with fail
                go_meet
                exact ⟨by simp [k1], rfl⟩
            case rest => as_aux_lemma =>
              obtain ⟨rfl, rfl⟩ := hcut
              go_upto_if 199 with fail
              go_cut [] from 25 (fun wx => ∃ d2, Hid (PermIn a c d1 d2 ∧ SortedIn lt a c d2) ∧ SWV w0 blk d2 wx)
              case first => as_aux_lemma =>
                by_cases k1 : a < s
                · by_cases k2 : s < c
                  · have hc := IH.out a s c d1 _ (by omega) k1 k2 (by omega) (ZS.out.trans HS.out) Q1.out Q2.out Q6.out SS1.out
                    rw [ZS.out] at hc
                    have HRT := Lib.hid hc
                    have d1 := dt k1
                    have d2 := dt k2
                    clear hc
                    go_wp2_with fail
                    refine HRT.out.mono ?_
                    rintro _ w2 ⟨rfl, d2, hp1, hr1, hs1⟩
                    have Z := Lib.hid (And.intro hp1 hr1)
                    clear hr1 hp1
                    go_wp2_with fail
                    go_meet
                    exact ⟨d2, Z, hs1⟩
                  · have d1' := dt k1
                    have d2 := df k2
                    have Z := Lib.hid (And.intro (permIn_refl d1 a c) (sorted_part (b' := c) Q1.out (Nat.le_refl _) (by omega)))
                    go_wp2_with fail
                    go_meet
                    exact ⟨d1, Z, SS1.out⟩
                · have d1' := df k1
                  have Z := Lib.hid (And.intro (permIn_refl d1 a c) (sorted_part (a' := a) Q2.out (by omega) (Nat.le_refl _)))
                  go_wp2_with fail
                  go_meet
                  exact ⟨d1, Z, SS1.out⟩
              case rest => as_aux_lemma =>
                obtain ⟨d2, HD2, hS2⟩ := hcut
                have ZS2 := Lib.hid (HD2.out.1.1.trans ZS.out)
                have E2 := Lib.hid (show ∀ p, c ≤ p → p < b → d2[p]! = d1[p]! from fun p p1 p2 => HD2.out.1.2.1 p (Or.inr p1))
                have Q3 := Lib.hid (show SortedIn lt c e d2 from sorted_of Q3.out fun p p1 p2 => E2.out p p1 (by omega))
                have Q4 := Lib.hid (show SortedIn lt e b d2 from sorted_of Q4.out fun p p1 p2 => E2.out p (by omega) p2)
                have Q7 := Lib.hid (show Agr lt (ltOf cmpV) c e b d2 from agr_of Q7.out E2.out)
                have z3 : d2.size ≤ d.size := Nat.le_of_eq ZS2.out
                have z4 : d.size ≤ d2.size := Nat.le_of_eq ZS2.out.symm
                have SS2 := Lib.hid hS2
                have FIN := Lib.hid (fun (d3 : Array VL) (h1 : PermIn c b d2 d3) (h2 : SortedIn lt c b d3) => (show PermIn a b d d3 ∧ SortedIn lt a b d3 from
                  ⟨permIn_trans _ _ _ _ _ (permIn_trans _ _ _ _ _ P1.out (permIn_mono _ _ a c a b (Nat.le_refl _) (by omega) (by omega) HD2.out.1)) (permIn_mono _ _ c b a b (by omega) (Nat.le_refl _) (by omega) h1),
                    merge_whole (by omega) (by omega) (by omega) Q5.out HD2.out.1 HD2.out.2 h1 h2⟩))
                clear hS2 E2 HD2 Q5 Q1 Q2 Q6 SS1
                by_cases k1 : c < e
                · by_cases k2 : e < b
                  · have hc := IH.out c e b d2 _ (by omega) k1 k2 (by omega) (ZS2.out.trans HS.out) Q3.out Q4.out Q7.out SS2.out
                    rw [ZS2.out] at hc
                    have HRT := Lib.hid hc
                    have d1' := dt k1
                    have d2' := dt k2
                    clear hc
                    go_wp2_with fail
                    refine HRT.out.mono ?_
                    rintro _ w2 ⟨rfl, d3, hp1, hr1, hs1⟩
                    have Z := Lib.hid (FIN.out d3 hp1 hr1)
                    clear hr1 hp1
                    go_wp2_with fail
                    go_end0
                    exact ⟨rfl, d3, Z.out.1, Z.out.2, hs1⟩
                  · have d1' := dt k1
                    have d2' := df k2
                    have Z := Lib.hid (FIN.out d2 (permIn_refl _ _ _) (sorted_part (b' := b) Q3.out (Nat.le_refl _) (by omega)))
                    go_wp2_with fail
                    go_end0
                    exact ⟨rfl, d2, Z.out.1, Z.out.2, SS2.out⟩
                · have d1' := df k1
                  have Z := Lib.hid (FIN.out d2 (permIn_refl _ _ _) (sorted_part (a' := c) Q4.out (by omega) (Nat.le_refl _)))
                  go_wp2_with fail
                  go_end0
                  exact ⟨rfl, d2, Z.out.1, Z.out.2, SS2.out⟩
end Go.Proofs.Ythfkmmgckiijcaa.Lnk
