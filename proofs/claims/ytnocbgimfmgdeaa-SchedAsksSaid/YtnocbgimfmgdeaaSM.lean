/- Contract of Next of sched. -/
import Derived.Test.YtnocbgimfmgdeaaSL
set_option linter.unusedVariables false
namespace Go.Proofs.Ytnocbgimfmgdeaa
open Go.RowKit

theorem week_at (w : World) : SpAt (w.alloc (.cells #[.int .i64 0, .int .i64 10080] 37)) (w.alloc (.cells #[.int .i64 0, .int .i64 10080] 37)).heap.size (some ⟨w.heap.size, 0, none⟩) [(0, 10080)] := fun i hi => by
  obtain rfl : i = 0 := by simpa using hi
  exact ⟨w.heap.size, 0, rfl, by simp, by simp, by simp, show I64 (0 : Int) from i64_small (by decide), show I64 (10080 : Int) from i64_small (by decide)⟩
theorem week_in (m : Int) (h0 : 0 ≤ m) (h1 : m < 10080) : inS [(0, 10080)] m = true := by
  show (inO (0, 10080) m || false) = true
  rw [(inO_iff (0, 10080) m).2 ⟨by decide, by decide, by decide, h0, h1⟩]; rfl
theorem nf_not {F : List Spn} {T : Int → Bool} {M : Int} (h : NF F T) (hM : T M = false) (hM2 : 0 ≤ M ∧ M < 10080) : ∀ s ∈ F, 1 ≤ (s.1 - M) % 10080 := fun s hs => by
  have := ascS_all h.1 s hs
  by_cases e : s.1 = M
  · exfalso
    have : inS F M = true := (inS_iff F M).2 ⟨s, hs, (inO_iff s M).2 ⟨by omega, by omega, by omega, by omega, by omega⟩⟩
    rw [h.2, hM] at this
    cases this
  · omega

set_option maxRecDepth 100000 in
set_option maxHeartbeats 4000000 in
theorem snext_any (w : World) (A : Option Addr) (c : Nat) (l : List Spn) (m : Int) (hl : l.length ≤ 100000) (hA : SpAt w w.heap.size A l) :
    Calls Try.prog 22 #[.slice A l.length c, .int .i64 m] w (OutX w (inS l) (m % 10080)) := by
  have NO := Lib.hid (snorm_any w A c l hl hA)
  have HA := Lib.hid hA
  have OW := Lib.hid (fun w => ofweek_any w m)
  have HS := Lib.hid (fun w hA => shas_any A c l m w hl hA)
  obtain ⟨M, hM⟩ : ∃ M, M = m % 10080 := ⟨_, rfl⟩
  rw [← hM] at OW HS ⊢
  have hM1 : 0 ≤ M := by omega
  have hM2 : M < 10080 := by omega
  clear hA hM
  go_enter Try.func22, Try.ntmps22
  go_wp2_with fail
  refine NO.out.mono ?_
  rintro e w1 ⟨A1, c1, F1, rfl, hs, hn, hb⟩
  have R1 := Lib.hid hs
  have N1 := Lib.hid hn
  have B1 := Lib.hid hb
  have hz1 := hb.size
  have HA1 := Lib.hid ((HA.out.below hb).mono hz1)
  clear hs hn hb
  rcases hS : inS l M with _ | _
  · rw [hS] at HS
    have HSV := Lib.hid hS
    clear hS
    go_wp2_with fail
    refine (HS.out w1 HA1.out).mono ?_
    rintro e w2 ⟨rfl, hb⟩
    obtain ⟨F, hF⟩ : ∃ F, F = F1 := ⟨_, rfl⟩
    subst hF
    have R := Lib.hid ((R1.out.below hb).mono hb.size)
    have N := N1
    have NE := Lib.hid (nf_not N1.out HSV.out ⟨hM1, hM2⟩)
    have FIN := Lib.hid (fun x (h : DsI M F x) => show NxIs (inS l) M x from h.fin N1.out ⟨hM1, hM2⟩ fun m _ _ => by rw [HSV.out]; simp)
    have B2 := Lib.hid (B1.out.trans (hb.mono hz1))
    have LF := Lib.hid N1.out.len
    have hFl : F.length ≤ 10081 := LF.out
    clear hb
    go_wp2_with fail
    go_loopw [6, 21] (fun n i wr => ∃ (k : Nat) (x : Int), i = .int .i64 k ∧ k ≤ F.length ∧ n = .int .i64 x ∧ DsI M (F.take k) x ∧ Below w2.heap.size w2 wr) (fun _ i _ => F.length - (intOf i).toNat)
    case atStart => exact ⟨0, 0, rfl, Nat.zero_le _, rfl, Or.inl ⟨rfl, rfl⟩, Below.refl _ _⟩
    case round =>
      obtain ⟨k, x, rfl, hk, rfl, hd, hb⟩ := hrel
      have B := Lib.hid hb
      have DD := Lib.hid hd
      clear hd
      by_cases hlt : k < F.length
      · obtain ⟨b, p, rfl, g1, g2, g3, g4, g5⟩ := (R.out.below hb) k hlt
        have AS := ascS_all N.out.1 F[k] (List.getElem_mem _)
        have hne := NE.out F[k] (List.getElem_mem _)
        have ST := Lib.hid (fun (h : 1 ≤ (F[k].1 - M) % 10080) => DD.out.snoc F[k] h)
        have TK := Lib.hid (List.take_succ_eq_append_getElem hlt)
        obtain ⟨f, hf⟩ : ∃ f, f = F[k].1 := ⟨_, rfl⟩
        rw [← hf] at AS hne g2 ST
        generalize F[k].2 = t at *
        obtain ⟨a1, a2, a3⟩ := AS
        obtain ⟨y, hy⟩ : ∃ y, y = (f - M) % 10080 := ⟨_, rfl⟩
        have OD := Lib.hid (fun w => ofweek_any w (f - M))
        rw [← hy] at OD ST
        have y1 : 1 ≤ y := by omega
        have y2 : y ≤ 10079 := by omega
        have ST := Lib.hid (ST.out y1)
        rw [← TK.out] at ST
        have x1 : 0 ≤ x := by rcases DD.out with ⟨_, h⟩ | ⟨h, _⟩ <;> omega
        have j0 : IntKind.i64.wrap (f - M) = f - M := IntWalk.i64_in _ (by omega)
        have BB := Lib.hid (fun n => below_drewN (B.out.alloc B.out.size (.cells #[.int .i64 f, .int .i64 t] 37)) n)
        clear hb hne hf hy g4 g5
        by_cases hx0 : x = 0
        · rw [if_pos (Or.inl hx0)] at ST
          have t1 : (x == 0) = true := by simpa using hx0
          clear hx0
          go_wp2_with fail
          go_quiet ((go_at_call 36; first | exact quiet_same (OD.out _) | exact quiet_same (OW.out _)))
          clear j0
          go_wp2_with fail
          go_roundw
          case rel => exact ⟨k + 1, y, by go_num, hlt, rfl, ST.out, BB.out _⟩
          case measure => simp [intOf]; omega
        · have t1 : (x == 0) = false := by simpa using hx0
          by_cases hxy : y < x
          · rw [if_pos (Or.inr hxy)] at ST
            have d1 := dt hxy
            clear hx0
            go_wp2_with fail
            go_quiet ((go_at_call 36; first | exact quiet_same (OD.out _) | exact quiet_same (OW.out _)))
            clear j0
            go_wp2_with fail
            go_roundw
            case rel => exact ⟨k + 1, y, by go_num, hlt, rfl, ST.out, BB.out _⟩
            case measure => simp [intOf]; omega
          · rw [if_neg (fun h => h.elim hx0 hxy)] at ST
            have d1 := df hxy
            clear hx0
            go_wp2_with fail
            go_quiet ((go_at_call 36; first | exact quiet_same (OD.out _) | exact quiet_same (OW.out _)))
            clear j0
            go_wp2_with fail
            go_roundw
            case rel => exact ⟨k + 1, x, by go_num, hlt, rfl, ST.out, BB.out _⟩
            case measure => simp [intOf]; omega
      · rw [List.take_of_length_le (by omega)] at DD
        clear hb
        go_wp2_with fail
        go_ret
        exact ⟨x, rfl, FIN.out x DD.out, B2.out.trans (B.out.mono B2.out.size)⟩

  · rw [hS] at HS
    have HSV := Lib.hid hS
    clear hS
    go_wp2_with fail
    refine (HS.out w1 HA1.out).mono ?_
    rintro e w5 ⟨rfl, hb⟩
    have B5 := Lib.hid (B1.out.trans (hb.mono hz1))
    have HA5 := Lib.hid ((HA1.out.below hb).mono hb.size)
    clear hb
    go_wp2_with fail
    refine (sminus_any _ (some ⟨w5.heap.size, 0, none⟩) A 1 c [(0, 10080)] l (by decide) hl (week_at w5) ((HA5.out.below (alloc_below _ _)).mono (by simp))).mono ?_
    rintro e w2 ⟨A2, c2, F, rfl, hs, hn, hb⟩
    have R := Lib.hid hs
    have N := Lib.hid hn
    have NE := Lib.hid (nf_not hn (M := M) (by rw [HSV.out]; simp) ⟨hM1, hM2⟩)
    have FIN := Lib.hid (fun x (h : DsI M F x) => show NxIs (inS l) M x from h.fin hn ⟨hM1, hM2⟩ fun m h0 h1 => by rw [week_in m h0 h1, HSV.out]; simp)
    have B2 := Lib.hid (B5.out.trans ((box_below hb).mono B5.out.size))
    have hFl : F.length ≤ 10081 := hn.len
    clear hs hn hb
    go_wp2_with fail
    go_loopw [6, 21] (fun n i wr => ∃ (k : Nat) (x : Int), i = .int .i64 k ∧ k ≤ F.length ∧ n = .int .i64 x ∧ DsI M (F.take k) x ∧ Below w2.heap.size w2 wr) (fun _ i _ => F.length - (intOf i).toNat)
    case atStart => exact ⟨0, 0, rfl, Nat.zero_le _, rfl, Or.inl ⟨rfl, rfl⟩, Below.refl _ _⟩
    case round =>
      obtain ⟨k, x, rfl, hk, rfl, hd, hb⟩ := hrel
      have B := Lib.hid hb
      have DD := Lib.hid hd
      clear hd
      by_cases hlt : k < F.length
      · obtain ⟨b, p, rfl, g1, g2, g3, g4, g5⟩ := (R.out.below hb) k hlt
        have AS := ascS_all N.out.1 F[k] (List.getElem_mem _)
        have hne := NE.out F[k] (List.getElem_mem _)
        have ST := Lib.hid (fun (h : 1 ≤ (F[k].1 - M) % 10080) => DD.out.snoc F[k] h)
        have TK := Lib.hid (List.take_succ_eq_append_getElem hlt)
        obtain ⟨f, hf⟩ : ∃ f, f = F[k].1 := ⟨_, rfl⟩
        rw [← hf] at AS hne g2 ST
        generalize F[k].2 = t at *
        obtain ⟨a1, a2, a3⟩ := AS
        obtain ⟨y, hy⟩ : ∃ y, y = (f - M) % 10080 := ⟨_, rfl⟩
        have OD := Lib.hid (fun w => ofweek_any w (f - M))
        rw [← hy] at OD ST
        have y1 : 1 ≤ y := by omega
        have y2 : y ≤ 10079 := by omega
        have ST := Lib.hid (ST.out y1)
        rw [← TK.out] at ST
        have x1 : 0 ≤ x := by rcases DD.out with ⟨_, h⟩ | ⟨h, _⟩ <;> omega
        have j0 : IntKind.i64.wrap (f - M) = f - M := IntWalk.i64_in _ (by omega)
        have BB := Lib.hid (fun n => below_drewN (B.out.alloc B.out.size (.cells #[.int .i64 f, .int .i64 t] 37)) n)
        clear hb hne hf hy g4 g5
        by_cases hx0 : x = 0
        · rw [if_pos (Or.inl hx0)] at ST
          have t1 : (x == 0) = true := by simpa using hx0
          clear hx0
          go_wp2_with fail
          go_quiet ((go_at_call 36; first | exact quiet_same (OD.out _) | exact quiet_same (OW.out _)))
          clear j0
          go_wp2_with fail
          go_roundw
          case rel => exact ⟨k + 1, y, by go_num, hlt, rfl, ST.out, BB.out _⟩
          case measure => simp [intOf]; omega
        · have t1 : (x == 0) = false := by simpa using hx0
          by_cases hxy : y < x
          · rw [if_pos (Or.inr hxy)] at ST
            have d1 := dt hxy
            clear hx0
            go_wp2_with fail
            go_quiet ((go_at_call 36; first | exact quiet_same (OD.out _) | exact quiet_same (OW.out _)))
            clear j0
            go_wp2_with fail
            go_roundw
            case rel => exact ⟨k + 1, y, by go_num, hlt, rfl, ST.out, BB.out _⟩
            case measure => simp [intOf]; omega
          · rw [if_neg (fun h => h.elim hx0 hxy)] at ST
            have d1 := df hxy
            clear hx0
            go_wp2_with fail
            go_quiet ((go_at_call 36; first | exact quiet_same (OD.out _) | exact quiet_same (OW.out _)))
            clear j0
            go_wp2_with fail
            go_roundw
            case rel => exact ⟨k + 1, x, by go_num, hlt, rfl, ST.out, BB.out _⟩
            case measure => simp [intOf]; omega
      · rw [List.take_of_length_le (by omega)] at DD
        clear hb
        go_wp2_with fail
        go_ret
        exact ⟨x, rfl, FIN.out x DD.out, B2.out.trans (B.out.mono B2.out.size)⟩

end Go.Proofs.Ytnocbgimfmgdeaa
