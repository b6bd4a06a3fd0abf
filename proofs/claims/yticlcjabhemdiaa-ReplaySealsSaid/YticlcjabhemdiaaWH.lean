/- Contracts of the reference's Reader: lengths, strings, booleans. -/
import Derived.Test.YticlcjabhemdiaaWG
set_option linter.unusedVariables false
namespace Go.Proofs.Yticlcjabhemdiaa.Wire
open Go.RowKit

theorem fcount_eq (most : Int) (s : ByteArray) : fCount most s = if (fInt s).2.2 ≠ 0 then (0, (fInt s).2.1, (fInt s).2.2) else if (fInt s).1 < 0 then (0, (fInt s).2.1, 4) else if max most 0 < (fInt s).1 then (0, (fInt s).2.1, 3) else ((fInt s).1, (fInt s).2.1, 0) := rfl
theorem sub_size (S : ByteArray) (a : Nat) (h : a ≤ S.size) : (S.extract a S.size).size = S.size - a := by simp

theorem rcount_dead (c : Nat) (S : ByteArray) (a : Nat) (e m : Int) (w : World) (h : RB w c S a e) (he : e ≠ 0) :
    Calls Try.prog 48 #[pt c, .int .i64 m] w fun r w' => r = .returned (.int .i64 0) ∧ w = w' := by
  have H := Lib.hid h
  have HE := Lib.hid he
  have he' : (e != 0) = true := by simpa using he
  clear h he
  go_enter Try.func48, Try.ntmps48
  go_wp2_with fail
  refine (rint_dead c S a e _ H.out HE.out).mono ?_
  rintro r w' ⟨rfl, rfl⟩
  go_wp2_with fail
  all_goals
    refine (rerr_any c S a e _ H.out).mono ?_
    rintro r w' ⟨rfl, rfl⟩
    go_wp2_with fail
    go_ret
    exact ⟨rfl, rfl⟩

set_option maxHeartbeats 1000000 in
theorem rcount_live (c : Nat) (S : ByteArray) (a : Nat) (m : Int) (w : World) (hs : S.size ≤ 100000) (ha : a ≤ S.size) (h : RB w c S a 0) :
    Calls Try.prog 48 #[pt c, .int .i64 m] w (OutR c S w (.int .i64 (fCount m (S.extract a S.size)).1) (fCount m (S.extract a S.size)).2.1 (fCount m (S.extract a S.size)).2.2) := by
  have L := Lib.hid (rint_live c S a w hs ha h)
  have F := Lib.hid (fcount_eq m (S.extract a S.size))
  have hsz := sub_size S a ha
  have B := Lib.hid (fInt_bad (S.extract a S.size) (by omega))
  clear h hsz
  rcases hr : fInt (S.extract a S.size) with ⟨v, t, e⟩
  rw [hr] at L F B
  clear hr
  by_cases he : e = 0
  · subst he
    by_cases h1 : v < 0
    · have E := Lib.hid (show fCount m (S.extract a S.size) = (0, t, 4) by rw [F.out]; simp [h1])
      go_enter Try.func48, Try.ntmps48
      go_wp2_with fail
      refine L.out.mono ?_
      rintro r w1 ⟨rfl, ⟨a1, ha1, hrb, hre⟩, hg⟩
      have R := Lib.hid hrb
      have G := Lib.hid hg
      have h2 := hrb.c2
      have hf := hrb.fr 2
      clear hrb hg hre
      go_wp2_with fail
      all_goals
        refine (rerr_any c S a1 0 _ R.out).mono ?_
        rintro r w' ⟨rfl, rfl⟩
        go_wp2_with fail
        go_ret
        rw [E.out]
        exact ⟨rfl, ⟨a1, ha1, R.out.set2 4, fun h => by cases h⟩, gb_trans G.out (gb_set _ _ _ _)⟩
    · by_cases h2 : max m 0 < v
      · have E := Lib.hid (show fCount m (S.extract a S.size) = (0, t, 3) by rw [F.out]; simp [h1, h2])
        have h3 : m < v := by omega
        have h4 : 0 < v := by omega
        clear h2
        go_enter Try.func48, Try.ntmps48
        go_wp2_with fail
        refine L.out.mono ?_
        rintro r w1 ⟨rfl, ⟨a1, ha1, hrb, hre⟩, hg⟩
        have R := Lib.hid hrb
        have G := Lib.hid hg
        have h2 := hrb.c2
        have hf := hrb.fr 2
        clear hrb hg hre
        go_wp2_with fail
        all_goals
          refine (rerr_any c S a1 0 _ R.out).mono ?_
          rintro r w' ⟨rfl, rfl⟩
          go_wp2_with fail
          go_ret
          rw [E.out]
          exact ⟨rfl, ⟨a1, ha1, R.out.set2 3, fun h => by cases h⟩, gb_trans G.out (gb_set _ _ _ _)⟩
      · have E := Lib.hid (show fCount m (S.extract a S.size) = (v, t, 0) by rw [F.out]; simp [h1, h2])
        have h3 : m < 0 → v = 0 := by omega
        have h4 : 0 ≤ m → v ≤ m := by omega
        go_enter Try.func48, Try.ntmps48
        go_wp2_with fail
        refine L.out.mono ?_
        rintro r w1 ⟨rfl, ⟨a1, ha1, hrb, hre⟩, hg⟩
        have R := Lib.hid hrb
        have G := Lib.hid hg
        have X := Lib.hid hre
        clear hrb hg hre
        by_cases hm : m < 0
        · obtain rfl := h3 hm
          clear h3 h4 h2
          go_wp2_with fail
          refine (rerr_any c S a1 0 _ R.out).mono ?_
          rintro r w' ⟨rfl, rfl⟩
          go_wp2_with fail
          go_ret
          rw [E.out]
          exact ⟨rfl, ⟨a1, ha1, R.out, fun _ => X.out trivial⟩, G.out⟩
        · have h5 := h4 (by omega)
          clear h3 h4 h2
          go_wp2_with fail
          refine (rerr_any c S a1 0 _ R.out).mono ?_
          rintro r w' ⟨rfl, rfl⟩
          go_wp2_with fail
          go_ret
          rw [E.out]
          exact ⟨rfl, ⟨a1, ha1, R.out, fun _ => X.out trivial⟩, G.out⟩
  · have E := Lib.hid (show fCount m (S.extract a S.size) = (0, t, e) by rw [F.out]; simp [he])
    obtain rfl : v = 0 := B.out he
    have he' : (e != 0) = true := by simpa using he
    have HE := Lib.hid he
    clear he
    go_enter Try.func48, Try.ntmps48
    go_wp2_with fail
    refine L.out.mono ?_
    rintro r w1 ⟨rfl, ⟨a1, ha1, hrb, hre⟩, hg⟩
    have R := Lib.hid hrb
    have G := Lib.hid hg
    clear hrb hg hre
    go_wp2_with fail
    all_goals
      refine (rerr_any c S a1 e _ R.out).mono ?_
      rintro r w' ⟨rfl, rfl⟩
      go_wp2_with fail
      go_ret
      rw [E.out]
      exact ⟨rfl, ⟨a1, ha1, R.out, fun h => absurd h HE.out⟩, G.out⟩

theorem rtext_dead (c : Nat) (S : ByteArray) (a : Nat) (e m : Int) (w : World) (h : RB w c S a e) (he : e ≠ 0) :
    Calls Try.prog 36 #[pt c, .int .i64 m] w fun r w' => r = .returned (.string ByteArray.empty) ∧ w = w' := by
  have H := Lib.hid h
  have HE := Lib.hid he
  have he' : (e != 0) = true := by simpa using he
  clear h he
  go_enter Try.func36, Try.ntmps36
  go_wp2_with fail
  refine (rcount_dead c S a e m _ H.out HE.out).mono ?_
  rintro r w' ⟨rfl, rfl⟩
  go_wp2_with fail
  refine (rerr_any c S a e _ H.out).mono ?_
  rintro r w' ⟨rfl, rfl⟩
  go_wp2_with fail
  go_ret
  exact ⟨rfl, rfl⟩

theorem ftext_eq (most : Int) (s : ByteArray) : fText most s = if (fCount most s).2.2 ≠ 0 then (ByteArray.empty, (fCount most s).2.1, (fCount most s).2.2) else fTake (fCount most s).1.toNat (fCount most s).2.1 := rfl
theorem sub_take (S : ByteArray) (a n : Nat) (h : a + n ≤ S.size) : (S.extract a S.size).extract 0 n = S.extract a (a + n) := by
  apply of_data
  rw [Lib.extract_data, drop_at, Lib.extract_data, List.drop_zero, Nat.sub_zero, show a + n - a = n by omega]

set_option maxHeartbeats 1000000 in
theorem rtext_live (c : Nat) (S : ByteArray) (a : Nat) (m : Int) (w : World) (hs : S.size ≤ 100000) (hm : m ≤ 9223372036854775807) (ha : a ≤ S.size) (h : RB w c S a 0) :
    Calls Try.prog 36 #[pt c, .int .i64 m] w (OutR c S w (.string (fText m (S.extract a S.size)).1) (fText m (S.extract a S.size)).2.1 (fText m (S.extract a S.size)).2.2) := by
  have L := Lib.hid (rcount_live c S a m w hs ha h)
  have F := Lib.hid (ftext_eq m (S.extract a S.size))
  have hsz := sub_size S a ha
  have B := Lib.hid (fCount_bd m (S.extract a S.size) hm)
  clear h hsz
  rcases hr : fCount m (S.extract a S.size) with ⟨v, t, e⟩
  rw [hr] at L F B
  clear hr
  by_cases he : e = 0
  · subst he
    obtain ⟨n, rfl⟩ := Int.eq_ofNat_of_zero_le B.out.1
    have hn : n ≤ 9223372036854775807 := by have := B.out.2; simp only at this; omega
    have E := Lib.hid (show fText m (S.extract a S.size) = fTake n t by rw [F.out]; simp)
    go_enter Try.func36, Try.ntmps36
    go_wp2_with fail
    refine L.out.mono ?_
    rintro r w1 ⟨rfl, ⟨a1, ha1, hrb, hre⟩, hg⟩
    have ht := hre rfl
    subst ht
    have R := Lib.hid hrb
    have G := Lib.hid hg
    have h0 := hrb.c0
    have h1 := hrb.c1
    have h2 := hrb.c2
    have hf1 := hrb.fr 1
    have hf2 := hrb.fr 2
    have hsz1 := sub_size S a1 ha1
    have HS := Lib.hid hsz1
    clear hrb hg hre hsz1
    by_cases hlt : S.size - a1 < n
    · have E2 := Lib.hid (show fTake n (S.extract a1 S.size) = (ByteArray.empty, S.extract a1 S.size, 5) by unfold fTake; rw [if_pos (by rw [HS.out]; exact hlt)])
      have hlt2 : (S.size : Int) - a1 < n := by omega
      clear hlt
      go_wp2_with fail
      refine (rerr_any c S a1 0 _ R.out).mono ?_
      rintro r w' ⟨rfl, rfl⟩
      go_wp2_with fail
      go_quiet (fail)
      go_wp2_with fail
      go_ret
      rw [E.out, E2.out]
      exact ⟨rfl, ⟨a1, ha1, (R.out.drewN _).set2 5, fun h => by cases h⟩, gb_trans (gb_trans G.out (gb_drewN _ _ _)) (gb_set _ _ _ _)⟩
    · have E2 := Lib.hid (show fTake n (S.extract a1 S.size) = ((S.extract a1 S.size).extract 0 n, (S.extract a1 S.size).extract n (S.extract a1 S.size).size, 0) by unfold fTake; rw [if_neg (by rw [HS.out]; exact hlt)])
      have hlt2 : (n : Int) ≤ (S.size : Int) - a1 := by omega
      have hle : a1 + n ≤ S.size := by omega
      have X := Lib.hid (extract_extract S a1 n ha1)
      have Y := Lib.hid (sub_take S a1 n hle)
      clear hlt
      go_wp2_with fail
      refine (rerr_any c S a1 0 _ R.out).mono ?_
      rintro r w' ⟨rfl, rfl⟩
      go_wp2_with fail
      go_quiet (fail)
      go_wp2_with fail
      have hq1 : IntKind.i64.wrap ((a1 : Int) + (n : Int)) = (a1 : Int) + (n : Int) := IntWalk.i64_in _ (by omega)
      have hq2 : 0 ≤ (a1 : Int) + (n : Int) := by omega
      have hq3 : ((a1 : Int) + (n : Int)).toNat = a1 + n := by omega
      have hq4 : (a1 : Int) + (n : Int) ≤ (S.size : Int) := by omega
      have hq5 : (a1 : Int) ≤ (a1 : Int) + (n : Int) := by omega
      go_quiet (fail)
      clear hq1 hq2 hq3 hq4 hq5
      go_wp2_with fail
      go_ret
      rw [E.out, E2.out]
      exact ⟨ret_str Y.out.symm, ⟨a1 + n, hle, (R.out.drewN _).set1 _ _ (by omega), fun _ => X.out⟩, gb_trans (gb_trans G.out (gb_drewN _ _ _)) (gb_set _ _ _ _)⟩
  · have E := Lib.hid (show fText m (S.extract a S.size) = (ByteArray.empty, t, e) by rw [F.out]; simp [he])
    have he' : (e != 0) = true := by simpa using he
    have HE := Lib.hid he
    clear he
    go_enter Try.func36, Try.ntmps36
    go_wp2_with fail
    refine L.out.mono ?_
    rintro r w1 ⟨rfl, ⟨a1, ha1, hrb, hre⟩, hg⟩
    have R := Lib.hid hrb
    have G := Lib.hid hg
    clear hrb hg hre
    go_wp2_with fail
    refine (rerr_any c S a1 e _ R.out).mono ?_
    rintro r w' ⟨rfl, rfl⟩
    go_wp2_with fail
    go_ret
    rw [E.out]
    exact ⟨rfl, ⟨a1, ha1, R.out, fun h => absurd h HE.out⟩, G.out⟩
end Go.Proofs.Yticlcjabhemdiaa.Wire
