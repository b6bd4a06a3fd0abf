/- Contracts of the reference's Reader: booleans and lists. -/
import Derived.Test.YtfpkpgfdmidjfaaWH
set_option linter.unusedVariables false
namespace Go.Proofs.Ytfpkpgfdmidjfaa
open Go.RowKit

theorem rbool_dead (c : Nat) (S : ByteArray) (a : Nat) (e : Int) (w : World) (h : RB w c S a e) (he : e ≠ 0) :
    Calls Try.prog 39 #[pt c] w fun r w' => r = .returned (.bool false) ∧ w = w' := by
  have H := Lib.hid h
  have he' : (e != 0) = true := by simpa using he
  clear h he
  go_enter Try.func39, Try.ntmps39
  go_wp2_with fail
  refine (rerr_any c S a e _ H.out).mono ?_
  rintro r w' ⟨rfl, rfl⟩
  go_wp2_with fail
  go_ret
  exact ⟨rfl, rfl⟩

theorem sub_first (S : ByteArray) (a : Nat) (h : a < S.size) : (S.extract a S.size).data.toList = S[a] :: S.data.toList.drop (a + 1) := by
  rw [drop_at, drop_cons S a h]
theorem fBool_sub (S : ByteArray) (a : Nat) (h : a < S.size) : fBool (S.extract a S.size) = if 1 < S[a].toNat then (false, (S.extract a S.size).extract 1 (S.extract a S.size).size, 4) else (decide (S[a].toNat = 1), (S.extract a S.size).extract 1 (S.extract a S.size).size, 0) := by
  unfold fBool; rw [sub_first S a h]

set_option maxHeartbeats 1000000 in
theorem rbool_live (c : Nat) (S : ByteArray) (a : Nat) (w : World) (hs : S.size ≤ 100000) (ha : a ≤ S.size) (h : RB w c S a 0) :
    Calls Try.prog 39 #[pt c] w (OutR c S w (.bool (fBool (S.extract a S.size)).1) (fBool (S.extract a S.size)).2.1 (fBool (S.extract a S.size)).2.2) := by
  have R := Lib.hid h
  have h0 := h.c0
  have h1 := h.c1
  have h2 := h.c2
  have hf1 := h.fr 1
  have hf2 := h.fr 2
  clear h
  by_cases hlt : a < S.size
  · have F := Lib.hid (fBool_sub S a hlt)
    have X := Lib.hid (extract_extract S a 1 ha)
    have hlt2 : (a : Int) < (S.size : Int) := by omega
    have ha0 : 0 ≤ (a : Int) := by omega
    go_enter Try.func39, Try.ntmps39
    go_wp2_with fail
    refine (rerr_any c S a 0 _ R.out).mono ?_
    rintro r w' ⟨rfl, rfl⟩
    go_wp2_with fail
    go_quiet (fail)
    go_wp2_with fail
    go_quiet (fail)
    obtain ⟨d, hd⟩ : ∃ d, (S[a]).toNat = d := ⟨_, rfl⟩
    rw [hd] at F
    have hdl : d < 256 := by have := (S[a]).toNat_lt; omega
    rw [hd]
    clear hd
    by_cases hc : 1 < d
    · have G := Lib.hid (show fBool (S.extract a S.size) = (false, _, 4) by rw [F.out, if_pos hc])
      go_wp2_with fail
      go_ret
      rw [G.out]
      exact ⟨rfl, ⟨a, ha, (R.out.drewN _).set2 4, fun h => by cases h⟩, gb_trans (gb_drewN _ _ _) (gb_set _ _ _ _)⟩
    · have G := Lib.hid (show fBool (S.extract a S.size) = (decide (d = 1), _, 0) by rw [F.out, if_neg hc])
      have hb : d = 0 ∨ d = 1 := by omega
      clear F hc
      rcases hb with rfl | rfl
      all_goals
        go_wp2_with fail
        go_ret
        rw [G.out]
        exact ⟨rfl, ⟨a + 1, by omega, (R.out.drewN _).set1 _ _ (by omega), fun _ => X.out⟩, gb_trans (gb_drewN _ _ _) (gb_set _ _ _ _)⟩
  · have G := Lib.hid (fBool_nil (S.extract a S.size) (by rw [sub_size S a ha]; omega))
    have hlt2 : (S.size : Int) ≤ (a : Int) := by omega
    go_enter Try.func39, Try.ntmps39
    go_wp2_with fail
    refine (rerr_any c S a 0 _ R.out).mono ?_
    rintro r w' ⟨rfl, rfl⟩
    go_wp2_with fail
    go_quiet (fail)
    go_wp2_with fail
    go_ret
    rw [G.out]
    exact ⟨rfl, ⟨a, ha, (R.out.drewN _).set2 5, fun h => by cases h⟩, gb_trans (gb_drewN _ _ _) (gb_set _ _ _ _)⟩

theorem rints_dead (c : Nat) (S : ByteArray) (a : Nat) (e m : Int) (w : World) (h : RB w c S a e) (he : e ≠ 0) :
    Calls Try.prog 41 #[pt c, .int .i64 m] w fun r w' => r = .returned (.slice none 0 0) ∧ w = w' := by
  have H := Lib.hid h
  have HE := Lib.hid he
  clear h he
  go_enter Try.func41, Try.ntmps41
  go_wp2_with fail
  refine (rcount_dead c S a e m _ H.out HE.out).mono ?_
  rintro r w' ⟨rfl, rfl⟩
  go_wp2_with fail
  refine wp_loop_rounds 1 ?_
  rw [rounds_succ]
  go_wp2_with fail
  go_ret
  exact ⟨rfl, rfl⟩

/-- What a call of the reference that reads a list leaves. -/
def OutRL (c : Nat) (S : ByteArray) (w : World) (q : List Int × ByteArray × Int) (r : Ending) (w' : World) : Prop :=
  ∃ v, r = .returned v ∧ (∃ a, a ≤ S.size ∧ RB w' c S a q.2.2 ∧ (q.2.2 = 0 → q.2.1 = S.extract a S.size)) ∧ w.grownBy w' (some c) ∧ w'.ownsRow w.heap.size 3 1 v q.1.length (i64s q.1)

theorem rints_bad (c : Nat) (S : ByteArray) (a : Nat) (e m : Int) (t : ByteArray) (w : World) (hs : S.size ≤ 100000) (ha : a ≤ S.size) (h : RB w c S a 0) (hc : fCount m (S.extract a S.size) = (0, t, e)) (he : e ≠ 0) :
    Calls Try.prog 41 #[pt c, .int .i64 m] w (OutRL c S w ([], t, e)) := by
  have L := Lib.hid (rcount_live c S a m w hs ha h)
  rw [hc] at L
  have HE := Lib.hid he
  clear h hc he
  go_enter Try.func41, Try.ntmps41
  go_wp2_with fail
  refine L.out.mono ?_
  rintro r w1 ⟨rfl, ⟨a1, ha1, hrb, hre⟩, hg⟩
  have R := Lib.hid hrb
  have G := Lib.hid hg
  clear hrb hg hre
  go_wp2_with fail
  refine wp_loop_rounds 1 ?_
  rw [rounds_succ]
  go_wp2_with fail
  go_ret
  exact ⟨_, rfl, ⟨a1, ha1, R.out, fun h => absurd h HE.out⟩, G.out, World.ownsRow_nil _ _ _ _⟩

set_option maxRecDepth 100000 in
set_option maxHeartbeats 1000000 in
theorem rints_good (c n : Nat) (S : ByteArray) (a : Nat) (m : Int) (t : ByteArray) (w : World) (hs : S.size ≤ 100000) (ha : a ≤ S.size) (hn : n ≤ 9223372036854775807) (h : RB w c S a 0) (hc : fCount m (S.extract a S.size) = ((n : Int), t, 0)) :
    Calls Try.prog 41 #[pt c, .int .i64 m] w (OutRL c S w (gInts n t)) := by
  obtain ⟨i0, hi, hz0, hz1, hz2⟩ := info_parts info_int
  have L := Lib.hid (rcount_live c S a m w hs ha h)
  rw [hc] at L
  have ET := Lib.hid (gInts_eta n t)
  have hbl := h.lt
  clear hc h
  go_enter Try.func41, Try.ntmps41
  go_wp2_with fail
  refine L.out.mono ?_
  rintro r w1 ⟨rfl, ⟨a1, ha1, hrb, hre⟩, hg⟩
  have ht := hre rfl
  subst ht
  have R := Lib.hid hrb
  have G := Lib.hid hg
  have N := World.ownsRow_nil w1 w.heap.size 3 1
  have hsub := sub_size S a1 ha1
  have HSUB := Lib.hid hsub
  clear hrb hg hre hsub
  go_wp2_with fail
  go_loopw [6, 7, 8] (fun v i _ wr => ∃ (k : Nat) (ys : List Int) (b : Nat), k ≤ n ∧ i = .int .i64 k ∧ ys.length = k ∧ gInts n (S.extract a1 S.size) = ahead ys (gInts (n - k) (S.extract b S.size)) ∧ b ≤ S.size ∧ ys.length ≤ b ∧ RB wr c S b 0 ∧ w.grownBy wr (some c) ∧ wr.ownsRow w.heap.size 3 1 v ys.length (i64s ys)) (fun _ i _ _ => n - (intOf i).toNat)
  case atStart => exact ⟨0, [], a1, Nat.zero_le _, rfl, rfl, ET.out, ha1, by simp, R.out, G.out, N⟩
  case round =>
    obtain ⟨k, ys, b, hk, rfl, hy, hgi, hb, hyb, hp, hg, hown⟩ := hrel
    have HP2 := Lib.hid hp
    have HG2 := Lib.hid hg
    have HI := Lib.hid hgi
    have HO := Lib.hid hown
    have hsz := hg.size
    have HL := Lib.hid (fun g (hk : u6.ownBlock = some g) => (hown.lt g hk).1)
    clear hp hg hgi hown N
    subst hy
    by_cases hlt : ys.length < n
    · obtain ⟨j, hj⟩ : ∃ j, n - ys.length = j + 1 := ⟨n - ys.length - 1, by omega⟩
      have I := Lib.hid (rint_live c S b wr hs hb HP2.out)
      have hsb := sub_size S b hb
      have Z := Lib.hid (fInt_less (S.extract b S.size) (by omega))
      rw [hsb] at Z
      have BAD := Lib.hid (ahead_bad ys j (S.extract b S.size))
      have GOOD := Lib.hid (ahead_good ys j (S.extract b S.size))
      have HJ := Lib.hid hj
      have hj2 : n - (ys.length + 1) = j := by omega
      have HJ2 := Lib.hid hj2
      clear hj hj2 hsb
      rcases hr : fInt (S.extract b S.size) with ⟨v, u', e⟩
      rw [hr] at I Z BAD GOOD
      clear hr
      go_wp2_with fail
      refine I.out.mono ?_
      rintro r w2 ⟨rfl, ⟨b2, hb2, hp, hre⟩, hg⟩
      have HP3 := Lib.hid hp
      have HG3 := Lib.hid hg
      have HE := Lib.hid hre
      have hsz3 := hg.size
      have hown3 := HO.out.kept hg (by
        rcases hob : u6.ownBlock with _ | g
        · exact Or.inl rfl
        · right; have := HL.out g hob; intro he; have := Option.some.inj he; omega)
      clear hp hg hre
      go_wp2_with fail
      refine (rerr_any c S b2 e w2 HP3.out).mono ?_
      rintro r w2' ⟨rfl, rfl⟩
      by_cases he : e = 0
      · subst he
        have hu' : b < b2 := by
          have h1 := Z.out rfl
          have h2 := HE.out rfl
          try simp only at h1 h2
          rw [h2, sub_size S b2 hb2] at h1
          omega
        have HU := Lib.hid (HE.out rfl)
        go_wp2_with (at_builtin; refine wpList_append_own _ rfl (.tmp 22) (.tmp 24) 22 rfl w.heap.size 3 i0 (.int .i64 0) 1 8 Try.underlying22 hi hz0 hz1 hz2 rfl (by decide) _ _ _ rfl (hown3.alloc _) ⟨w2.heap.size, 0, none⟩ 1 1 [.int .i64 v] rfl rfl (one_cell _ _ _) ?c2 ?c3 ?c4 ?c5 ?_)
        case c2 => intro u hu; simp at hu; subst hu; rfl
        case c3 => unfold maxLen; omega
        case c4 => omega
        case c5 => simp; omega
        intro v' w3 hown' hgrow _
        have R2 := Lib.hid hown'
        have HG4 := Lib.hid hgrow
        clear hown' hown3 hgrow
        go_wp2_with fail
        go_roundw
        case rel =>
          refine ⟨ys.length + 1, ys ++ [v], b2, by omega, by go_num, isnoc_len _ _, by rw [HI.out, HJ.out, HJ2.out, ← HU.out]; exact GOOD.out trivial, hb2, by rw [isnoc_len]; omega, ?_, ?_, ?_⟩
          · exact (RB.kept (HP3.out.kept (World.grownBy_alloc w2 _ none) (by simp)) HG4.out (by intro he; have := HL.out c he.symm; omega))
          · exact gb_row (gb_alloc (gb_trans HG2.out HG3.out) _) HG4.out HL.out
          · rw [← i64s_snoc, isnoc_len]; exact R2.out
        case measure => simp [intOf]; omega
      · have hne : (e != 0) = true := by simpa using he
        have HNE := Lib.hid he
        go_wp2_with fail
        go_ret
        refine ⟨_, rfl, ⟨b2, hb2, ?_, fun h => ?_⟩, gb_trans HG2.out HG3.out, ?_⟩
        · rw [HI.out, HJ.out, BAD.out he]; exact HP3.out
        · rw [HI.out, HJ.out, BAD.out he] at h; exact absurd h HNE.out
        · rw [HI.out, HJ.out, BAD.out he]; exact World.ownsRow_nil _ _ _ _
    · have hk2 : n - ys.length = 0 := by omega
      have HK := Lib.hid hk2
      clear hk2
      go_wp2_with fail
      go_ret
      refine ⟨_, rfl, ⟨b, hb, ?_, fun _ => ?_⟩, HG2.out, ?_⟩
      · rw [HI.out, HK.out, ahead_done]; exact HP2.out
      · rw [HI.out, HK.out, ahead_done]
      · rw [HI.out, HK.out, ahead_done]; exact HO.out

theorem rints_live (c : Nat) (S : ByteArray) (a : Nat) (m : Int) (w : World) (hs : S.size ≤ 100000) (hm : m ≤ 9223372036854775807) (ha : a ≤ S.size) (h : RB w c S a 0) :
    Calls Try.prog 41 #[pt c, .int .i64 m] w (OutRL c S w (fInts m (S.extract a S.size))) := by
  have hsz := sub_size S a ha
  have B := fCount_bd m (S.extract a S.size) hm
  have V := fCount_e m (S.extract a S.size) (by omega)
  have F := (show fInts m (S.extract a S.size) = if (fCount m (S.extract a S.size)).2.2 ≠ 0 then ([], (fCount m (S.extract a S.size)).2.1, (fCount m (S.extract a S.size)).2.2) else gInts (fCount m (S.extract a S.size)).1.toNat (fCount m (S.extract a S.size)).2.1 from rfl)
  rcases hr : fCount m (S.extract a S.size) with ⟨v, t, e⟩
  rw [hr] at B V F
  simp only at B V F
  by_cases he : e = 0
  · subst he
    obtain ⟨n, rfl⟩ := Int.eq_ofNat_of_zero_le B.1
    rw [F, if_neg (by simp)]
    exact rints_good c n S a m t w hs ha (by omega) h hr
  · obtain rfl : v = 0 := V he
    rw [F, if_pos he]
    exact rints_bad c S a e m t w hs ha h hr he
end Go.Proofs.Ytfpkpgfdmidjfaa
