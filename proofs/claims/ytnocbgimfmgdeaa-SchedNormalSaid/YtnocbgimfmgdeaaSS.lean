/- The walks of SchedNormal and SchedChanges. -/
import Derived.Test.YtnocbgimfmgdeaaSR
set_option linter.unusedVariables false
namespace Go.Proofs.Ytnocbgimfmgdeaa
open Go.RowKit

theorem rev_take (l : List Spn) (k : Nat) (h : k < l.length) : l.reverse.take (k + 1) = l.reverse.take k ++ [(l[l.length - 1 - k].1, l[l.length - 1 - k].2)] := by
  rw [List.take_succ_eq_append_getElem (by rw [List.length_reverse]; exact h), List.getElem_reverse]
theorem SpAt.nums {w : World} {B : Nat} {A : Option Addr} {l : List Spn} (h : SpAt w B A l) : ∀ s ∈ l, I64 s.1 ∧ I64 s.2 := fun s hs => by
  obtain ⟨i, hi, rfl⟩ := List.mem_iff_getElem.1 hs
  obtain ⟨_, _, _, _, _, _, h1, h2⟩ := h i hi
  exact ⟨h1, h2⟩
theorem cnt_same {S : Int → Bool} {b : Bool} (n : Nat) (h : ∀ m : Int, 0 ≤ m → m < n → S m = b) : cntS S n = if b then (n : Int) else 0 := by
  induction n with
  | zero => cases b <;> rfl
  | succ n ih =>
    simp only [cntS]
    rw [ih fun m h0 h1 => h m h0 (by omega), h n (by omega) (by omega)]
    cases b
    · rfl
    · show (n : Int) + 1 = ((n + 1 : Nat) : Int); omega

section
variable (w : World) (A : Option Addr) (c : Nat) (l : List Spn)
set_option maxRecDepth 100000 in
set_option maxHeartbeats 8000000 in
theorem law_normal (hl : l.length ≤ 9223372036854775807) (hA : SpAt w w.heap.size A l) : Calls Try.prog 10 #[.slice A l.length c] w (OutB w true) := by
  have HA := Lib.hid hA
  have NU := Lib.hid hA.nums
  clear hA
  by_cases h : 40 < l.length
  · go_enter Try.func10, Try.ntmps10
    go_wp2_with fail
    refine (sawake_any _).mono ?_
    rintro e w1 ⟨rfl, hb⟩
    go_wp2_with fail
    go_ret
    exact outB rfl hb
  obtain ⟨i0, hi, hz0, hz1', hz2'⟩ := info_span
  have HI0 := Lib.hid hi
  have HI1 := Lib.hid hz0
  have HI2 := Lib.hid hz1'
  have HI3 := Lib.hid hz2'
  clear hi hz0 hz1' hz2'
  go_enter Try.func10, Try.ntmps10
  go_wp2_with fail
  refine (snorm_any w A c l (by omega) HA.out).mono ?_
  rintro e w1 ⟨A1, c1, F, rfl, hs, hn, hb⟩
  have T1 := Lib.hid (TwoL.mk (w := w) ((HA.out.below hb).mono hb.size) hs hb)
  have N1 := Lib.hid hn
  have LF := Lib.hid hn.len
  have hFl : F.length ≤ 10081 := hn.len
  clear hb hs hn
  go_wp2_with fail
  go_loopw [4, 17] (fun x i wr => ∃ (k : Nat) (q : Int), i = .int .i64 k ∧ x = .int .i64 q ∧ k ≤ F.length ∧ -1 ≤ q ∧ q ≤ 10080 ∧ ascS q (F.drop k) ∧ TwoL w wr A A1 l F) (fun _ i _ => F.length - (intOf i).toNat)
  case atStart => exact ⟨0, -1, rfl, rfl, Nat.zero_le _, by decide, by decide, N1.out.1, T1.out⟩
  case round =>
    obtain ⟨k, q, rfl, rfl, hk, hq1, hq2, has, ht⟩ := hrel
    have T := Lib.hid ht
    by_cases hlt : k < F.length
    · obtain ⟨b, p, rfl, g1, g2, g3, g4, g5⟩ := ht.b k hlt
      rw [drop_one F k hlt] at has
      obtain ⟨a1, a2, a3, a4⟩ := has
      have AS := Lib.hid a4
      clear a4 ht
      generalize F[k].1 = f at *
      generalize F[k].2 = t at *
      have d1 := df (show ¬ f ≤ q by omega)
      have d2 := df (show ¬ f < 0 by omega)
      have d3 := df (show ¬ t ≤ f by omega)
      have d4 := df (show ¬ 10080 < t by omega)
      go_wp2_with fail
      go_roundw
      case rel => exact ⟨k + 1, t, by go_num, rfl, hlt, by omega, a3, AS.out, T.out.next (alloc_below _ _)⟩
      case measure => simp [intOf]; omega
    · clear has ht
      go_wp2_with fail
      go_loopw [7, 47] (fun v i ws => ∃ k : Nat, i = .int .i64 k ∧ k ≤ l.length ∧ OwnS ws wr.heap.size v (l.reverse.take k) ∧ Below wr.heap.size wr ws) (fun _ i _ => l.length - (intOf i).toNat)
      case atStart => exact ⟨0, rfl, Nat.zero_le _, World.ownsRow_nil _ _ _ _, Below.refl _ _⟩
      case round =>
        obtain ⟨j, rfl, hj, hown, hb⟩ := hrel
        have O := Lib.hid hown
        have B := Lib.hid hb
        have hz := hb.size
        clear hown hb
        by_cases hlt2 : j < l.length
        · obtain ⟨b, p, rfl, g1, g2, g3, g4, g5⟩ := (T.out.a.below B.out) (l.length - 1 - j) (by omega)
          have RT := Lib.hid (rev_take l j hlt2)
          generalize l[l.length - 1 - j].1 = f at *
          generalize l[l.length - 1 - j].2 = t at *
          obtain ⟨x, hx⟩ : ∃ x, l.length - 1 - j = x := ⟨_, rfl⟩
          rw [hx] at g2 g3
          have i0' : (l.length : Int) - 1 - (j : Int) = (x : Int) := by omega
          have i1 : IntKind.i64.wrap ((l.length : Int) - 1) = (l.length : Int) - 1 := IntWalk.i64_in _ (by omega)
          have i2 : IntKind.i64.wrap ((l.length : Int) - 1 - (j : Int)) = (x : Int) := by rw [i0']; exact IntWalk.i64_in _ (by omega)
          have i3 : x < l.length := by omega
          have HX := Lib.hid hx
          have hown := O.out.alloc (Obj.cells #[.int .i64 f, .int .i64 t] 37)
          have H2 := Lib.hid (stwo_cells wr (.int .i64 f) (.int .i64 t) 37)
          have LN := Lib.hid (show (l.reverse.take j).length ≤ 40 by rw [List.length_take, List.length_reverse]; omega)
          clear hx
          go_wp2_with (at_builtin; refine wpList_append_own _ rfl (.tmp 50) (.tmp 59) 22 rfl _ 37 i0 _ 2 16 Try.underlying22 HI0.out HI1.out HI2.out HI3.out rfl (by decide) _ _ _ rfl hown ⟨wr.heap.size, 0, none⟩ 1 1 [.int .i64 f, .int .i64 t] rfl rfl H2.out ?c2 ?c3 ?c4 ?c5 ?_)
          case c2 => intro u hu; simp at hu; rcases hu with rfl | rfl <;> rfl
          case c3 => unfold maxLen; have := LN.out; omega
          case c4 => have := LN.out; omega
          case c5 => exact Nat.le_trans hz (World.grownBy_alloc _ _ none).size
          intro v' w4 hown' hgrow hxx
          have B4 := Lib.hid ((B.out.alloc hz _).grown hgrow (Nat.le_trans hz (World.grownBy_alloc _ _ none).size) (fun q hq => (hown.lt q hq).1))
          have O4 := Lib.hid (show OwnS w4 _ v' (l.reverse.take (j + 1)) from by
            rw [RT.out]; unfold OwnS; rw [flS_append, List.length_append, List.length_take, List.length_reverse, Nat.min_eq_left (by omega)]; exact hown')
          clear hown' hgrow hxx hown i0' i1 i2 i3
          go_wp2_with fail
          go_roundw
          case rel => exact ⟨j + 1, by go_num, hlt2, O4.out, B4.out⟩
          case measure => simp [intOf]; omega
        · obtain rfl : j = l.length := by omega
          rw [List.take_of_length_le (by rw [List.length_reverse]; exact Nat.le_refl _)] at O
          obtain ⟨AB, cb, hv, hs⟩ := ownS_at O.out (fun s hs => NU.out s (List.mem_reverse.1 hs))
          rw [List.length_reverse] at hv
          subst hv
          have SB := Lib.hid hs
          have T2 := Lib.hid (T.out.next B.out)
          clear hs
          go_wp2_with fail
          refine (snorm_any _ A1 c1 F (by omega) T2.out.b).mono ?_
          rintro e w5 ⟨A3, c3, F3, rfl, hs, hn, hb⟩
          obtain rfl := hn.one N1.out.self
          have T5 := Lib.hid (T2.out.next hb)
          have S5 := Lib.hid ((SB.out.below hb).mono hb.size)
          have S3 := Lib.hid hs
          clear hb hs hn
          go_wp2_with fail
          refine (rsame_true A3 A1 c3 c1 _ w5 (by omega) S3.out T5.out.b).mono ?_
          rintro e w6 ⟨rfl, hb⟩
          have T6 := Lib.hid (T5.out.next hb)
          have S6 := Lib.hid ((S5.out.below hb).mono hb.size)
          clear hb
          have NB := Lib.hid (snorm_any w6 AB cb l.reverse (by rw [List.length_reverse]; omega) S6.out)
          rw [List.length_reverse] at NB
          go_wp2_with fail
          refine NB.out.mono ?_
          rintro e w7 ⟨A4, c4, F4, rfl, hs, hn, hb⟩
          obtain rfl := (hn.congr fun m => inS_reverse l m).one N1.out
          have T7 := Lib.hid (T6.out.next hb)
          have S4 := Lib.hid hs
          clear hb hs hn
          go_wp2_with fail
          refine (rsame_true A4 A1 c4 c1 _ w7 (by omega) S4.out T7.out.b).mono ?_
          rintro e w8 ⟨rfl, hb⟩
          have T8 := Lib.hid (T7.out.next hb)
          clear hb
          go_wp2_with fail
          refine (sawake_any _).mono ?_
          rintro e w9 ⟨rfl, hb⟩
          have T9 := Lib.hid (T8.out.next hb)
          clear hb
          go_wp2_with fail
          go_ret
          exact outB rfl T9.out.below

set_option maxRecDepth 100000 in
set_option maxHeartbeats 8000000 in
theorem law_changes (hl : l.length ≤ 9223372036854775807) (hA : SpAt w w.heap.size A l) (m : Int) : Calls Try.prog 11 #[.slice A l.length c, .int .i64 m] w (OutB w true) := by
  have T0 := Lib.hid (TwoL.mk (w := w) (l2 := []) hA (SpAt.nil w w.heap.size none) (Below.refl _ _))
  clear hA
  by_cases h : 40 < l.length
  · go_enter Try.func11, Try.ntmps11
    go_wp2_with fail
    refine (sawake_any _).mono ?_
    rintro e w1 ⟨rfl, hb⟩
    go_wp2_with fail
    go_ret
    exact outB rfl hb
  have hm := tmod_bd m
  have NX := Lib.hid (fun w hA => snext_any w A c l (m.tmod 10080) (by omega) hA)
  have HS := Lib.hid (fun w hA j => shas_any A c l j w (by omega) hA)
  have LE := Lib.hid (fun w hA => slength_any w A c l (by omega) hA)
  obtain ⟨z, hz⟩ : ∃ z, z = m.tmod 10080 := ⟨_, rfl⟩
  obtain ⟨M, hM⟩ : ∃ M, M = z % 10080 := ⟨_, rfl⟩
  have hM2 : 0 ≤ M ∧ M < 10080 := by omega
  have MZ := Lib.hid hM
  have HZ := Lib.hid hz
  rw [← hz] at hm NX
  rw [← hM] at NX
  obtain ⟨z1, z2⟩ := hm
  obtain ⟨M1, M2⟩ := hM2
  clear hM hz
  obtain ⟨b, hb⟩ : ∃ b, b = inS l M := ⟨_, rfl⟩
  have BM := Lib.hid hb
  have H0 := Lib.hid (fun w hA => HS.out w hA z)
  rw [← MZ.out, ← hb] at H0
  clear hb
  have CN := Lib.hid (fun (hx : ∀ k, 1 ≤ k → k ≤ 10080 → inS l ((M + k) % 10080) = inS l M) => show cntS (inS l) 10080 = if b then 10080 else 0 from cnt_same 10080 fun x h0 h1 => by
    rw [BM.out]
    by_cases e : x = M
    · rw [e]
    · have := hx ((x - M) % 10080) (by omega) (by omega)
      rwa [show (M + (x - M) % 10080) % 10080 = x by omega] at this)
  go_enter Try.func11, Try.ntmps11
  go_wp2_with fail
  rw [← HZ.out]
  refine (NX.out w T0.out.a).mono ?_
  rintro e w1 ⟨r, rfl, hx, hb⟩
  have T1 := Lib.hid (T0.out.next hb)
  obtain ⟨r1, r2⟩ := hx.bd
  have d1 := df (show ¬ r < 0 by omega)
  have d2 := df (show ¬ 10080 < r by omega)
  have HX := Lib.hid hx
  clear hb hx
  rcases HX.out with ⟨h0, hall⟩ | ⟨h1, h2, hne, hall⟩
  · subst h0
    have LC := Lib.hid (CN.out hall)
    have LE2 := Lib.hid LE.out
    rw [LC.out] at LE2
    clear hall
    cases b
    all_goals
      go_wp2_with fail
      refine (H0.out w1 T1.out.a).mono ?_
      rintro e w2 ⟨rfl, hb⟩
      have T2 := Lib.hid (T1.out.next hb)
      clear hb
      go_wp2_with fail
      refine (LE2.out w2 T2.out.a).mono ?_
      rintro e w3 ⟨rfl, hb⟩
      have T3 := Lib.hid (T2.out.next hb)
      clear hb
      go_wp2_with fail
      refine (sawake_any _).mono ?_
      rintro e w4 ⟨rfl, hb⟩
      have T4 := Lib.hid (T3.out.next hb)
      clear hb
      go_wp2_with fail
      go_ret
      exact outB rfl T4.out.below
  · have t0 : (r == 0) = false := by simp; omega
    have SA := Lib.hid (fun w hA (j : Int) (g : 0 ≤ j ∧ j < r) => show Calls Try.prog 20 #[.slice A l.length c, .int .i64 (z + j)] w (OutB w b) from by
      have := HS.out w hA (z + j)
      by_cases e : j = 0
      · rw [e, Int.add_zero] at this ⊢
        rwa [← MZ.out, ← BM.out] at this
      · rwa [show (z + j) % 10080 = (M + j) % 10080 by have := MZ.out; omega, hall j (by omega) g.2, ← BM.out] at this)
    have SZ := Lib.hid (fun w hA => show Calls Try.prog 20 #[.slice A l.length c, .int .i64 (z + r)] w (OutB w (!b)) from by
      have := HS.out w hA (z + r)
      rw [show (z + r) % 10080 = (M + r) % 10080 by have := MZ.out; omega] at this
      rw [← BM.out] at hne
      rwa [show inS l ((M + r) % 10080) = !b by cases b <;> simpa using hne] at this)
    clear hne hall
    cases b
    all_goals
      go_wp2_with fail
      refine (H0.out w1 T1.out.a).mono ?_
      rintro e w2 ⟨rfl, hb⟩
      have T2 := Lib.hid (T1.out.next hb)
      clear hb
      go_wp2_with fail
      go_loopw [8] (fun i wr => ∃ j : Nat, i = .int .i64 j ∧ 1 ≤ j ∧ j ≤ 20000 ∧ TwoL w wr A none l []) (fun i _ => 30000 - (intOf i).toNat)
      case atStart => exact ⟨1, rfl, Nat.le_refl _, by decide, T2.out⟩
      case round =>
        obtain ⟨j, rfl, j1, j2, ht⟩ := hrel
        have T := Lib.hid ht
        clear ht
        by_cases hlt : (j : Int) < r
        · go_wp2_with fail
          refine (SA.out wr T.out.a j ⟨by omega, hlt⟩).mono ?_
          rintro e w3 ⟨rfl, hb⟩
          have T3 := Lib.hid (T.out.next hb)
          clear hb
          go_wp2_with fail
          go_roundw
          case rel => exact ⟨j + (1 + j / 50), val_int (by omega), by omega, by omega, T3.out⟩
          case measure => simp [intOf]; omega
        · go_wp2_with fail
          rw [show z + r - 1 = z + (r - 1) by omega]
          refine (SA.out wr T.out.a (r - 1) ⟨by omega, by omega⟩).mono ?_
          rintro e w3 ⟨rfl, hb⟩
          have T3 := Lib.hid (T.out.next hb)
          clear hb
          go_wp2_with fail
          refine (SZ.out w3 T3.out.a).mono ?_
          rintro e w4 ⟨rfl, hb⟩
          have T4 := Lib.hid (T3.out.next hb)
          clear hb
          go_wp2_with fail
          refine (sawake_any _).mono ?_
          rintro e w5 ⟨rfl, hb⟩
          have T5 := Lib.hid (T4.out.next hb)
          clear hb
          go_wp2_with fail
          go_ret
          exact outB rfl T5.out.below
end
end Go.Proofs.Ytnocbgimfmgdeaa
