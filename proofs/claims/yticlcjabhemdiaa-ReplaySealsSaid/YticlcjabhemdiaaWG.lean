/- Contracts of the reference's Reader. -/
import Derived.Test.YticlcjabhemdiaaWF
import Derived.Test.YticlcjabhemdiaaWB
import Derived.Deep.QuietTactic
import Derived.BigQuiet
set_option linter.unusedVariables false
namespace Go.Proofs.Yticlcjabhemdiaa.Wire
open Go.RowKit

/-- Block c is a Reader of the reference: the string, the position, the error. -/
def RB (w : World) (c : Nat) (S : ByteArray) (a : Nat) (e : Int) : Prop :=
  w.heap[c]? = some (.cells #[.string S, .int .i64 (a : Int), .int .i64 e, .bool true] 69 (0, 0))

section
variable {w w' : World} {c : Nat} {S : ByteArray} {a : Nat} {e : Int}
theorem RB.lt (h : RB w c S a e) : c < w.heap.size := (Array.getElem?_eq_some_iff.1 h).1
theorem RB.c0 (h : RB w c S a e) : w.cell? ⟨c, 0, none⟩ = some (.string S) := cell_of_row w c 0 _ _ (0, 0) h
theorem RB.c1 (h : RB w c S a e) : w.cell? ⟨c, 1, none⟩ = some (.int .i64 (a : Int)) := cell_of_row w c 1 _ _ (0, 0) h
theorem RB.c2 (h : RB w c S a e) : w.cell? ⟨c, 2, none⟩ = some (.int .i64 e) := cell_of_row w c 2 _ _ (0, 0) h
theorem RB.c3 (h : RB w c S a e) : w.cell? ⟨c, 3, none⟩ = some (.bool true) := cell_of_row w c 3 _ _ (0, 0) h
theorem RB.fr (h : RB w c S a e) (i : Nat) : w.frozen? ⟨c, i, none⟩ = false := by
  unfold RB at h; simp [World.frozen?, h]
theorem RB.set1 (h : RB w c S a e) (n : Nat) (x : Int) (hx : x = (n : Int)) : RB (w.setCell ⟨c, 1, none⟩ (.int .i64 x)) c S n e := by
  unfold RB at h ⊢; simp [World.setCell, Array.getElem?_modify, h, hx]
theorem RB.set2 (h : RB w c S a e) (f : Int) : RB (w.setCell ⟨c, 2, none⟩ (.int .i64 f)) c S a f := by
  unfold RB at h ⊢; simp [World.setCell, Array.getElem?_modify, h]
theorem RB.kept {r : Option Nat} (h : RB w c S a e) (hg : w.grownBy w' r) (hne : some c ≠ r) : RB w' c S a e := (hg.block c h.lt hne).trans h
theorem RB.drewN (h : RB w c S a e) (n : Nat) : RB (w.drewN n) c S a e := h
end

theorem rerr_any (c : Nat) (S : ByteArray) (a : Nat) (e : Int) (w : World) (h : RB w c S a e) :
    Calls Try.prog 47 #[pt c] w fun r w' => r = .returned (.int .i64 e) ∧ w = w' := by
  have h1 := h.c2
  have h2 := h.c3
  clear h
  go_enter Try.func47, Try.ntmps47
  go_wp2_with fail
  go_ret
  exact ⟨rfl, rfl⟩

/-- The world is the same but for draws. -/
def Same (w w' : World) : Prop := ∃ n, w' = w.drewN n

theorem rend_dead (c : Nat) (S : ByteArray) (a : Nat) (e : Int) (w : World) (h : RB w c S a e) (he : e ≠ 0) :
    Calls Try.prog 37 #[pt c] w fun r w' => r = .returned (.int .i64 e) ∧ w = w' := by
  have H := Lib.hid h
  have he' : (e != 0) = true := by simpa using he
  clear h he
  go_enter Try.func37, Try.ntmps37
  go_wp2_with fail
  refine (rerr_any c S a e _ H.out).mono ?_
  rintro r w' ⟨rfl, rfl⟩
  go_wp2_with fail
  refine (rerr_any c S a e _ H.out).mono ?_
  rintro r w' ⟨rfl, rfl⟩
  go_wp2_with fail
  go_ret
  exact ⟨rfl, rfl⟩
theorem rend_live (c : Nat) (S : ByteArray) (a : Nat) (w : World) (hs : S.size ≤ 100000) (ha : a ≤ S.size) (h : RB w c S a 0) :
    Calls Try.prog 37 #[pt c] w fun r w' => r = .returned (.int .i64 (if S.size - a = 0 then 0 else 23)) ∧ Same w w' := by
  have H := Lib.hid h
  have h0 := h.c0
  have h1 := h.c1
  clear h
  by_cases hlt : a < S.size
  all_goals
    first | rw [if_neg (by omega)] | rw [if_pos (by omega)]
    go_enter Try.func37, Try.ntmps37
    go_wp2_with fail
    refine (rerr_any c S a 0 _ H.out).mono ?_
    rintro r w' ⟨rfl, rfl⟩
    go_wp2_with fail
    go_quiet (fail)
    go_wp2_with fail
    go_ret
    exact ⟨rfl, _, rfl⟩

theorem rint_dead (c : Nat) (S : ByteArray) (a : Nat) (e : Int) (w : World) (h : RB w c S a e) (he : e ≠ 0) :
    Calls Try.prog 35 #[pt c] w fun r w' => r = .returned (.int .i64 0) ∧ w = w' := by
  have H := Lib.hid h
  have he' : (e != 0) = true := by simpa using he
  clear h he
  go_enter Try.func35, Try.ntmps35
  go_wp2_with fail
  refine (rerr_any c S a e _ H.out).mono ?_
  rintro r w' ⟨rfl, rfl⟩
  go_wp2_with fail
  go_ret
  exact ⟨rfl, rfl⟩

theorem drop_at (S : ByteArray) (a : Nat) : (S.extract a S.size).data.toList = S.data.toList.drop a := by
  rw [Lib.extract_data, List.take_of_length_le (by simp)]
theorem extract_extract (S : ByteArray) (a n : Nat) (ha : a ≤ S.size) : (S.extract a S.size).extract n (S.extract a S.size).size = S.extract (a + n) S.size := by
  apply of_data
  rw [drop_at, drop_at, drop_at, List.drop_drop]

/-- What a call of the reference's Reader leaves. -/
def OutR (c : Nat) (S : ByteArray) (w : World) (v : Value) (s : ByteArray) (e : Int) (r : Ending) (w' : World) : Prop :=
  r = .returned v ∧ (∃ a, a ≤ S.size ∧ RB w' c S a e ∧ (e = 0 → s = S.extract a S.size)) ∧ w.grownBy w' (some c)

theorem join_form2 (acc k m : Nat) (hk : k ≤ 9) (ha : acc < 128 ^ k) (h9 : k = 9 → m % 128 ≤ 1) :
    bits .or .u64 (acc : Int) (IntKind.u64.wrap ((m : Int) % 128 * 2 ^ (7 * k))) = ((acc + m % 128 * 128 ^ k : Nat) : Int) := by
  have h := join_form acc k (m % 128) hk ha (by omega) h9
  rw [show IntKind.u64.wrap ((m % 128 : Nat) : Int) = (m : Int) % 128 by rw [u64_wr]; omega] at h
  exact h
theorem rint_odd (v : Nat) (h : ((v : Int) % 2 == 1) = true) : -1 - (v : Int) / 2 = unzig v := by
  have h : (v : Int) % 2 = 1 := by simpa using h
  unfold unzig; rw [if_pos (by omega)]; omega
theorem rint_even (v : Nat) (h : ((v : Int) % 2 == 1) = false) : (v : Int) / 2 = unzig v := by
  have h : ¬ (v : Int) % 2 = 1 := by simpa using h
  unfold unzig; rw [if_neg (by omega)]; omega
theorem rem128 (c : Nat) : ((c : Int).tmod 128) = ((c % 128 : Nat) : Int) := by
  rw [Int.tmod_eq_emod_of_nonneg (by omega)]; omega

set_option maxRecDepth 100000 in
set_option maxHeartbeats 2000000 in
theorem rint_live (c : Nat) (S : ByteArray) (a : Nat) (w : World) (hs : S.size ≤ 100000) (ha : a ≤ S.size) (h : RB w c S a 0) :
    Calls Try.prog 35 #[pt c] w (OutR c S w (.int .i64 (fInt (S.extract a S.size)).1) (fInt (S.extract a S.size)).2.1 (fInt (S.extract a S.size)).2.2) := by
  have hsz : (S.extract a S.size).size ≤ 100000 := by simp; omega
  obtain ⟨f1, f2, f3, f4⟩ := rd_facts _ hsz
  obtain ⟨v, n, e, hr⟩ : ∃ v n e, rd 0 0 (S.extract a S.size).data.toList = (v, n, e) := ⟨_, _, _, rfl⟩
  have E := Lib.hid (show fInt (S.extract a S.size) = (unzig v, (S.extract a S.size).extract n (S.extract a S.size).size, e) by unfold fInt; rw [hr])
  rw [hr] at f1 f2 f3 f4
  rw [drop_at] at hr
  have HR := Lib.hid hr
  have H := Lib.hid h
  have F := Lib.hid f4
  have HX := Lib.hid (extract_extract S a n ha)
  clear h hr f2 f3 f4 hsz
  simp only at f1
  go_enter Try.func35, Try.ntmps35
  go_wp2_with fail
  refine (rerr_any c S a 0 _ H.out).mono ?_
  rintro r w' ⟨rfl, rfl⟩
  go_wp2_with fail
  go_loopw [3, 4, 5, 6] (fun form i _ _ wr => ∃ (k acc : Nat), k ≤ 9 ∧ a + k ≤ S.size ∧ acc < 128 ^ k ∧ i = .int .i64 k ∧ form = .int .u64 (acc : Nat) ∧ rd k acc (S.data.toList.drop (a + k)) = (v, n, e) ∧ RB wr c S a 0 ∧ w.grownBy wr (some c)) (fun _ i _ _ _ => S.size - (intOf i).toNat)
  case atStart => exact ⟨0, 0, by omega, by omega, by decide, rfl, rfl, HR.out, H.out, gb_refl _ _⟩
  case round =>
    obtain ⟨k, acc, hk9, hks, hacc, rfl, rfl, hr, hrb, hg⟩ := hrel
    have h0 := hrb.c0
    have h1 := hrb.c1
    have h2 := hrb.c2
    have hf1 := hrb.fr 1
    have hf2 := hrb.fr 2
    have R := Lib.hid hrb
    have G := Lib.hid hg
    clear hrb hg
    by_cases hlt : a + k < S.size
    · have hc := (S[a + k]).toNat_lt
      rw [drop_cons S (a + k) hlt] at hr
      have hi : (a : Int) + (k : Int) < S.size := by omega
      have hk10 : (k : Int) < 10 := by omega
      have HRD := Lib.hid hr
      clear hr
      have hd : (S[a + k]).toNat < 256 := hc
      clear hc
      go_wp2_with fail
      go_quiet (fail)
      go_wp2_with fail
      have hq1 : IntKind.i64.wrap ((a : Int) + (k : Int)) = (a : Int) + (k : Int) := IntWalk.i64_in _ (by omega)
      have hq2 : 0 ≤ (a : Int) + (k : Int) := by omega
      have hq3 : ((a : Int) + (k : Int)).toNat = a + k := by omega
      go_quiet (fail)
      obtain ⟨d, hdd⟩ : ∃ d, (S[a + k]).toNat = d := ⟨_, rfl⟩
      have hr := HRD.out
      clear HRD
      generalize (S[a + k]) = q at *
      clear hq1 hq2 hq3
      rw [hdd] at hd ⊢
      by_cases hbad : (0 < k ∧ q.toNat = 0) ∨ (k = 9 ∧ 1 < q.toNat)
      · rw [rd_bad _ _ _ _ hbad] at hr
        rw [hdd] at hbad
        cases hr
        clear hacc hdd
        by_cases hz : d = 0
        · subst hz
          have hk0 : 0 < k := by omega
          clear hbad
          go_wp2_with fail
          go_ret
          refine ⟨ret_int (by rw [E.out]; rfl), ⟨a, ha, ?_, fun h => ?_⟩, ?_⟩
          · rw [E.out]; exact (R.out.drewN _).set2 4
          · rw [E.out] at h; cases h
          · exact gb_trans (gb_trans G.out (gb_drewN _ _ _)) (gb_set _ _ _ _)
        · have hk0 : 9 ≤ k := by omega
          have hd1 : 1 < d := by omega
          clear hbad
          go_wp2_with fail
          go_ret
          refine ⟨ret_int (by rw [E.out]; rfl), ⟨a, ha, ?_, fun h => ?_⟩, ?_⟩
          · rw [E.out]; exact (R.out.drewN _).set2 4
          · rw [E.out] at h; cases h
          · exact gb_trans (gb_trans G.out (gb_drewN _ _ _)) (gb_set _ _ _ _)
      · by_cases hl : q.toNat < 128
        · rw [rd_last _ _ _ _ hbad hl] at hr
          rw [hdd] at hbad hl hr
          have hJ := join_form2 acc k d hk9 hacc (by omega)
          rw [show d % 128 = d by omega] at hJ
          obtain ⟨hv, hn, he⟩ : acc + d * 128 ^ k = v ∧ k + 1 = n ∧ 0 = e := by cases hr; exact ⟨rfl, rfl, rfl⟩
          rw [hv] at hJ
          subst he hn
          have HV := Lib.hid hJ
          clear hr hv hdd hacc
          by_cases h9 : k = 9
          · subst h9
            have hz : ((d : Int) == 0) = false := by simp; omega
            have hd1 : d ≤ 1 := by omega
            have hJ9 : bits .or .u64 (acc : Int) ((d : Int) % 128 * 9223372036854775808) = (v : Int) := by
              have h := HV.out
              rw [show (2 : Int) ^ (7 * 9) = 9223372036854775808 from rfl, show IntKind.u64.wrap ((d : Int) % 128 * 9223372036854775808) = (d : Int) % 128 * 9223372036854775808 by rw [u64_wr]; omega] at h
              exact h
            clear hbad hJ
            go_wp2_with fail
            · go_ret
              refine ⟨ret_int (by rw [E.out]; exact rint_odd v (by assumption)), ⟨a + (9 + 1), by omega, ?_, fun _ => ?_⟩, ?_⟩
              · rw [E.out]; exact (R.out.drewN _).set1 _ _ (by omega)
              · rw [E.out]; exact HX.out
              · exact gb_trans (gb_trans G.out (gb_drewN _ _ _)) (gb_set _ _ _ _)
            · go_ret
              refine ⟨ret_int (by rw [E.out]; exact rint_even v (by assumption)), ⟨a + (9 + 1), by omega, ?_, fun _ => ?_⟩, ?_⟩
              · rw [E.out]; exact (R.out.drewN _).set1 _ _ (by omega)
              · rw [E.out]; exact HX.out
              · exact gb_trans (gb_trans G.out (gb_drewN _ _ _)) (gb_set _ _ _ _)
          · have hz : 0 < k → ¬ d = 0 := by omega
            clear hbad
            by_cases h0 : 0 < k
            · have hz2 := hz h0
              clear hz
              go_wp2_with fail
              · go_ret
                refine ⟨ret_int (by rw [E.out]; exact rint_odd v (by assumption)), ⟨a + (k + 1), by omega, ?_, fun _ => ?_⟩, ?_⟩
                · rw [E.out]; exact (R.out.drewN _).set1 _ _ (by omega)
                · rw [E.out]; exact HX.out
                · exact gb_trans (gb_trans G.out (gb_drewN _ _ _)) (gb_set _ _ _ _)
              · go_ret
                refine ⟨ret_int (by rw [E.out]; exact rint_even v (by assumption)), ⟨a + (k + 1), by omega, ?_, fun _ => ?_⟩, ?_⟩
                · rw [E.out]; exact (R.out.drewN _).set1 _ _ (by omega)
                · rw [E.out]; exact HX.out
                · exact gb_trans (gb_trans G.out (gb_drewN _ _ _)) (gb_set _ _ _ _)
            · clear hz
              go_wp2_with fail
              · go_ret
                refine ⟨ret_int (by rw [E.out]; exact rint_odd v (by assumption)), ⟨a + (k + 1), by omega, ?_, fun _ => ?_⟩, ?_⟩
                · rw [E.out]; exact (R.out.drewN _).set1 _ _ (by omega)
                · rw [E.out]; exact HX.out
                · exact gb_trans (gb_trans G.out (gb_drewN _ _ _)) (gb_set _ _ _ _)
              · go_ret
                refine ⟨ret_int (by rw [E.out]; exact rint_even v (by assumption)), ⟨a + (k + 1), by omega, ?_, fun _ => ?_⟩, ?_⟩
                · rw [E.out]; exact (R.out.drewN _).set1 _ _ (by omega)
                · rw [E.out]; exact HX.out
                · exact gb_trans (gb_trans G.out (gb_drewN _ _ _)) (gb_set _ _ _ _)
        · rw [rd_more _ _ _ _ (by omega) hl] at hr
          rw [hdd] at hbad hl hr
          have hk8 : k ≤ 8 := by omega
          have hJ := Lib.hid (join_form2 acc k d hk9 hacc (by omega))
          have hacc2 : acc + d % 128 * 128 ^ k < 128 ^ (k + 1) := by
            have : d % 128 * 128 ^ k ≤ 127 * 128 ^ k := Nat.mul_le_mul_right _ (by omega)
            rw [p128]; omega
          have HA := Lib.hid hacc2
          have HRD := Lib.hid hr
          have hz : ¬ d = 0 := by omega
          clear hr hdd hacc hacc2 hbad
          by_cases h0 : 0 < k
          all_goals
            go_wp2_with fail
            go_roundw
            case rel => exact ⟨k + 1, acc + d % 128 * 128 ^ k, by omega, by omega, HA.out, by go_num, val_int (by rw [← hJ.out]), HRD.out, R.out.drewN _, gb_trans G.out (gb_drewN _ _ _)⟩
            case measure => simp [intOf]; omega
    · have hr2 : rd k acc [] = (v, n, e) := by
        rw [List.drop_of_length_le (by simp; omega)] at hr; exact hr
      rw [rd_nil] at hr2
      cases hr2
      have hi : (S.size : Int) ≤ (a : Int) + (k : Int) := by omega
      have hk10 : (k : Int) < 10 := by omega
      clear hr hacc
      go_wp2_with fail
      go_quiet (fail)
      go_wp2_with fail
      go_ret
      refine ⟨ret_int (by rw [E.out]; rfl), ⟨a, ha, ?_, fun h => ?_⟩, ?_⟩
      · rw [E.out]; exact (R.out.drewN _).set2 5
      · rw [E.out] at h; cases h
      · exact gb_trans (gb_trans G.out (gb_drewN _ _ _)) (gb_set _ _ _ _)
end Go.Proofs.Yticlcjabhemdiaa.Wire
