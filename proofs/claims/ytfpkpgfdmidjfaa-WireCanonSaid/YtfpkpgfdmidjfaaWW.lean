/- The walk of WireCanon. -/
import Derived.Test.YtfpkpgfdmidjfaaWV
set_option linter.unusedVariables false
namespace Go.Proofs.Ytfpkpgfdmidjfaa
open Go.RowKit

set_option maxRecDepth 100000 in
set_option maxHeartbeats 8000000 in
theorem law_canon (s : ByteArray) (A : Option Addr) (c : Nat) (l : List Int) (w : World) (hs : s.size ≤ 9223372036854775807) (hl : l.length ≤ 9223372036854775807) (hr : IntsAt w w.heap.size A l) (h64 : ∀ n ∈ l, I64 n) :
    Calls Try.prog 6 #[.string s, .slice A l.length c] w fun r w' => r = .returned (.bool true) ∧ Below w.heap.size w w' := by
  have HR := Lib.hid hr
  have H64 := Lib.hid h64
  clear hr h64
  obtain ⟨n, hn⟩ : ∃ n, l.length = n := ⟨_, rfl⟩
  have HN := Lib.hid hn
  rw [hn] at hl ⊢
  clear hn
  obtain ⟨i0, hi, hz0, hz1', hz2'⟩ := info_parts info_field
  have HI0 := Lib.hid hi
  have HI1 := Lib.hid hz0
  have HI2 := Lib.hid hz1'
  have HI3 := Lib.hid hz2'
  clear hi hz0 hz1' hz2'
  go_enter Try.func6, Try.ntmps6
  go_wp2_with fail
  refine (new_any s _).mono ?_
  rintro r w1 ⟨rfl, hp, hb⟩
  obtain ⟨b, hbb⟩ : ∃ b, b = w.heap.size := ⟨_, rfl⟩
  have Q1 := Lib.hid (show PB w1 b s 0 true by rw [hbb]; exact hp)
  have B1 := Lib.hid hb
  have hwb : w.heap.size ≤ b := by omega
  have hz1 := hb.size
  rw [← hbb]
  clear hp hb hbb
  by_cases h1 : 200 < s.size
  · go_wp2_with fail
    refine (awake_any _).mono ?_
    rintro r w' ⟨rfl, hb⟩
    go_wp2_with fail
    go_ret
    exact ⟨rfl, B1.out.trans (hb.mono hz1)⟩
  by_cases h2 : 20 < n
  · go_wp2_with fail
    refine (awake_any _).mono ?_
    rintro r w' ⟨rfl, hb⟩
    go_wp2_with fail
    go_ret
    exact ⟨rfl, B1.out.trans (hb.mono hz1)⟩
  have hS : s.size ≤ 100000 := by omega
  go_wp2_with fail
  go_loopw [6, 7, 8] (fun v i _ wr => ∃ (k : Nat) (t : ByteArray) (e : Int) (qs : List CellF), k ≤ n ∧ qs.length = k ∧ i = .int .i64 k ∧ PB wr b t e true ∧ Can s qs t e ∧
      wr.ownsRow w.heap.size 44 4 v qs.length (flatF qs) ∧ QSok wr qs ∧ Below w.heap.size w wr) (fun _ i _ _ => n - (intOf i).toNat)
  case atStart => exact ⟨0, s, 0, [], Nat.zero_le _, rfl, rfl, Q1.out, fun _ => ⟨hS, rfl⟩, World.ownsRow_nil _ _ _ _, fun q h => absurd h List.not_mem_nil, B1.out⟩
  case round =>
    obtain ⟨k, t, e, qs, hk, hq, rfl, hp, ht, hown, hqs, hb⟩ := hrel
    have P := Lib.hid hp
    have T := Lib.hid ht
    have O := Lib.hid hown
    have QS := Lib.hid hqs
    have HQ := Lib.hid hq
    have BB := Lib.hid hb
    have hsz := hb.size
    have hbw := hp.lt
    clear hp hb ht hown hqs hq
    by_cases hlt : k < n
    · have hkl : k < l.length := by have := HN.out; omega
      obtain ⟨ab, ao, rfl, hab, hc⟩ := (HR.out.below BB.out) (by omega)
      have x0 := hc k hkl
      have k64 := all64 H64.out k hkl
      have K64 := Lib.hid k64
      generalize l.getD k 0 = kd at *
      have hne : ab ≠ b := by omega
      have habr : ab < wr.heap.size := by omega
      clear hc hkl k64
      have hqn : qs.length ≤ 20 := by have := HQ.out; omega
      by_cases k0 : kd = 0
      · subst k0
        have L1 := Lib.hid (fun w' (h : PB w' b t e true) => p_int h (can_size T.out))
        have C1 := Lib.hid (hInt_can t e (can_size T.out))
        have N1 := Lib.hid (hInt_nxt t e (can_size T.out))
        have I1 := Lib.hid (hInt_i64 t e (can_size T.out))
        rcases hq : hInt t e with ⟨v, t1, e1⟩
        rw [hq] at L1 C1 N1 I1
        clear hq
        have S0 := Lib.hid (St.start 0 P.out O.out QS.out BB.out (Nat.le_refl _) hwb)
        go_wp2_with fail
        refine (L1.out _ S0.out.pp).mono ?_
        rintro r w2 ⟨rfl, hp, hg⟩
        have S1 := Lib.hid (S0.out.call hg hp)
        have f0 := S1.out.xx.c0
        have f1 := S1.out.xx.c1
        have f2 := S1.out.xx.c2
        have f3 := S1.out.xx.c3
        have fr1 := S1.out.xx.fr 1
        have fr2 := S1.out.xx.fr 2
        have fr3 := S1.out.xx.fr 3
        have S2 := Lib.hid (S1.out.set_ 1 (.int .i64 v) ⟨⟨0, v, ByteArray.empty, []⟩, none, 0⟩ (S1.out.xx.set1 v) S1.out.li)
        clear hp hg
        have hown := S2.out.oo.alloc (Obj.cells #[.int .i64 0, .int .i64 v, .string ByteArray.empty, .slice none 0 0] 44)
        have h4 := four_cells (w2.setCell ⟨wr.heap.size, 1, none⟩ (.int .i64 v)) (.int .i64 0) (.int .i64 v) (.string ByteArray.empty) (.slice none 0 0) 44
        rw [show (w2.setCell ⟨wr.heap.size, 1, none⟩ (.int .i64 v)).heap.size = w2.heap.size by simp [World.setCell]] at h4
        have H4 := Lib.hid h4
        clear h4
        go_wp2_with (at_builtin; refine wpList_append_own _ rfl (.tmp 53) (.tmp 55) 40 rfl w.heap.size 44 i0 _ 4 56 Try.underlying40 HI0.out HI1.out HI2.out HI3.out rfl (by decide) _ _ _ rfl hown ⟨w2.heap.size, 0, none⟩ 1 1 [.int .i64 0, .int .i64 v, .string ByteArray.empty, .slice none 0 0] rfl rfl H4.out ?c2 ?c3 ?c4 ?c5 ?_)
        case c2 => intro u hu; simp at hu; rcases hu with rfl | rfl | rfl | rfl <;> rfl
        case c3 => unfold maxLen; omega
        case c4 => omega
        case c5 => exact Nat.le_trans S2.out.hB (World.grownBy_alloc _ _ none).size
        intro v' w4 hown' hgrow hxx
        obtain ⟨F1, F2, F3, F4⟩ := S2.out.fin ⟨okF_small _ (Nat.zero_le _) (Nat.zero_le _), (show I64 0 from ⟨by decide, by decide⟩), I1.out, fun _ h => absurd h List.not_mem_nil⟩ hown' hgrow
        have G1 := Lib.hid F1
        have G2 := Lib.hid F2
        have G3 := Lib.hid F3
        have G4 := Lib.hid F4
        have G5 := Lib.hid (can_step (q := ⟨⟨0, v, ByteArray.empty, []⟩, none, 0⟩) T.out N1.out (fun h1 h2 => C1.out h1 h2))
        clear hown' hgrow F1 F2 F3 F4 hown f0 f1 f2 f3 fr1 fr2 fr3 hxx
        go_wp2_with fail
        go_roundw
        case rel => exact ⟨k + 1, t1, e1, _, by omega, by rw [List.length_append, HQ.out]; rfl, by go_num, G1.out, G5.out, G2.out, G3.out, G4.out⟩
        case measure => simp [intOf]; omega
      by_cases k1 : kd = 1
      · subst k1
        have L1 := Lib.hid (fun w' (h : PB w' b t e true) => p_text 200 (by omega) h (can_size T.out))
        have C1 := Lib.hid (hText_can 200 t e (can_size T.out))
        have N1 := Lib.hid (hText_nxt 200 t e (can_size T.out))
        have I1 := Lib.hid (hText_small t e (can_size T.out))
        rcases hq : hText 200 t e with ⟨v, t1, e1⟩
        rw [hq] at L1 C1 N1 I1
        clear hq
        have S0 := Lib.hid (St.start 1 P.out O.out QS.out BB.out (Nat.le_refl _) hwb)
        go_wp2_with fail
        refine (L1.out _ S0.out.pp).mono ?_
        rintro r w2 ⟨rfl, hp, hg⟩
        have S1 := Lib.hid (S0.out.call hg hp)
        have f0 := S1.out.xx.c0
        have f1 := S1.out.xx.c1
        have f2 := S1.out.xx.c2
        have f3 := S1.out.xx.c3
        have fr1 := S1.out.xx.fr 1
        have fr2 := S1.out.xx.fr 2
        have fr3 := S1.out.xx.fr 3
        have S2 := Lib.hid (S1.out.set_ 2 (.string v) ⟨⟨1, 0, v, []⟩, none, 0⟩ (S1.out.xx.set2 v) S1.out.li)
        clear hp hg
        have hown := S2.out.oo.alloc (Obj.cells #[.int .i64 1, .int .i64 0, .string v, .slice none 0 0] 44)
        have h4 := four_cells (w2.setCell ⟨wr.heap.size, 2, none⟩ (.string v)) (.int .i64 1) (.int .i64 0) (.string v) (.slice none 0 0) 44
        rw [show (w2.setCell ⟨wr.heap.size, 2, none⟩ (.string v)).heap.size = w2.heap.size by simp [World.setCell]] at h4
        have H4 := Lib.hid h4
        clear h4
        go_wp2_with (at_builtin; refine wpList_append_own _ rfl (.tmp 53) (.tmp 55) 40 rfl w.heap.size 44 i0 _ 4 56 Try.underlying40 HI0.out HI1.out HI2.out HI3.out rfl (by decide) _ _ _ rfl hown ⟨w2.heap.size, 0, none⟩ 1 1 [.int .i64 1, .int .i64 0, .string v, .slice none 0 0] rfl rfl H4.out ?c2 ?c3 ?c4 ?c5 ?_)
        case c2 => intro u hu; simp at hu; rcases hu with rfl | rfl | rfl | rfl <;> rfl
        case c3 => unfold maxLen; omega
        case c4 => omega
        case c5 => exact Nat.le_trans S2.out.hB (World.grownBy_alloc _ _ none).size
        intro v' w4 hown' hgrow hxx
        obtain ⟨F1, F2, F3, F4⟩ := S2.out.fin ⟨okF_small _ I1.out (Nat.zero_le _), (show I64 1 from ⟨by decide, by decide⟩), (show I64 0 from ⟨by decide, by decide⟩), fun _ h => absurd h List.not_mem_nil⟩ hown' hgrow
        have G1 := Lib.hid F1
        have G2 := Lib.hid F2
        have G3 := Lib.hid F3
        have G4 := Lib.hid F4
        have G5 := Lib.hid (can_step (q := ⟨⟨1, 0, v, []⟩, none, 0⟩) T.out N1.out (fun h1 h2 => C1.out h1 h2))
        clear hown' hgrow F1 F2 F3 F4 hown f0 f1 f2 f3 fr1 fr2 fr3 hxx
        go_wp2_with fail
        go_roundw
        case rel => exact ⟨k + 1, t1, e1, _, by omega, by rw [List.length_append, HQ.out]; rfl, by go_num, G1.out, G5.out, G2.out, G3.out, G4.out⟩
        case measure => simp [intOf]; omega
      by_cases k2 : kd = 2
      · subst k2
        have L1 := Lib.hid (fun w' (h : PB w' b t e true) => p_bool h (can_size T.out))
        have C1 := Lib.hid (hBool_can t e)
        have N1 := Lib.hid (hBool_nxt t e)
        rcases hq : hBool t e with ⟨v, t1, e1⟩
        rw [hq] at L1 C1 N1
        clear hq
        have S0 := Lib.hid (St.start 2 P.out O.out QS.out BB.out (Nat.le_refl _) hwb)
        go_wp2_with fail
        refine (L1.out _ S0.out.pp).mono ?_
        rintro r w2 ⟨rfl, hp, hg⟩
        have S1 := Lib.hid (S0.out.call hg hp)
        have f0 := S1.out.xx.c0
        have f1 := S1.out.xx.c1
        have f2 := S1.out.xx.c2
        have f3 := S1.out.xx.c3
        have fr1 := S1.out.xx.fr 1
        have fr2 := S1.out.xx.fr 2
        have fr3 := S1.out.xx.fr 3
        clear hp hg
        cases v
        · have S2 := S1
          have hown := S2.out.oo.alloc (Obj.cells #[.int .i64 2, .int .i64 0, .string ByteArray.empty, .slice none 0 0] 44)
          have h4 := four_cells w2 (.int .i64 2) (.int .i64 0) (.string ByteArray.empty) (.slice none 0 0) 44
          have H4 := Lib.hid h4
          clear h4
          go_wp2_with (at_builtin; refine wpList_append_own _ rfl (.tmp 53) (.tmp 55) 40 rfl w.heap.size 44 i0 _ 4 56 Try.underlying40 HI0.out HI1.out HI2.out HI3.out rfl (by decide) _ _ _ rfl hown ⟨w2.heap.size, 0, none⟩ 1 1 [.int .i64 2, .int .i64 0, .string ByteArray.empty, .slice none 0 0] rfl rfl H4.out ?c2 ?c3 ?c4 ?c5 ?_)
          case c2 => intro u hu; simp at hu; rcases hu with rfl | rfl | rfl | rfl <;> rfl
          case c3 => unfold maxLen; omega
          case c4 => omega
          case c5 => exact Nat.le_trans S2.out.hB (World.grownBy_alloc _ _ none).size
          intro v' w4 hown' hgrow hxx
          obtain ⟨F1, F2, F3, F4⟩ := S2.out.fin ⟨okF_small _ (Nat.zero_le _) (Nat.zero_le _), (show I64 2 from ⟨by decide, by decide⟩), (show I64 0 from ⟨by decide, by decide⟩), fun _ h => absurd h List.not_mem_nil⟩ hown' hgrow
          have G1 := Lib.hid F1
          have G2 := Lib.hid F2
          have G3 := Lib.hid F3
          have G4 := Lib.hid F4
          have G5 := Lib.hid (can_step (q := ⟨⟨2, 0, ByteArray.empty, []⟩, none, 0⟩) T.out N1.out (fun h1 h2 => C1.out h1 h2))
          clear hown' hgrow F1 F2 F3 F4 hown f0 f1 f2 f3 fr1 fr2 fr3 hxx
          go_wp2_with fail
          go_roundw
          case rel => exact ⟨k + 1, t1, e1, _, by omega, by rw [List.length_append, HQ.out]; rfl, by go_num, G1.out, G5.out, G2.out, G3.out, G4.out⟩
          case measure => simp [intOf]; omega
        · have S2 := Lib.hid (S1.out.set_ 1 (.int .i64 1) ⟨⟨2, 1, ByteArray.empty, []⟩, none, 0⟩ (S1.out.xx.set1 1) S1.out.li)
          have hown := S2.out.oo.alloc (Obj.cells #[.int .i64 2, .int .i64 1, .string ByteArray.empty, .slice none 0 0] 44)
          have h4 := four_cells (w2.setCell ⟨wr.heap.size, 1, none⟩ (.int .i64 1)) (.int .i64 2) (.int .i64 1) (.string ByteArray.empty) (.slice none 0 0) 44
          rw [show (w2.setCell ⟨wr.heap.size, 1, none⟩ (.int .i64 1)).heap.size = w2.heap.size by simp [World.setCell]] at h4
          have H4 := Lib.hid h4
          clear h4
          go_wp2_with (at_builtin; refine wpList_append_own _ rfl (.tmp 53) (.tmp 55) 40 rfl w.heap.size 44 i0 _ 4 56 Try.underlying40 HI0.out HI1.out HI2.out HI3.out rfl (by decide) _ _ _ rfl hown ⟨w2.heap.size, 0, none⟩ 1 1 [.int .i64 2, .int .i64 1, .string ByteArray.empty, .slice none 0 0] rfl rfl H4.out ?c2 ?c3 ?c4 ?c5 ?_)
          case c2 => intro u hu; simp at hu; rcases hu with rfl | rfl | rfl | rfl <;> rfl
          case c3 => unfold maxLen; omega
          case c4 => omega
          case c5 => exact Nat.le_trans S2.out.hB (World.grownBy_alloc _ _ none).size
          intro v' w4 hown' hgrow hxx
          obtain ⟨F1, F2, F3, F4⟩ := S2.out.fin ⟨okF_small _ (Nat.zero_le _) (Nat.zero_le _), (show I64 2 from ⟨by decide, by decide⟩), (show I64 1 from ⟨by decide, by decide⟩), fun _ h => absurd h List.not_mem_nil⟩ hown' hgrow
          have G1 := Lib.hid F1
          have G2 := Lib.hid F2
          have G3 := Lib.hid F3
          have G4 := Lib.hid F4
          have G5 := Lib.hid (can_step (q := ⟨⟨2, 1, ByteArray.empty, []⟩, none, 0⟩) T.out N1.out (fun h1 h2 => C1.out h1 h2))
          clear hown' hgrow F1 F2 F3 F4 hown f0 f1 f2 f3 fr1 fr2 fr3 hxx
          go_wp2_with fail
          go_roundw
          case rel => exact ⟨k + 1, t1, e1, _, by omega, by rw [List.length_append, HQ.out]; rfl, by go_num, G1.out, G5.out, G2.out, G3.out, G4.out⟩
          case measure => simp [intOf]; omega
      have j0 : (kd == 0) = false := by simpa using k0
      have j1 : (kd == 1) = false := by simpa using k1
      have j2 : (kd == 2) = false := by simpa using k2
      have E := Lib.hid (fun nm st ls => show enF ⟨kd, nm, st, ls⟩ = enL ls by unfold enF; simp [k0, k1, k2])
      clear k0 k1 k2
      have L1 := Lib.hid (fun w' (h : PB w' b t e true) => p_ints 200 (by omega) h (can_size T.out))
      have C1 := Lib.hid (hInts_can 200 t e (can_size T.out))
      have N1 := Lib.hid (hInts_nxt 200 t e (can_size T.out))
      have I1 := Lib.hid (hInts_small t e (can_size T.out))
      rcases hq : hInts 200 t e with ⟨v, t1, e1⟩
      rw [hq] at L1 C1 N1 I1
      clear hq
      have S0 := Lib.hid (St.start kd P.out O.out QS.out BB.out (Nat.le_refl _) hwb)
      go_wp2_with fail
      refine (L1.out _ S0.out.pp).mono ?_
      rintro r w2 ⟨v2, rfl, hp, hg, hli⟩
      obtain ⟨A2, c2, e2, i2⟩ := own_ints hli rfl
      subst e2
      have S1 := Lib.hid (S0.out.call hg hp)
      have f0 := S1.out.xx.c0
      have f1 := S1.out.xx.c1
      have f2 := S1.out.xx.c2
      have f3 := S1.out.xx.c3
      have fr1 := S1.out.xx.fr 1
      have fr2 := S1.out.xx.fr 2
      have fr3 := S1.out.xx.fr 3
      have S2 := Lib.hid (S1.out.set_ 3 (.slice A2 v.length c2) ⟨⟨kd, 0, ByteArray.empty, v⟩, A2, c2⟩ (S1.out.xx.set3 _) (own_base hli (Nat.zero_le _)))
      clear hp hg hli i2
      have hown := S2.out.oo.alloc (Obj.cells #[.int .i64 kd, .int .i64 0, .string ByteArray.empty, .slice A2 v.length c2] 44)
      have h4 := four_cells (w2.setCell ⟨wr.heap.size, 3, none⟩ (.slice A2 v.length c2)) (.int .i64 kd) (.int .i64 0) (.string ByteArray.empty) (.slice A2 v.length c2) 44
      rw [show (w2.setCell ⟨wr.heap.size, 3, none⟩ (.slice A2 v.length c2)).heap.size = w2.heap.size by simp [World.setCell]] at h4
      have H4 := Lib.hid h4
      clear h4
      go_wp2_with (at_builtin; refine wpList_append_own _ rfl (.tmp 53) (.tmp 55) 40 rfl w.heap.size 44 i0 _ 4 56 Try.underlying40 HI0.out HI1.out HI2.out HI3.out rfl (by decide) _ _ _ rfl hown ⟨w2.heap.size, 0, none⟩ 1 1 [.int .i64 kd, .int .i64 0, .string ByteArray.empty, .slice A2 v.length c2] rfl rfl H4.out ?c2 ?c3 ?c4 ?c5 ?_)
      case c2 => intro u hu; simp at hu; rcases hu with rfl | rfl | rfl | rfl <;> rfl
      case c3 => unfold maxLen; omega
      case c4 => omega
      case c5 => exact Nat.le_trans S2.out.hB (World.grownBy_alloc _ _ none).size
      intro v' w4 hown' hgrow hxx
      obtain ⟨F1, F2, F3, F4⟩ := S2.out.fin ⟨okF_small _ (Nat.zero_le _) I1.out.1, K64.out, (show I64 0 from ⟨by decide, by decide⟩), I1.out.2⟩ hown' hgrow
      have G1 := Lib.hid F1
      have G2 := Lib.hid F2
      have G3 := Lib.hid F3
      have G4 := Lib.hid F4
      have G5 := Lib.hid (can_step (q := ⟨⟨kd, 0, ByteArray.empty, v⟩, A2, c2⟩) T.out N1.out (fun h1 h2 => by rw [E.out]; exact C1.out h1 h2))
      clear hown' hgrow F1 F2 F3 F4 hown f0 f1 f2 f3 fr1 fr2 fr3 hxx
      go_wp2_with fail
      go_roundw
      case rel => exact ⟨k + 1, t1, e1, _, by omega, by rw [List.length_append, HQ.out]; rfl, by go_num, G1.out, G5.out, G2.out, G3.out, G4.out⟩
      case measure => simp [intOf]; omega
    · have CAN := T
      obtain ⟨AO, cO, hvO⟩ : ∃ A c, u6 = .slice A qs.length c := by
        rcases O.out.2 with ⟨h0, h1⟩ | ⟨g, cap, cur, h0, _⟩
        · rw [h0, h1]; exact ⟨_, _, rfl⟩
        · rw [h0]; exact ⟨_, _, rfl⟩
      subst hvO
      go_wp2_with fail
      refine (p_end P.out).mono ?_
      rintro r w' ⟨rfl, rfl⟩
      by_cases hE : hEnd t e = 0
      · have he : e = 0 := by
          unfold hEnd at hE
          by_cases he : e = 0
          · exact he
          · rw [if_neg he] at hE; exact hE
        have ht0 : t.size = 0 := by
          unfold hEnd at hE
          rw [if_pos he] at hE
          by_cases h0 : t.size = 0
          · exact h0
          · rw [if_neg h0] at hE; cases hE
        have hcan : bs (enFs (dsOf qs)) = s := by
          apply of_data
          have htl : t.data.toList = [] := List.eq_nil_of_length_eq_zero (by rw [toNat_bytes]; exact ht0)
          rw [bs_data, (CAN.out he).2, htl, List.append_nil]
        have BY := Lib.hid (bytes_any AO cO (dsOf qs) wr (by unfold dsOf; rw [List.length_map]; have := HQ.out; omega) (fun d hd => by
          unfold dsOf at hd
          obtain ⟨q, hq, rfl⟩ := List.mem_map.1 hd
          exact (QS.out q hq).2.1) (fields_of O.out QS.out))
        rw [hcan, show (dsOf qs).length = qs.length by unfold dsOf; rw [List.length_map]] at BY
        rw [hE]
        clear hE he ht0 hcan
        go_wp2_with fail
        refine BY.out.mono ?_
        rintro r w4 ⟨rfl, hb⟩
        have B4 := Lib.hid (BB.out.trans (hb.mono hsz))
        clear hb
        go_wp2_with fail
        refine (awake_any _).mono ?_
        rintro r w5 ⟨rfl, hb⟩
        go_wp2_with fail
        go_ret
        exact ⟨rfl, B4.out.trans (hb.mono B4.out.size)⟩
      · have hE2 : (hEnd t e != 0) = true := by simpa using hE
        clear hE
        go_wp2_with fail
        refine (awake_any _).mono ?_
        rintro r w5 ⟨rfl, hb⟩
        go_wp2_with fail
        go_ret
        exact ⟨rfl, BB.out.trans (hb.mono hsz)⟩
end Go.Proofs.Ytfpkpgfdmidjfaa
