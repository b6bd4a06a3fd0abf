/- The contract of the reference's quoted. -/
import Derived.Test.YtmildkjkppnblaaNF
import Derived.Deep.RegionHeld3
import Derived.Deep.AppendLies
set_option linter.unusedVariables false
namespace Go.Proofs.Ytmildkjkppnblaa
open Go.RowKit

/-- What quoted hands back: the text, the index behind. -/
def qdEnd (a : Nat) (x : Option (List UInt8 × Nat)) : Int := match x with | none => -1 | some y => ((a + y.2 : Nat) : Int)
def OutQd (at' : Nat) (x : Option (List UInt8 × Nat)) (w : World) (e : Ending) (w' : World) : Prop :=
  e = .returned (.tuple #[.string (bs (rqV x).1), .int .i64 (qdEnd at' x)]) ∧ Below w.heap.size w w'
theorem outd_none {p : Nat} {x : Option (List UInt8 × Nat)} {w w' : World} {s : ByteArray} (h : x = none) (hs : s = bs []) (hb : Below w.heap.size w w') : OutQd p x w (.returned (.tuple #[.string s, .int .i64 (-1)])) w' := by subst h; subst hs; exact ⟨rfl, hb⟩
theorem outd_some {p : Nat} {x : Option (List UInt8 × Nat)} {w w' : World} {t : List UInt8} {n : Nat} (h : x = some (t, n)) {b : Int} (hn : b = ((p + n : Nat) : Int)) (hb : Below w.heap.size w w') : OutQd p x w (.returned (.tuple #[.string (bs t), .int .i64 b])) w' := by
  subst h; subst hn; exact ⟨rfl, hb⟩

set_option maxRecDepth 100000 in
set_option maxHeartbeats 4000000 in
theorem quoted_any (s : ByteArray) (a : Nat) (w : World) (hs : s.size ≤ 100000) (ha : a ≤ s.size) (x : Option (List UInt8 × Nat)) (hx : rdq (s.data.toList.drop a) = x) :
    Calls Try.prog 25 #[.string s, .int .i64 (a : Int)] w (OutQd a x w) := by
  obtain ⟨i0, hi, hz0, hz1, hz2⟩ := info_parts info_u8
  by_cases hlt0 : a < s.size
  case neg =>
    have X := Lib.hid (show x = none by rw [← hx, at_end s a (by omega)]; rfl)
    clear hx
    go_enter Try.func25, Try.ntmps25
    go_wp2_with fail
    exact bodyPost_ret (v := .tuple #[.string (bs []), .int .i64 (-1)]) (by simp [results, Try.results25, go_sem]; rfl) rfl (outd_none X.out rfl (Below.refl _ _))
  by_cases hq : s[a].toNat = 34
  case neg =>
    have X := Lib.hid (show x = none by rw [← hx]; unfold rdq; rw [if_neg (head_ne s a hlt0 hq)])
    have t34 : ((s[a].toNat : Int) != 34) = true := by simp; omega
    clear hx hq
    go_enter Try.func25, Try.ntmps25
    go_wp2_with fail
    exact bodyPost_ret (v := .tuple #[.string (bs []), .int .i64 (-1)]) (by simp [results, Try.results25, go_sem]; rfl) rfl (outd_none X.out rfl (Below.refl _ _))
  have t34 : ((s[a].toNat : Int) != 34) = false := by simp; omega
  have X0 := at_drop s a hlt0
  have hs34 : s[a] = 34 := UInt8.toNat_inj.1 (by rw [hq]; rfl)
  rw [X0, hs34, wk_rdq] at hx
  have hll : (s.data.toList.drop (a + 1)).length = s.size - (a + 1) := by rw [List.length_drop, toNat_bytes]
  have HLL := Lib.hid hll
  rw [hll] at hx
  obtain ⟨y, hy⟩ : ∃ y, wk (s.size - (a + 1) + 1) (s.data.toList.drop (a + 1)) = y := ⟨_, rfl⟩
  have X := Lib.hid (show x = y.bind (fin (s.data.toList.drop (a + 1))) by rw [← hx, hy])
  have Y := Lib.hid (show y = (wk (s.size - (a + 1) + 1) (s.data.toList.drop (a + 1))).map fun z => ([] ++ z.1, (a + 1 - (a + 1)) + z.2) by
    rw [hy]; simp)
  have S34 := Lib.hid hs34
  have HX0 := Lib.hid X0
  have d0 : decide (s.size ≤ a) = false := decide_eq_false (by omega)
  clear hx hy hll hq X0 hs34
  go_enter Try.func25, Try.ntmps25
  go_wp2_with fail
  go_loopw [6, 7] (fun v i wr => ∃ (p f : Nat) (acc : List UInt8), i = .int .i64 p ∧ a + 1 ≤ p ∧ p ≤ s.size ∧ acc.length ≤ p ∧ s.size < p + f ∧
      y = ((wk f (s.data.toList.drop p)).map fun z => (acc ++ z.1, (p - (a + 1)) + z.2)) ∧ OwnB wr w.heap.size v acc ∧ Below w.heap.size w wr) (fun _ i _ => s.size - (intOf i).toNat)
  case atStart => exact ⟨a + 1, s.size - (a + 1) + 1, [], by go_num, Nat.le_refl _, hlt0, by simp, by omega, Y.out, World.ownsRow_nil _ _ _ _, Below.refl _ _⟩
  case round =>
    obtain ⟨p, f, acc, rfl, h1, h2, h3, h4, h5, hown, hb⟩ := hrel
    obtain ⟨f, rfl⟩ : ∃ g, f = g + 1 := ⟨f - 1, by omega⟩
    have B := Lib.hid hb
    have hsz := hb.size
    have HL := Lib.hid (fun k (hk : u6.ownBlock = some k) => (hown.lt k hk).1)
    have HO := Lib.hid hown
    by_cases hlt : p < s.size
    · have hc := (s[p]).toNat_lt
      have HP := Lib.hid (at_drop s p hlt)
      by_cases hq : s[p].toNat = 34
      · have c34 : ((s[p].toNat : Int) != 34) = false := by simp; omega
        have Y2 := Lib.hid (show y = some (acc, p - (a + 1)) by rw [h5, HP.out, wk_quote f _ _ hq]; simp)
        have hcut : (s.extract a (p + 1)).data.toList = 34 :: (s.data.toList.drop (a + 1)).take (p - (a + 1) + 1) := by
          have e : (s.extract a (p + 1)).data.toList = (s.data.toList.drop a).take (p + 1 - a) := by simp [List.extract]
          rw [e, HX0.out, S34.out, show p + 1 - a = (p - (a + 1) + 1) + 1 by omega, List.take_succ_cons]
        have hfit : p - (a + 1) < (s.data.toList.drop (a + 1)).length := by rw [HLL.out]; omega
        have i1 : IntKind.i64.wrap ((p : Int) + 1) = (p : Int) + 1 := IntWalk.i64_in _ (by omega)
        have i2 : (0 : Int) ≤ (p : Int) + 1 := by omega
        have i3 : (a : Int) ≤ (p : Int) + 1 := by omega
        have i4 : (p : Int) + 1 ≤ (s.size : Int) := by omega
        have i5 : ((p : Int) + 1).toNat = p + 1 := by omega
        have i6 : decide (s.size ≤ p) = false := decide_eq_false (by omega)
        have HACC := Lib.hid (show (bs acc).size ≤ 100000 by rw [bs_size]; omega)
        have hcv := conv_own (show OwnB wr.drew w.heap.size u6 acc from World.ownsRow.drew hown)
        have hcv0 := conv_own hown
        by_cases hg : quo acc = 34 :: (s.data.toList.drop (a + 1)).take (p - (a + 1) + 1)
        · have X2 := Lib.hid (show x = some (acc, p - (a + 1) + 2) by
            rw [X.out, Y2.out]; show fin _ (acc, p - (a + 1)) = _; unfold fin; rw [if_pos ⟨hfit, hg⟩])
          have t1 : ((bs (quo acc)).toList == (s.extract a (p + 1)).toList) = true := by
            rw [Lib.toList_data, Lib.toList_data, bs_data, hcut, ← hg]; simp
          have t2 : ((bs (quo acc)).toList != (s.extract a (p + 1)).toList) = false := by unfold bne; rw [t1]; rfl
          clear hg hfit hcut hq h5 hb
          go_wp2_with fail
          go_region_held3 (fun w' => (convert 43 9 u6).run Try.prog w' = .ok (.string (bs acc)) w') (first | exact hcv0 | exact hcv | exact conv_own (ownsRow_below (World.ownsRow.drew HO.out) B3.out)) (first
            | (go_at_call 35; refine (rquote_any (bs acc) _ HACC.out).mono ?_; rintro r w3 ⟨rfl, hb3⟩; rw [bs_data]; have B3 := Lib.hid hb3; clear hb3) | fail)
          have hcv3 := conv_own (ownsRow_below (World.ownsRow.drew HO.out) B3.out)
          go_wp2_with fail
          exact bodyPost_ret (v := .tuple #[.string (bs acc), .int .i64 ((p : Int) + 1)]) (by simp [results, Try.results25, go_sem]) rfl (outd_some X2.out (by omega) (B.out.drew.trans (B3.out.mono hsz)))
        · have X2 := Lib.hid (show x = none by
            rw [X.out, Y2.out]; show fin _ (acc, p - (a + 1)) = _; unfold fin; rw [if_neg (fun h => hg h.2)])
          have t1 : ((bs (quo acc)).toList == (s.extract a (p + 1)).toList) = false := by
            rw [Lib.toList_data, Lib.toList_data, bs_data, hcut, beq_eq_false_iff_ne]; exact hg
          have t2 : ((bs (quo acc)).toList != (s.extract a (p + 1)).toList) = true := by unfold bne; rw [t1]; rfl
          clear hg hfit hcut hq h5 hb
          go_wp2_with fail
          go_region_held3 (fun w' => (convert 43 9 u6).run Try.prog w' = .ok (.string (bs acc)) w') (first | exact hcv0 | exact hcv | exact conv_own (ownsRow_below (World.ownsRow.drew HO.out) B3.out)) (first
            | (go_at_call 35; refine (rquote_any (bs acc) _ HACC.out).mono ?_; rintro r w3 ⟨rfl, hb3⟩; rw [bs_data]; have B3 := Lib.hid hb3; clear hb3) | fail)
          have hcv3 := conv_own (ownsRow_below (World.ownsRow.drew HO.out) B3.out)
          go_wp2_with fail
          exact bodyPost_ret (v := .tuple #[.string (bs []), .int .i64 (-1)]) (by simp [results, Try.results25, go_sem]; rfl) rfl (outd_none X2.out rfl (B.out.drew.trans (B3.out.mono hsz)))
      · have c34 : ((s[p].toNat : Int) != 34) = true := by simp; omega
        by_cases h92 : s[p].toNat = 92
        · have c92 : ((s[p].toNat : Int) != 92) = false := by simp; omega
          have i1 : IntKind.i64.wrap ((p : Int) + 1) = (p : Int) + 1 := IntWalk.i64_in _ (by omega)
          by_cases hl1 : p + 1 < s.size
          · have l1 : (p : Int) + 1 < (s.size : Int) := by omega
            have hc1 := (s[p + 1]).toNat_lt
            by_cases hq1 : s[p + 1].toNat = 34 ∨ s[p + 1].toNat = 92
            · have W0 := wesc_self s[p + 1] (s.data.toList.drop (p + 2)) hq1
              rw [← at_drop s (p + 1) hl1] at W0
              have Y2 := Lib.hid (show y = ((wk f (s.data.toList.drop (p + 2))).map fun z => ((acc ++ [s[p + 1]]) ++ z.1, (p + 2 - (a + 1)) + z.2)) by
                rw [h5, HP.out, wk_esc f _ _ _ _ h92 W0, ← HP.out, List.drop_drop, Option.map_map]
                congr 1
                funext z
                simp; omega)
              by_cases h34 : s[p + 1].toNat = 34
              · have u34 : ((s[p + 1].toNat : Int) == 34) = true := by simp; omega
                clear h5 hb hq hq1 h92 W0 h34
                go_wp2_with (at_builtin; refine wpList_append_own _ rfl (.tmp 61) (.tmp 66) 43 rfl w.heap.size 5 i0 (.int .u8 0) 1 1 Try.underlying43 hi hz0 hz1 hz2 rfl (by decide) _ _ _ rfl (hown.alloc _) ⟨wr.heap.size, 0, none⟩ 1 1 [.int .u8 (s[p + 1].toNat : Int)] rfl rfl (one_cell _ _ _) ?c2 ?c3 ?c4 ?c5 ?_)
                case c2 => intro u hu; simp at hu; subst hu; rfl
                case c3 => unfold maxLen; omega
                case c4 => omega
                case c5 => simp; omega
                intro v' w3 hown' hgrow _
                have R3 := Lib.hid (ownB_app (acc := acc) (news := [s[p + 1]]) hown')
                have B3 := Lib.hid ((B.out.alloc (by omega) _).grown hgrow (by simp; omega) HL.out)
                clear hown' hgrow hown
                go_wp2_with fail
                go_roundw
                case rel => exact ⟨p + 2, f, acc ++ [s[p + 1]], by go_num, by omega, by omega, by rw [snoc_len]; omega, by omega, Y2.out, R3.out, B3.out⟩
                case measure => simp [intOf]; omega
              · have u34 : ((s[p + 1].toNat : Int) == 34) = false := by simp; omega
                have u92 : ((s[p + 1].toNat : Int) == 92) = true := by simp; omega
                clear h5 hb hq hq1 h92 W0 h34
                go_wp2_with (at_builtin; refine wpList_append_own _ rfl (.tmp 61) (.tmp 66) 43 rfl w.heap.size 5 i0 (.int .u8 0) 1 1 Try.underlying43 hi hz0 hz1 hz2 rfl (by decide) _ _ _ rfl (hown.alloc _) ⟨wr.heap.size, 0, none⟩ 1 1 [.int .u8 (s[p + 1].toNat : Int)] rfl rfl (one_cell _ _ _) ?c2 ?c3 ?c4 ?c5 ?_)
                case c2 => intro u hu; simp at hu; subst hu; rfl
                case c3 => unfold maxLen; omega
                case c4 => omega
                case c5 => simp; omega
                intro v' w3 hown' hgrow _
                have R3 := Lib.hid (ownB_app (acc := acc) (news := [s[p + 1]]) hown')
                have B3 := Lib.hid ((B.out.alloc (by omega) _).grown hgrow (by simp; omega) HL.out)
                clear hown' hgrow hown
                go_wp2_with fail
                go_roundw
                case rel => exact ⟨p + 2, f, acc ++ [s[p + 1]], by go_num, by omega, by omega, by rw [snoc_len]; omega, by omega, Y2.out, R3.out, B3.out⟩
                case measure => simp [intOf]; omega
            · have u34 : ((s[p + 1].toNat : Int) == 34) = false := by simp; omega
              have u92 : ((s[p + 1].toNat : Int) == 92) = false := by simp; omega
              by_cases hxq : s[p + 1].toNat = 120 ∧ p + 3 < s.size
              · obtain ⟨hx1, hl3⟩ := hxq
                have u120 : ((s[p + 1].toNat : Int) == 120) = true := by simp; omega
                have l3 : (p : Int) + 3 < (s.size : Int) := by omega
                have hc2 := (s[p + 2]).toNat_lt
                have hc3 := (s[p + 3]).toNat_lt
                have W0 := wesc_hex s[p + 1] s[p + 2] s[p + 3] (s.data.toList.drop (p + 4)) hx1
                rw [← at_drop s (p + 3) hl3, ← at_drop s (p + 2) (by omega), ← at_drop s (p + 1) (by omega)] at W0
                have j2 := hvI_le s[p + 2]
                have j3 := hvI_le s[p + 3]
                have D2 := Lib.hid (hex_any s[p + 2])
                have D3 := Lib.hid (hex_any s[p + 3])
                by_cases hh : hv s[p + 2] < 16 ∧ hv s[p + 3] < 16
                · have e2 : hvI s[p + 2] = (hv s[p + 2] : Int) := by unfold hvI; rw [if_pos hh.1]
                  have e3 : hvI s[p + 3] = (hv s[p + 3] : Int) := by unfold hvI; rw [if_pos hh.2]
                  rw [e2] at D2
                  rw [e3] at D3
                  rw [if_pos hh] at W0
                  generalize hv s[p + 2] = x2 at *
                  generalize hv s[p + 3] = x3 at *
                  have Y2 := Lib.hid (show y = ((wk f (s.data.toList.drop (p + 4))).map fun z => ((acc ++ [UInt8.ofNat (16 * x2 + x3)]) ++ z.1, (p + 4 - (a + 1)) + z.2)) by
                    rw [h5, HP.out, wk_esc f _ _ _ _ h92 W0, ← HP.out, List.drop_drop, Option.map_map]
                    congr 1
                    funext z
                    simp; omega)
                  have CE := Lib.hid (show (16 * (x2 : Int) + (x3 : Int)) = ((UInt8.ofNat (16 * x2 + x3)).toNat : Int) by rw [UInt8.toNat_ofNat']; omega)
                  have i1 : IntKind.i64.wrap ((p : Int) + 1) = (p : Int) + 1 := IntWalk.i64_in _ (by omega)
                  clear j2 j3 e2 e3 h5 hb hq hq1 h92 hx1 W0
                  go_wp2_with (first
                    | (go_at_call 34; ((with_reducible refine (D2.out _).mono ?_); rintro e w' ⟨rfl, rfl⟩))
                    | (go_at_call 34; ((with_reducible refine (D3.out _).mono ?_); rintro e w' ⟨rfl, rfl⟩)))
                  have q2 : IntKind.i64.wrap ((p : Int) + 2) = (p : Int) + 2 := IntWalk.i64_in _ (by omega)
                  have q3 : IntKind.i64.wrap ((p : Int) + 3) = (p : Int) + 3 := IntWalk.i64_in _ (by omega)
                  have q4 : (0 : Int) ≤ (p : Int) + 2 := by omega
                  have q5 : (0 : Int) ≤ (p : Int) + 3 := by omega
                  have q6 : (p : Int) + 2 < (s.size : Int) := by omega
                  have q7 : (p : Int) + 3 < (s.size : Int) := by omega
                  have q8 : ((p : Int) + 2).toNat = p + 2 := by omega
                  have q9 : ((p : Int) + 3).toNat = p + 3 := by omega
                  have m1 : IntKind.i64.wrap (16 * (x2 : Int)) = 16 * (x2 : Int) := IntWalk.i64_in _ (by omega)
                  have m2 : IntKind.i64.wrap (16 * (x2 : Int) + (x3 : Int)) = 16 * (x2 : Int) + (x3 : Int) := IntWalk.i64_in _ (by omega)
                  have m3 : IntKind.u8.wrap (16 * (x2 : Int) + (x3 : Int)) = 16 * (x2 : Int) + (x3 : Int) := by rw [IntKind.wrap_u8]; omega
                  go_region_held3 (fun _ => True) (trivial) (first
                    | (go_at_call 34; ((with_reducible refine (D2.out _).mono ?_); rintro e w' ⟨rfl, rfl⟩))
                    | (go_at_call 34; ((with_reducible refine (D3.out _).mono ?_); rintro e w' ⟨rfl, rfl⟩))
                    | (refine step_append_lies _ (by rfl) (.tmp 98) (.tmp 112) 43 (by rfl) w.heap.size 5 i0 (.int .u8 0) 1 1 Try.underlying43 hi hz0 hz1 hz2 rfl (by omega) u6 acc.length (u8s acc) (by rfl) ((HO.out.alloc _).drew) ⟨wr.heap.size, 0, none⟩ 1 1 [.int .u8 (16 * (x2 : Int) + (x3 : Int))] (by rfl) (by rfl) (World.news_of_block (cs := #[.int .u8 (16 * (x2 : Int) + (x3 : Int))]) (t := 5) (fr := (0, 0)) (heap_alloc_new wr _)) (by simp [Value.oneCell']) (by omega) (by unfold maxLen; omega) (by omega) (by simp; omega) (wr.heap.size + 1) (by simp) ?_; intro gg cap w3 hown' hgrow hat hlt3) | fail)
                  all_goals
                    have R3 := Lib.hid (show OwnB w3 w.heap.size (.slice (some ⟨gg, 0, none⟩) (acc.length + 1) cap) (acc ++ [UInt8.ofNat (16 * x2 + x3)]) by
                      refine ownB_app (news := [UInt8.ofNat (16 * x2 + x3)]) ?_
                      have h := hown'
                      rw [CE.out] at h
                      exact h)
                    have B3 := Lib.hid ((((B.out.alloc hsz _).drew)).grown hgrow (by simp; omega) HL.out)
                    clear hown' hgrow hown hat hlt3
                    go_wp2_with fail
                    go_roundw
                    case rel => exact ⟨p + 4, f, acc ++ [UInt8.ofNat (16 * x2 + x3)], by go_num, by omega, by omega, by rw [snoc_len]; omega, by omega, Y2.out, R3.out, B3.out⟩
                    case measure => simp [intOf]; omega
                · have Y2 := Lib.hid (show y = none by rw [h5, HP.out, wk_bad f _ _ h92 (by rw [W0, if_neg hh])]; rfl)
                  have X2 := Lib.hid (show x = none by rw [X.out, Y2.out]; rfl)
                  by_cases h2x : hv s[p + 2] < 16
                  · have e2 : hvI s[p + 2] = (hv s[p + 2] : Int) := by unfold hvI; rw [if_pos h2x]
                    have e3 : hvI s[p + 3] = -1 := by unfold hvI; rw [if_neg (fun h => hh ⟨h2x, h⟩)]
                    rw [e2] at D2
                    rw [e3] at D3
                    generalize hv s[p + 2] = x2 at *
                    clear j2 j3 e2 e3 h5 hb hq hq1 h92 hx1 W0 hh
                    go_wp2_with (first
                      | (go_at_call 34; ((with_reducible refine (D2.out _).mono ?_); rintro e w' ⟨rfl, rfl⟩))
                      | (go_at_call 34; ((with_reducible refine (D3.out _).mono ?_); rintro e w' ⟨rfl, rfl⟩)))
                    exact bodyPost_ret (v := .tuple #[.string (bs []), .int .i64 (-1)]) (by simp [results, Try.results25, go_sem]; rfl) rfl (outd_none X2.out rfl B.out)
                  · have e2 : hvI s[p + 2] = -1 := by unfold hvI; rw [if_neg h2x]
                    rw [e2] at D2
                    clear j2 j3 e2 h5 hb hq hq1 h92 hx1 W0 hh h2x
                    go_wp2_with (first
                      | (go_at_call 34; ((with_reducible refine (D2.out _).mono ?_); rintro e w' ⟨rfl, rfl⟩)))
                    exact bodyPost_ret (v := .tuple #[.string (bs []), .int .i64 (-1)]) (by simp [results, Try.results25, go_sem]; rfl) rfl (outd_none X2.out rfl B.out)
              · have W0 : wesc (s.data.toList.drop (p + 1)) = none := by
                  rw [at_drop s (p + 1) hl1]
                  by_cases hx1 : s[p + 1].toNat = 120
                  · by_cases h3l : p + 2 < s.size
                    · rw [at_drop s (p + 1 + 1) h3l, at_end s (p + 1 + 1 + 1) (by omega)]; exact wesc_short1 _ _ hx1
                    · rw [at_end s (p + 1 + 1) (by omega)]; exact wesc_short0 _ hx1
                  · exact wesc_other _ _ hq1 hx1
                have Y2 := Lib.hid (show y = none by rw [h5, HP.out, wk_bad f _ _ h92 W0]; rfl)
                have X2 := Lib.hid (show x = none by rw [X.out, Y2.out]; rfl)
                by_cases hl3 : p + 3 < s.size
                · have l3 : (p : Int) + 3 < (s.size : Int) := by omega
                  have u120 : ((s[p + 1].toNat : Int) == 120) = false := by simp; omega
                  clear h5 hb hq hq1 h92 W0 hxq
                  go_wp2_with fail
                  exact bodyPost_ret (v := .tuple #[.string (bs []), .int .i64 (-1)]) (by simp [results, Try.results25, go_sem]; rfl) rfl (outd_none X2.out rfl B.out)
                · have l3 : ¬ (p : Int) + 3 < (s.size : Int) := by omega
                  clear h5 hb hq hq1 h92 W0 hxq
                  go_wp2_with fail
                  exact bodyPost_ret (v := .tuple #[.string (bs []), .int .i64 (-1)]) (by simp [results, Try.results25, go_sem]; rfl) rfl (outd_none X2.out rfl B.out)
          · have l1 : ¬ (p : Int) + 1 < (s.size : Int) := by omega
            have l3 : ¬ (p : Int) + 3 < (s.size : Int) := by omega
            have Y2 := Lib.hid (show y = none by rw [h5, HP.out, wk_bad f _ _ h92 (by rw [at_end s (p + 1) (by omega)]; rfl)]; rfl)
            have X2 := Lib.hid (show x = none by rw [X.out, Y2.out]; rfl)
            clear h5 hb hq h92
            go_wp2_with fail
            exact bodyPost_ret (v := .tuple #[.string (bs []), .int .i64 (-1)]) (by simp [results, Try.results25, go_sem]; rfl) rfl (outd_none X2.out rfl B.out)
        · have c92 : ((s[p].toNat : Int) != 92) = true := by simp; omega
          have Y2 := Lib.hid (show y = ((wk f (s.data.toList.drop (p + 1))).map fun z => ((acc ++ [s[p]]) ++ z.1, (p + 1 - (a + 1)) + z.2)) by
            rw [h5, HP.out, wk_plain f _ _ hq h92, Option.map_map]
            congr 1
            funext z
            simp; omega)
          clear h5 hb hq h92
          go_wp2_with (at_builtin; refine wpList_append_own _ rfl (.tmp 34) (.tmp 38) 43 rfl w.heap.size 5 i0 (.int .u8 0) 1 1 Try.underlying43 hi hz0 hz1 hz2 rfl (by decide) _ _ _ rfl (hown.alloc _) ⟨wr.heap.size, 0, none⟩ 1 1 [.int .u8 (s[p].toNat : Int)] rfl rfl (one_cell _ _ _) ?c2 ?c3 ?c4 ?c5 ?_)
          case c2 => intro u hu; simp at hu; subst hu; rfl
          case c3 => unfold maxLen; omega
          case c4 => omega
          case c5 => simp; omega
          intro v' w3 hown' hgrow _
          have R3 := Lib.hid (ownB_app (acc := acc) (news := [s[p]]) hown')
          have B3 := Lib.hid ((B.out.alloc (by omega) _).grown hgrow (by simp; omega) HL.out)
          clear hown' hgrow hown
          go_wp2_with fail
          go_roundw
          case rel => exact ⟨p + 1, f, acc ++ [s[p]], by go_num, by omega, by omega, by rw [snoc_len]; omega, by omega, Y2.out, R3.out, B3.out⟩
          case measure => simp [intOf]; omega
    · obtain rfl : p = s.size := by omega
      have Y2 := Lib.hid (show y = some (acc, s.size - (a + 1)) by rw [h5, at_end s s.size (Nat.le_refl _), wk_nil]; simp)
      have X2 := Lib.hid (show x = none by
        rw [X.out, Y2.out]; show fin _ (acc, s.size - (a + 1)) = _; unfold fin; rw [if_neg]
        rintro ⟨h, _⟩
        have := HLL.out
        omega)
      have i6 : decide (s.size ≤ s.size) = true := decide_eq_true (Nat.le_refl _)
      clear h5 hb
      go_wp2_with fail
      go_quiet (fail)
      go_wp2_with fail
      exact bodyPost_ret (v := .tuple #[.string (bs []), .int .i64 (-1)]) (by simp [results, Try.results25, go_sem]; rfl) rfl (outd_none X2.out rfl (B.out.trans ((below_drewN _ _).mono hsz)))
end Go.Proofs.Ytmildkjkppnblaa
