/- Contracts of the reference: Unquote, part, Fields, and of Same. -/
import Derived.Test.YtmildkjkppnblaaNG
set_option linter.unusedVariables false
namespace Go.Proofs.Ytmildkjkppnblaa
open Go.RowKit

set_option maxHeartbeats 1000000 in
theorem ruq_any (s : ByteArray) (w : World) (hs : s.size ≤ 100000) (x : List UInt8 × Int) (hx : unq s.data.toList = x) :
    Calls Try.prog 14 #[.string s] w (OutUq x w) := by
  rcases hr : rdq s.data.toList with _ | ⟨t, n⟩
  · have X := Lib.hid (hx.symm.trans (unq_none hr))
    have Q := Lib.hid (quoted_any s 0 w hs (Nat.zero_le _) none (by rw [List.drop_zero]; exact hr))
    clear hx hr
    go_enter Try.func14, Try.ntmps14
    go_wp2_with fail
    refine Q.out.mono ?_
    rintro e w1 ⟨rfl, hb⟩
    have B := Lib.hid hb
    clear hb
    simp only [rqV, qdEnd, Option.getD_none]
    go_wp2_with fail
    exact bodyPost_ret (v := .tuple #[.string (bs []), .int .i64 4]) (by simp [results, Try.results14, go_sem]; rfl) rfl (outu X.out rfl B.out)
  · have Q := Lib.hid (quoted_any s 0 w hs (Nat.zero_le _) (some (t, n)) (by rw [List.drop_zero]; exact hr))
    have hz := rdq_size hr
    rw [toNat_bytes] at hz
    have hn0 : ¬ (n : Int) < 0 := by omega
    have htb := bs_size t
    have htl : (bs t).size ≤ 100000 := by omega
    by_cases h1 : n < s.size
    · have X := Lib.hid (hx.symm.trans (unq_more hr (by rw [toNat_bytes]; exact h1)))
      have hne : ((n : Int) != (s.size : Int)) = true := by simp; omega
      clear hx hr htb
      go_enter Try.func14, Try.ntmps14
      go_wp2_with fail
      refine Q.out.mono ?_
      rintro e w1 ⟨rfl, hb⟩
      have B := Lib.hid hb
      clear hb
      simp only [rqV, qdEnd, Option.getD_some, Nat.zero_add]
      go_wp2_with fail
      exact bodyPost_ret (v := .tuple #[.string (bs []), .int .i64 4]) (by simp [results, Try.results14, go_sem]; rfl) rfl (outu X.out rfl B.out)
    · have hne : ((n : Int) != (s.size : Int)) = false := by simp; omega
      by_cases h2 : 60 < t.length
      · have X := Lib.hid (hx.symm.trans (unq_long hr (by rw [toNat_bytes]; exact h1) h2))
        have h3 : 60 < (bs t).size := by omega
        clear hx hr htb
        go_enter Try.func14, Try.ntmps14
        go_wp2_with fail
        refine Q.out.mono ?_
        rintro e w1 ⟨rfl, hb⟩
        have B := Lib.hid hb
        clear hb
        simp only [rqV, qdEnd, Option.getD_some, Nat.zero_add]
        go_wp2_with fail
        exact bodyPost_ret (v := .tuple #[.string (bs []), .int .i64 3]) (by simp [results, Try.results14, go_sem]; rfl) rfl (outu X.out rfl B.out)
      · have X := Lib.hid (hx.symm.trans (unq_good hr (by rw [toNat_bytes]; exact h1) h2))
        have h3 : ¬ 60 < (bs t).size := by omega
        clear hx hr htb
        go_enter Try.func14, Try.ntmps14
        go_wp2_with fail
        refine Q.out.mono ?_
        rintro e w1 ⟨rfl, hb⟩
        have B := Lib.hid hb
        clear hb
        simp only [rqV, qdEnd, Option.getD_some, Nat.zero_add]
        go_wp2_with fail
        exact bodyPost_ret (v := .tuple #[.string (bs t), .int .i64 0]) (by simp [results, Try.results14, go_sem]) rfl (outu X.out rfl B.out)

/-- The first part may stand there. -/
def okp (l : List UInt8) : Bool := decide (psz l ≠ 0) && (decide (l.head? = some 34) || decide (psz l = l.length) || decide ((l.getD (psz l) 0).toNat = 32))
/-- What the reference's part hands back. -/
def ptR (s : ByteArray) (a : Nat) : Int := if okp (s.data.toList.drop a) then ((a + psz (s.data.toList.drop a) : Nat) : Int) else -1
theorem psz_tw' (s : ByteArray) (a : Nat) (h : (s.data.toList.drop a).head? ≠ some 34) : psz (s.data.toList.drop a) = tw s a := by
  unfold psz tw; rw [if_neg h]
theorem getD_drop (s : ByteArray) (a k : Nat) (h : a + k < s.size) : (s.data.toList.drop a).getD k 0 = s[a + k] := by
  simp [List.getD, List.getElem?_drop, h]
  rfl

set_option maxHeartbeats 2000000 in
theorem part_any (s : ByteArray) (a : Nat) (w : World) (hs : s.size ≤ 100000) (ha : a ≤ s.size) (n : Int) (hn : ptR s a = n) :
    Calls Try.prog 31 #[.string s, .int .i64 (a : Int)] w (OutN n w) := by
  by_cases hq : (s.data.toList.drop a).head? = some 34
  · have hlt : a < s.size := by
      rcases Nat.lt_or_ge a s.size with h | h
      · exact h
      · rw [at_end s a h] at hq; cases hq
    have hc : s[a] = 34 := by rw [head_at s a hlt] at hq; exact Option.some.inj hq
    have t34 : ((s[a].toNat : Int) == 34) = true := by rw [hc]; rfl
    have Q := Lib.hid (quoted_any s a w hs ha _ rfl)
    have X : n = qdEnd a (rdq (s.data.toList.drop a)) := by
      rw [← hn]
      unfold ptR okp qdEnd
      rw [psz_rdq hq]
      rcases hr : rdq (s.data.toList.drop a) with _ | ⟨t, m⟩
      · simp
      · have := rdq_size hr
        have hm : m ≠ 0 := by omega
        simp [hq, hm]
    have HX := Lib.hid X
    clear X hn hq hc
    go_enter Try.func31, Try.ntmps31
    go_wp2_with fail
    refine Q.out.mono ?_
    rintro e w1 ⟨rfl, hb⟩
    have B := Lib.hid hb
    clear hb
    have e := HX.out
    rw [← e]
    clear e
    go_wp2_with fail
    go_ret
    exact outn rfl B.out
  · have h0 : ¬ a < s.size ∨ ∃ h : a < s.size, ((s[a].toNat : Int) == 34) = false := by
      rcases Nat.lt_or_ge a s.size with h | h
      · refine Or.inr ⟨h, ?_⟩
        rw [head_at s a h] at hq
        have : s[a].toNat ≠ 34 := fun e => hq (congrArg some (UInt8.toNat_inj.1 (by rw [e]; rfl)))
        simp; omega
      · exact Or.inl (by omega)
    have X : n = if tw s a ≠ 0 ∧ (a + tw s a = s.size ∨ ∃ h : a + tw s a < s.size, s[a + tw s a].toNat = 32) then ((a + tw s a : Nat) : Int) else -1 := by
      rw [← hn]
      have hle := psz_le (s.data.toList.drop a)
      unfold ptR okp
      rw [psz_tw' s a hq] at hle ⊢
      rw [List.length_drop, toNat_bytes] at hle
      have hll : (s.data.toList.drop a).length = s.size - a := by rw [List.length_drop, toNat_bytes]
      rw [hll]
      have e1 : decide ((s.data.toList.drop a).head? = some 34) = false := decide_eq_false hq
      rw [e1]
      by_cases hz : tw s a = 0
      · simp [hz]
      · by_cases hl : a + tw s a = s.size
        · have e2 : decide (tw s a = s.size - a) = true := decide_eq_true (by omega)
          rw [e2]
          simp [hz, hl]
        · have hlt : a + tw s a < s.size := by omega
          have e2 : decide (tw s a = s.size - a) = false := decide_eq_false (by omega)
          rw [e2, getD_drop s a _ hlt]
          by_cases h32 : s[a + tw s a].toNat = 32
          · simp [hz, hlt, h32]
          · simp [hz, hl, h32]
    have HX := Lib.hid X
    clear X hn hq
    rcases h0 with h0 | ⟨h0, t34⟩
    · obtain rfl : a = s.size := by omega
      have X2 := Lib.hid (show n = -1 by rw [HX.out, if_neg (fun h => h.1 (tw_end s s.size (Nat.le_refl _)))])
      go_enter Try.func31, Try.ntmps31
      go_wp2_with fail
      go_loop [7] (fun i => i = .int .i64 s.size) (fun _ => 0)
      case atStart => rfl
      case round =>
        subst hrel
        go_wp2_with fail
        go_ret
        exact outn (by rw [X2.out]) (Below.refl _ _)
    · go_enter Try.func31, Try.ntmps31
      go_wp2_with fail
      go_loop [7] (fun i => ∃ p : Nat, i = .int .i64 p ∧ a ≤ p ∧ p ≤ s.size ∧ tw s a = (p - a) + tw s p) (fun i => s.size - (intOf i).toNat)
      case atStart => exact ⟨a, rfl, Nat.le_refl _, ha, by omega⟩
      case round =>
        obtain ⟨p, rfl, h1, h2, h3⟩ := hrel
        by_cases hlt : p < s.size
        · have hc := (s[p]).toNat_lt
          by_cases h32 : s[p].toNat = 32
          · have c32 : ((s[p].toNat : Int) != 32) = false := by simp; omega
            have ht := tw_stop s p hlt (by omega)
            have HP := Lib.hid (show p = a + tw s a by omega)
            have H32 := Lib.hid h32
            by_cases he : p = a
            · have hpa : ((p : Int) == (a : Int)) = true := by simp; omega
              have X2 := Lib.hid (show n = -1 by rw [HX.out, if_neg (fun h => h.1 (by omega))])
              clear h3 ht h32 he
              go_wp2_with fail
              go_ret
              exact outn (by rw [X2.out]) (Below.refl _ _)
            · have hpa : ((p : Int) == (a : Int)) = false := by simp; omega
              have X2 := Lib.hid (show n = (p : Int) by
                rw [HX.out, if_pos, ← HP.out]
                refine ⟨by omega, Or.inr ?_⟩
                rw [← HP.out]
                exact ⟨hlt, h32⟩)
              clear h3 ht h32
              go_wp2_with fail
              go_ret
              exact outn (by rw [X2.out]) (Below.refl _ _)
          · have c32 : ((s[p].toNat : Int) != 32) = true := by simp; omega
            by_cases hlo : s[p].toNat < 32
            · have ht := tw_stop s p hlt (by omega)
              have HP := Lib.hid (show p = a + tw s a by omega)
              have X2 := Lib.hid (show n = -1 by
                rw [HX.out, if_neg]
                rintro ⟨_, h⟩
                rw [← HP.out] at h
                rcases h with h | ⟨_, h⟩
                · omega
                · exact h32 h)
              clear h3 ht h32
              go_wp2_with fail
              go_ret
              exact outn (by rw [X2.out]) (Below.refl _ _)
            · have ht := tw_step s p hlt (by omega)
              have H3 := Lib.hid (show tw s a = (p + 1 - a) + tw s (p + 1) by omega)
              clear h3 ht h32
              go_wp2_with fail
              go_round
              case rel => exact ⟨p + 1, by go_num, by omega, by omega, H3.out⟩
              case measure => simp [intOf]; omega
        · have ht := tw_end s p (by omega)
          have HP := Lib.hid (show p = a + tw s a by omega)
          have hpa : ((p : Int) == (a : Int)) = false := by simp; omega
          have X2 := Lib.hid (show n = (p : Int) by
            rw [HX.out, if_pos, ← HP.out]
            exact ⟨by omega, Or.inl (by rw [← HP.out]; omega)⟩)
          clear h3 ht
          go_wp2_with fail
          go_ret
          exact outn (by rw [X2.out]) (Below.refl _ _)

/-- The reference's next step in the words of what Fields hands back. -/
theorem ok_parts {l : List UInt8} (h : okp l = false) (f : Nat) : fl (f + 1) l = none := by
  unfold okp at h
  by_cases hz : psz l = 0
  · exact fl_none f l hz
  · have e : decide (psz l ≠ 0) = true := decide_eq_true hz
    rw [e, Bool.true_and, Bool.or_eq_false_iff, Bool.or_eq_false_iff] at h
    exact fl_bad f l (of_decide_eq_false h.1.2) (of_decide_eq_false h.2)
theorem ok_ne {l : List UInt8} (h : okp l = true) : psz l ≠ 0 := by
  unfold okp at h
  rw [Bool.and_eq_true] at h
  exact of_decide_eq_true h.1

set_option maxRecDepth 100000 in
set_option maxHeartbeats 2000000 in
theorem rfields_any (s : ByteArray) (w : World) (hs : s.size ≤ 100000) (x : Option (List (List UInt8))) (hx : fld s.data.toList = x) :
    Calls Try.prog 21 #[.string s] w (OutFl x w) := by
  obtain ⟨i0, hi, hz0, hz1, hz2⟩ := info_parts info_str
  by_cases h0 : 0 < s.size
  case neg =>
    obtain rfl := eq_empty s h0
    have X := Lib.hid (show x = some [] by rw [← hx]; rfl)
    have n1 : (bs []).toList = [] := by rw [Lib.toList_data]; rfl
    have n2 : (bs []).toList.isEmpty = true := by rw [n1]; rfl
    clear hx h0
    go_enter Try.func21, Try.ntmps21
    go_wp2_with fail
    exact bodyPost_ret (v := .tuple #[.slice none 0 0, .int .i64 0]) (by simp [results, Try.results21, go_sem]) rfl (outf_some X.out (World.ownsRow_nil _ _ _ _) (Below.refl _ _))
  have n1 := ne_list s h0
  have n2 := ne_empty s h0
  have hl := toNat_bytes s
  have X := Lib.hid (show x = (fl s.size (s.data.toList.drop 0)).map fun y => [] ++ y by
    rw [← hx, List.drop_zero]; unfold fld; rw [if_neg, hl]
    · simp
    · intro e; rw [e] at hl; simp at hl; omega)
  clear hx hl
  go_enter Try.func21, Try.ntmps21
  go_wp2_with fail
  go_loopw [4, 5] (fun v i wr => ∃ (a f : Nat) (acc : List (List UInt8)), i = .int .i64 a ∧ a ≤ s.size ∧ acc.length ≤ a ∧ s.size < a + f + 1 ∧ (a < s.size ∨ 0 < f) ∧ x = ((fl f (s.data.toList.drop a)).map fun y => acc ++ y) ∧ OwnStr wr w.heap.size v acc ∧ Below w.heap.size w wr) (fun _ i _ => s.size - (intOf i).toNat)
  case atStart => exact ⟨0, s.size, [], rfl, Nat.zero_le _, Nat.le_refl _, by omega, Or.inl h0, X.out, World.ownsRow_nil _ _ _ _, Below.refl _ _⟩
  case round =>
    obtain ⟨a, f, acc, rfl, h1, h2, h3, h4, h5, hown, hb⟩ := hrel
    obtain ⟨f, rfl⟩ : ∃ g, f = g + 1 := ⟨f - 1, by omega⟩
    have hple := psz_le (s.data.toList.drop a)
    have hdl : (s.data.toList.drop a).length = s.size - a := by rw [List.length_drop, toNat_bytes]
    rw [hdl] at hple
    have HO := Lib.hid hown
    have HB := Lib.hid hb
    have hsz := hb.size
    by_cases hok : okp (s.data.toList.drop a) = true
    · have hz := ok_ne hok
      have Q := Lib.hid (part_any s a wr hs h1 ((a + psz (s.data.toList.drop a) : Nat) : Int) (by unfold ptR; rw [if_pos hok]))
      have hF1 := fl_last f (s.data.toList.drop a) hz
      have hF2 := fl_bad f (s.data.toList.drop a)
      have hF3 := fl_more f (s.data.toList.drop a) hz
      have hgd := getD_drop s a (psz (s.data.toList.drop a))
      rw [hdl] at hF1 hF2 hF3
      generalize psz (s.data.toList.drop a) = k at *
      obtain ⟨p, hp⟩ : ∃ p, a + k = p := ⟨_, rfl⟩
      rw [hp] at Q
      have hp0 : ¬ (p : Int) < 0 := by omega
      have hext : s.extract a p = bs ((s.data.toList.drop a).take k) := by
        apply of_data; rw [bs_data]; simp [List.extract]; congr 1; omega
      have CE := Lib.hid (show Value.string (s.extract a p) = Value.string (bs ((s.data.toList.drop a).take k)) by rw [hext])
      have hap : a ≤ p := by omega
      have hap1 : a + 1 ≤ p := by omega
      have hps : p ≤ s.size := by omega
      by_cases hlast : p = s.size
      · have X2 := Lib.hid (show x = some (acc ++ [(s.data.toList.drop a).take k]) by rw [h5, hF1 (by omega)]; rfl)
        have tl : ((p : Int) == (s.size : Int)) = true := by simp; omega
        have PS := Lib.hid hlast
        clear h5 hown hb hF1 hF2 hF3 hgd hdl hok hext hp hlast hple
        go_wp2_with fail
        refine Q.out.mono ?_
        rintro e w1 ⟨rfl, hb⟩
        have B := Lib.hid (HB.out.trans (hb.mono hsz))
        have hsz1 := hb.size
        have hown := ownsRow_below HO.out hb
        have HL := Lib.hid (fun k (hk : u4.ownBlock = some k) => (hown.lt k hk).1)
        clear hb
        go_wp2_with (at_builtin; refine wpList_append_own _ rfl (.tmp 14) (.tmp 19) 22 rfl w.heap.size 9 i0 (.string ByteArray.empty) 1 16 Try.underlying22 hi hz0 hz1 hz2 rfl (by decide) _ _ _ rfl (hown.alloc _) ⟨w1.heap.size, 0, none⟩ 1 1 [.string (s.extract a p)] rfl rfl (one_cell _ _ _) ?c2 ?c3 ?c4 ?c5 ?_)
        case c2 => intro u hu; simp at hu; subst hu; rfl
        case c3 => unfold maxLen; omega
        case c4 => omega
        case c5 => simp; omega
        intro v' w3 hown' hgrow _
        have R3 := Lib.hid (show OwnStr w3 w.heap.size v' (acc ++ [(s.data.toList.drop a).take k]) by
          have h := hown'
          rw [CE.out] at h
          have e : strs acc ++ [Value.string (bs ((s.data.toList.drop a).take k))] = strs (acc ++ [(s.data.toList.drop a).take k]) := strs_append acc [(s.data.toList.drop a).take k]
          rw [e] at h
          show World.ownsRow _ _ _ _ _ _ _
          rw [snoc_len2]
          exact h)
        have B3 := Lib.hid ((B.out.alloc (by omega) _).grown hgrow (by simp; omega) HL.out)
        clear hown' hgrow hown
        go_wp2_with fail
        exact bodyPost_ret (v := .tuple #[v', .int .i64 0]) (by simp [results, Try.results21, go_sem]) rfl (outf_some X2.out R3.out B3.out)
      · have tl : ((p : Int) == (s.size : Int)) = false := by simp; omega
        have hlt : p < s.size := by omega
        rw [hgd (by omega)] at hF2 hF3
        have hsp : s[a + k] = s[p] := by simp only [hp]
        rw [hsp] at hF2 hF3
        have hc := (s[p]).toNat_lt
        by_cases h32 : s[p].toNat = 32
        · have t32 : ((s[p].toNat : Int) != 32) = false := by simp; omega
          have X2 := Lib.hid (show x = ((fl f (s.data.toList.drop (p + 1))).map fun y => (acc ++ [(s.data.toList.drop a).take k]) ++ y) by
            rw [h5, hF3 (by omega) h32, map_map_snoc, List.drop_drop, show a + (k + 1) = p + 1 by omega])
          clear h5 hown hb hF1 hF2 hF3 hgd hdl hok hext hp hlast hple hsp h32
          go_wp2_with fail
          refine Q.out.mono ?_
          rintro e w1 ⟨rfl, hb⟩
          have B := Lib.hid (HB.out.trans (hb.mono hsz))
          have hsz1 := hb.size
          have hown := ownsRow_below HO.out hb
          have HL := Lib.hid (fun k (hk : u4.ownBlock = some k) => (hown.lt k hk).1)
          clear hb
          go_wp2_with (at_builtin; refine wpList_append_own _ rfl (.tmp 14) (.tmp 19) 22 rfl w.heap.size 9 i0 (.string ByteArray.empty) 1 16 Try.underlying22 hi hz0 hz1 hz2 rfl (by decide) _ _ _ rfl (hown.alloc _) ⟨w1.heap.size, 0, none⟩ 1 1 [.string (s.extract a p)] rfl rfl (one_cell _ _ _) ?c2 ?c3 ?c4 ?c5 ?_)
          case c2 => intro u hu; simp at hu; subst hu; rfl
          case c3 => unfold maxLen; omega
          case c4 => omega
          case c5 => simp; omega
          intro v' w3 hown' hgrow _
          have R3 := Lib.hid (show OwnStr w3 w.heap.size v' (acc ++ [(s.data.toList.drop a).take k]) by
            have h := hown'
            rw [CE.out] at h
            have e : strs acc ++ [Value.string (bs ((s.data.toList.drop a).take k))] = strs (acc ++ [(s.data.toList.drop a).take k]) := strs_append acc [(s.data.toList.drop a).take k]
            rw [e] at h
            show World.ownsRow _ _ _ _ _ _ _
            rw [snoc_len2]
            exact h)
          have B3 := Lib.hid ((B.out.alloc (by omega) _).grown hgrow (by simp; omega) HL.out)
          clear hown' hgrow hown
          go_wp2_with fail
          go_roundw
          case rel => exact ⟨p + 1, f, acc ++ [(s.data.toList.drop a).take k], by go_num, by omega, by rw [snoc_len2]; omega, by omega, by omega, X2.out, R3.out, B3.out⟩
          case measure => simp [intOf]; omega
        · have t32 : ((s[p].toNat : Int) != 32) = true := by simp; omega
          have X2 := Lib.hid (show x = none by rw [h5, hF2 (by omega) h32]; rfl)
          clear h5 hown hb hF1 hF2 hF3 hgd hdl hok hext hp hlast hple hsp h32
          go_wp2_with fail
          refine Q.out.mono ?_
          rintro e w1 ⟨rfl, hb⟩
          have B := Lib.hid (HB.out.trans (hb.mono hsz))
          have hsz1 := hb.size
          have hown := ownsRow_below HO.out hb
          have HL := Lib.hid (fun k (hk : u4.ownBlock = some k) => (hown.lt k hk).1)
          clear hb
          go_wp2_with (at_builtin; refine wpList_append_own _ rfl (.tmp 14) (.tmp 19) 22 rfl w.heap.size 9 i0 (.string ByteArray.empty) 1 16 Try.underlying22 hi hz0 hz1 hz2 rfl (by decide) _ _ _ rfl (hown.alloc _) ⟨w1.heap.size, 0, none⟩ 1 1 [.string (s.extract a p)] rfl rfl (one_cell _ _ _) ?c2 ?c3 ?c4 ?c5 ?_)
          case c2 => intro u hu; simp at hu; subst hu; rfl
          case c3 => unfold maxLen; omega
          case c4 => omega
          case c5 => simp; omega
          intro v' w3 hown' hgrow _
          have R3 := Lib.hid (show OwnStr w3 w.heap.size v' (acc ++ [(s.data.toList.drop a).take k]) by
            have h := hown'
            rw [CE.out] at h
            have e : strs acc ++ [Value.string (bs ((s.data.toList.drop a).take k))] = strs (acc ++ [(s.data.toList.drop a).take k]) := strs_append acc [(s.data.toList.drop a).take k]
            rw [e] at h
            show World.ownsRow _ _ _ _ _ _ _
            rw [snoc_len2]
            exact h)
          have B3 := Lib.hid ((B.out.alloc (by omega) _).grown hgrow (by simp; omega) HL.out)
          clear hown' hgrow hown
          go_wp2_with fail
          exact bodyPost_ret (v := .tuple #[.slice none 0 0, .int .i64 4]) (by simp [results, Try.results21, go_sem]) rfl (outf_none X2.out B3.out)
    · have hok2 : okp (s.data.toList.drop a) = false := by simpa using hok
      have Q := Lib.hid (part_any s a wr hs h1 (-1) (by unfold ptR; rw [if_neg hok]))
      have X2 := Lib.hid (show x = none by rw [h5, ok_parts hok2]; rfl)
      clear h5 hown hb hdl hok hok2 hple
      go_wp2_with fail
      refine Q.out.mono ?_
      rintro e w1 ⟨rfl, hb⟩
      have B := Lib.hid (HB.out.trans (hb.mono hsz))
      clear hb
      go_wp2_with fail
      exact bodyPost_ret (v := .tuple #[.slice none 0 0, .int .i64 4]) (by simp [results, Try.results21, go_sem]) rfl (outf_none X2.out B.out)
end Go.Proofs.Ytmildkjkppnblaa
