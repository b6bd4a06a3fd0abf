/- Contracts of Daily of sched and of its reference. -/
import Derived.Test.YtnocbgimfmgdeaaSM
set_option linter.unusedVariables false
namespace Go.Proofs.Ytnocbgimfmgdeaa
open Go.RowKit

def bitB (mask : Int) (n : Nat) : Bool := decide (mask / 2 ^ n % 2 = 1)
/-- The spans of the first n days. -/
def dayL (mask f e : Int) : Nat → List Spn
  | 0 => []
  | n + 1 => dayL mask f e n ++ if bitB mask n then [((n : Int) * 1440 + f, min ((n : Int) * 1440 + e) 10080), (0, (n : Int) * 1440 + e - 10080)] else []
def dayOk (mask f t : Int) : Prop := (0 ≤ mask ∧ mask ≤ 127) ∧ (0 ≤ f ∧ f ≤ 1440) ∧ (0 ≤ t ∧ t ≤ 1440)
instance (mask f t : Int) : Decidable (dayOk mask f t) := by unfold dayOk; infer_instance
def dayE (f t : Int) : Int := if t ≤ f then t + 1440 else t
/-- The minutes of a daily time. -/
def dayS (mask f t : Int) (m : Int) : Bool := if dayOk mask f t then inS (dayL mask f (dayE f t) 7) m else false
theorem dayL_len (mask f e : Int) (n : Nat) : (dayL mask f e n).length ≤ 2 * n := by
  induction n with
  | zero => exact Nat.le_refl _
  | succ n ih => simp only [dayL, List.length_append]; split <;> simp <;> omega
theorem dayL_small (mask f e : Int) (hf : 0 ≤ f ∧ f ≤ 1440) (he : 0 ≤ e ∧ e ≤ 2880) (n : Nat) (hn : n ≤ 7) : ∀ s ∈ dayL mask f e n, I64 s.1 ∧ I64 s.2 := by
  induction n with
  | zero => intro s h; cases h
  | succ n ih =>
    intro s h
    simp only [dayL] at h
    rcases List.mem_append.1 h with h | h
    · exact ih (by omega) s h
    · split at h
      · rcases List.mem_cons.1 h with rfl | h
        · exact ⟨i64_small (show -1000000000000 ≤ (n : Int) * 1440 + f ∧ (n : Int) * 1440 + f ≤ 1000000000000 by omega), i64_small (show -1000000000000 ≤ min ((n : Int) * 1440 + e) 10080 ∧ min ((n : Int) * 1440 + e) 10080 ≤ 1000000000000 by omega)⟩
        · rw [List.mem_singleton] at h; subst h
          exact ⟨i64_small (by show -1000000000000 ≤ (0 : Int) ∧ (0 : Int) ≤ 1000000000000; omega), i64_small (show -1000000000000 ≤ (n : Int) * 1440 + e - 10080 ∧ (n : Int) * 1440 + e - 10080 ≤ 1000000000000 by omega)⟩
      · cases h
theorem sfour_cells (w : World) (a b c d : Value) (T : TypeId) : ∀ j u, [a, b, c, d][j]? = some u → (w.alloc (.cells #[a, b, c, d] T)).cell? ((⟨w.heap.size, 0, none⟩ : Addr).add j) = some u := by
  intro j u hu
  match j, hu with
  | 0, hu => simp at hu; subst hu; simp [Addr.add]
  | 1, hu => simp at hu; subst hu; simp [Addr.add]
  | 2, hu => simp at hu; subst hu; simp [Addr.add]
  | 3, hu => simp at hu; subst hu; simp [Addr.add]
theorem bit_and (mk n : Nat) (b : Bool) (h : bitB mk n = b) : (bits BinOp.and IntKind.i64 ((mk : Int) / 2 ^ n) 1 == 0) = !b := by
  rw [kit_and1, ← h]
  unfold bitB
  generalize (mk : Int) / 2 ^ n = q
  by_cases c : q % 2 = 1
  · rw [c, decide_eq_true rfl]; rfl
  · rw [decide_eq_false c]; simp; omega
theorem bit_rem (mk n : Nat) (b : Bool) (h : bitB mk n = b) : (((mk : Int) / 2 ^ n).tmod 2 == 0) = !b := by
  have h0 : 0 ≤ (mk : Int) / 2 ^ n := Int.ediv_nonneg (by omega) (Int.pow_nonneg (by omega))
  rw [Int.tmod_eq_emod_of_nonneg h0, ← h]
  unfold bitB
  generalize (mk : Int) / 2 ^ n = q
  by_cases c : q % 2 = 1
  · rw [c, decide_eq_true rfl]; rfl
  · rw [decide_eq_false c]; simp; omega
theorem dayL_no {mask f e : Int} {n : Nat} (h : bitB mask n = false) : dayL mask f e (n + 1) = dayL mask f e n := by
  show dayL mask f e n ++ (if bitB mask n = true then _ else _) = _; rw [h]; exact List.append_nil _
theorem dayL_yes {mask f e : Int} {n : Nat} (h : bitB mask n = true) : dayL mask f e (n + 1) = dayL mask f e n ++ [((n : Int) * 1440 + f, min ((n : Int) * 1440 + e) 10080), (0, (n : Int) * 1440 + e - 10080)] := by
  show dayL mask f e n ++ (if bitB mask n = true then _ else _) = _; rw [h]; rfl
theorem OutNf.nil (w : World) : OutNf w (fun _ => false) (.returned (.slice none 0 0)) w := ⟨none, 0, [], rfl, SpAt.nil _ _ _, ⟨trivial, fun _ => rfl⟩, Below.refl _ _⟩

set_option maxRecDepth 100000 in
set_option maxHeartbeats 4000000 in
theorem sdaily_any (mask f t : Int) (w : World) :
    Calls Try.prog 30 #[.int .i64 mask, .int .i64 f, .int .i64 t] w (OutNf w (dayS mask f t)) := by
  by_cases hok : dayOk mask f t
  case neg =>
    have E := Lib.hid (show dayS mask f t = fun _ => false by funext m; unfold dayS; rw [if_neg hok])
    have W1 := Lib.hid (fun w => swithin_any w mask 127)
    have W2 := Lib.hid (fun w => swithin_any w f 1440)
    have W3 := Lib.hid (fun w => swithin_any w t 1440)
    unfold dayOk at hok
    rw [E.out]
    clear E
    rcases h1 : (decide (0 ≤ mask) && decide (mask ≤ 127)) with _ | _
    · rw [h1] at W1
      clear hok h1
      go_enter Try.func30, Try.ntmps30
      go_wp2_with fail
      refine (W1.out _).mono ?_
      rintro e w' ⟨rfl, rfl⟩
      go_wp2_with fail
      go_ret
      exact OutNf.nil _
    rcases h2 : (decide (0 ≤ f) && decide (f ≤ 1440)) with _ | _
    · rw [h1] at W1
      rw [h2] at W2
      clear hok h1 h2
      go_enter Try.func30, Try.ntmps30
      go_wp2_with fail
      refine (W1.out _).mono ?_
      rintro e w' ⟨rfl, rfl⟩
      go_wp2_with fail
      refine (W2.out _).mono ?_
      rintro e w' ⟨rfl, rfl⟩
      go_wp2_with fail
      go_ret
      exact OutNf.nil _
    rcases h3 : (decide (0 ≤ t) && decide (t ≤ 1440)) with _ | _
    · rw [h1] at W1
      rw [h2] at W2
      rw [h3] at W3
      clear hok h1 h2 h3
      go_enter Try.func30, Try.ntmps30
      go_wp2_with fail
      refine (W1.out _).mono ?_
      rintro e w' ⟨rfl, rfl⟩
      go_wp2_with fail
      refine (W2.out _).mono ?_
      rintro e w' ⟨rfl, rfl⟩
      go_wp2_with fail
      refine (W3.out _).mono ?_
      rintro e w' ⟨rfl, rfl⟩
      go_wp2_with fail
      go_ret
      exact OutNf.nil _
    exfalso
    simp at h1 h2 h3
    omega
  case pos =>
    have E := Lib.hid (show dayS mask f t = inS (dayL mask f (dayE f t) 7) by funext m; unfold dayS; rw [if_pos hok])
    have W1 := Lib.hid (fun w => swithin_any w mask 127)
    have W2 := Lib.hid (fun w => swithin_any w f 1440)
    have W3 := Lib.hid (fun w => swithin_any w t 1440)
    obtain ⟨⟨m1, m2⟩, ⟨f1, f2⟩, t1, t2⟩ := hok
    rw [decide_eq_true m1, decide_eq_true m2] at W1
    rw [decide_eq_true f1, decide_eq_true f2] at W2
    rw [decide_eq_true t1, decide_eq_true t2] at W3
    rw [E.out]
    clear E
    obtain ⟨i0, hi, hz0, hz1', hz2'⟩ := info_span
    have HI0 := Lib.hid hi
    have HI1 := Lib.hid hz0
    have HI2 := Lib.hid hz1'
    have HI3 := Lib.hid hz2'
    clear hi hz0 hz1' hz2'
    obtain ⟨e, he⟩ : ∃ e, e = dayE f t := ⟨_, rfl⟩
    have hE := he
    unfold dayE at hE
    rw [← he]
    have e1 : 0 ≤ e ∧ e ≤ 2880 := by split at hE <;> omega
    obtain ⟨e1, e2⟩ := e1
    have ED := Lib.hid hE
    clear he hE
    obtain ⟨mk, rfl⟩ := Int.eq_ofNat_of_zero_le m1
    have NRM := Lib.hid (fun w A c l hl hA => snorm_any w A c l hl hA)
    by_cases htf : t ≤ f
    · have ED := Lib.hid (ED.out.trans (if_pos htf))
      go_enter Try.func30, Try.ntmps30
      go_wp2_with fail
      refine (W1.out _).mono ?_
      rintro e w' ⟨rfl, rfl⟩
      go_wp2_with fail
      refine (W2.out _).mono ?_
      rintro e w' ⟨rfl, rfl⟩
      go_wp2_with fail
      refine (W3.out _).mono ?_
      rintro e w' ⟨rfl, rfl⟩
      go_wp2_with fail
      rw [← ED.out]
      go_loopw [7, 29] (fun v i wr => ∃ k : Nat, i = .int .i64 k ∧ k ≤ 7 ∧ OwnS wr w.heap.size v (dayL mk f e k) ∧ Below w.heap.size w wr) (fun _ i _ => 7 - (intOf i).toNat)
      case atStart => exact ⟨0, rfl, Nat.zero_le _, World.ownsRow_nil _ _ _ _, Below.refl _ _⟩
      case round =>
        obtain ⟨k, rfl, hk, hown, hb⟩ := hrel
        have O := Lib.hid hown
        have B := Lib.hid hb
        have hz := hb.size
        clear hown hb
        by_cases hlt : k < 7
        · cases hbit : bitB mk k with
          | false =>
            have bt := bit_and mk k _ hbit
            have DL := Lib.hid (dayL_no (f := f) (e := e) hbit)
            clear hbit
            go_wp2_with fail
            clear bt
            go_roundw
            case rel => exact ⟨k + 1, by go_num, hlt, by rw [DL.out]; exact O.out, B.out⟩
            case measure => simp [intOf]; omega
          | true =>
            have bt := bit_and mk k _ hbit
            have DL := Lib.hid (dayL_yes (f := f) (e := e) hbit)
            have LN := Lib.hid (dayL_len mk f e k)
            clear hbit
            have hown := O.out.alloc (Obj.cells #[.int .i64 ((k : Int) * 1440 + f), .int .i64 (min ((k : Int) * 1440 + e) 10080), .int .i64 0, .int .i64 ((k : Int) * 1440 + e - 10080)] 37)
            have H4 := Lib.hid (sfour_cells wr (.int .i64 ((k : Int) * 1440 + f)) (.int .i64 (min ((k : Int) * 1440 + e) 10080)) (.int .i64 0) (.int .i64 ((k : Int) * 1440 + e - 10080)) 37)
            go_wp2_with (at_builtin; refine wpList_append_own _ rfl (.tmp 45) (.tmp 53) 22 rfl w.heap.size 37 i0 _ 2 16 Try.underlying22 HI0.out HI1.out HI2.out HI3.out rfl (by decide) _ _ _ rfl hown ⟨wr.heap.size, 0, none⟩ 2 2 [.int .i64 ((k : Int) * 1440 + f), .int .i64 (min ((k : Int) * 1440 + e) 10080), .int .i64 0, .int .i64 ((k : Int) * 1440 + e - 10080)] rfl rfl H4.out ?c2 ?c3 ?c4 ?c5 ?_)
            case c2 => intro u hu; simp at hu; rcases hu with rfl | rfl | rfl | rfl <;> rfl
            case c3 => unfold maxLen; have := LN.out; omega
            case c4 => have := LN.out; omega
            case c5 => exact Nat.le_trans hz (World.grownBy_alloc _ _ none).size
            intro v' w4 hown' hgrow hxx
            have B4 := Lib.hid ((B.out.alloc hz _).grown hgrow (Nat.le_trans hz (World.grownBy_alloc _ _ none).size) (fun q hq => (hown.lt q hq).1))
            have O4 := Lib.hid (show OwnS w4 w.heap.size v' (dayL mk f e (k + 1)) by
              rw [DL.out]; unfold OwnS; rw [flS_append, List.length_append]; exact hown')
            clear hown' hgrow hxx hown bt
            go_wp2_with fail
            go_roundw
            case rel => exact ⟨k + 1, by go_num, hlt, O4.out, B4.out⟩
            case measure => simp [intOf]; omega
        · obtain rfl : k = 7 := by omega
          obtain ⟨A, c, hv, hs⟩ := ownS_at O.out (dayL_small mk f e ⟨f1, f2⟩ ⟨e1, e2⟩ 7 (Nat.le_refl _))
          subst hv
          have SP := Lib.hid hs
          have LN := dayL_len mk f e 7
          clear hs
          go_wp2_with fail
          refine (NRM.out _ A c _ (by omega) SP.out).mono ?_
          rintro e5 w5 ⟨A2, c2, F, rfl, hs, hn, hb⟩
          have H := Lib.hid (And.intro hs (And.intro hn (B.out.trans (hb.mono hz))))
          clear hs hn hb
          go_wp2_with fail
          go_ret
          exact ⟨A2, c2, F, rfl, H.out⟩
    · have ED := Lib.hid (ED.out.trans (if_neg htf))
      obtain rfl := ED.out
      go_enter Try.func30, Try.ntmps30
      go_wp2_with fail
      refine (W1.out _).mono ?_
      rintro e w' ⟨rfl, rfl⟩
      go_wp2_with fail
      refine (W2.out _).mono ?_
      rintro e w' ⟨rfl, rfl⟩
      go_wp2_with fail
      refine (W3.out _).mono ?_
      rintro e w' ⟨rfl, rfl⟩
      go_wp2_with fail
      go_loopw [7, 29] (fun v i wr => ∃ k : Nat, i = .int .i64 k ∧ k ≤ 7 ∧ OwnS wr w.heap.size v (dayL mk f e k) ∧ Below w.heap.size w wr) (fun _ i _ => 7 - (intOf i).toNat)
      case atStart => exact ⟨0, rfl, Nat.zero_le _, World.ownsRow_nil _ _ _ _, Below.refl _ _⟩
      case round =>
        obtain ⟨k, rfl, hk, hown, hb⟩ := hrel
        have O := Lib.hid hown
        have B := Lib.hid hb
        have hz := hb.size
        clear hown hb
        by_cases hlt : k < 7
        · cases hbit : bitB mk k with
          | false =>
            have bt := bit_and mk k _ hbit
            have DL := Lib.hid (dayL_no (f := f) (e := e) hbit)
            clear hbit
            go_wp2_with fail
            clear bt
            go_roundw
            case rel => exact ⟨k + 1, by go_num, hlt, by rw [DL.out]; exact O.out, B.out⟩
            case measure => simp [intOf]; omega
          | true =>
            have bt := bit_and mk k _ hbit
            have DL := Lib.hid (dayL_yes (f := f) (e := e) hbit)
            have LN := Lib.hid (dayL_len mk f e k)
            clear hbit
            have hown := O.out.alloc (Obj.cells #[.int .i64 ((k : Int) * 1440 + f), .int .i64 (min ((k : Int) * 1440 + e) 10080), .int .i64 0, .int .i64 ((k : Int) * 1440 + e - 10080)] 37)
            have H4 := Lib.hid (sfour_cells wr (.int .i64 ((k : Int) * 1440 + f)) (.int .i64 (min ((k : Int) * 1440 + e) 10080)) (.int .i64 0) (.int .i64 ((k : Int) * 1440 + e - 10080)) 37)
            go_wp2_with (at_builtin; refine wpList_append_own _ rfl (.tmp 45) (.tmp 53) 22 rfl w.heap.size 37 i0 _ 2 16 Try.underlying22 HI0.out HI1.out HI2.out HI3.out rfl (by decide) _ _ _ rfl hown ⟨wr.heap.size, 0, none⟩ 2 2 [.int .i64 ((k : Int) * 1440 + f), .int .i64 (min ((k : Int) * 1440 + e) 10080), .int .i64 0, .int .i64 ((k : Int) * 1440 + e - 10080)] rfl rfl H4.out ?c2 ?c3 ?c4 ?c5 ?_)
            case c2 => intro u hu; simp at hu; rcases hu with rfl | rfl | rfl | rfl <;> rfl
            case c3 => unfold maxLen; have := LN.out; omega
            case c4 => have := LN.out; omega
            case c5 => exact Nat.le_trans hz (World.grownBy_alloc _ _ none).size
            intro v' w4 hown' hgrow hxx
            have B4 := Lib.hid ((B.out.alloc hz _).grown hgrow (Nat.le_trans hz (World.grownBy_alloc _ _ none).size) (fun q hq => (hown.lt q hq).1))
            have O4 := Lib.hid (show OwnS w4 w.heap.size v' (dayL mk f e (k + 1)) by
              rw [DL.out]; unfold OwnS; rw [flS_append, List.length_append]; exact hown')
            clear hown' hgrow hxx hown bt
            go_wp2_with fail
            go_roundw
            case rel => exact ⟨k + 1, by go_num, hlt, O4.out, B4.out⟩
            case measure => simp [intOf]; omega
        · obtain rfl : k = 7 := by omega
          obtain ⟨A, c, hv, hs⟩ := ownS_at O.out (dayL_small mk f e ⟨f1, f2⟩ ⟨e1, e2⟩ 7 (Nat.le_refl _))
          subst hv
          have SP := Lib.hid hs
          have LN := dayL_len mk f e 7
          clear hs
          go_wp2_with fail
          refine (NRM.out _ A c _ (by omega) SP.out).mono ?_
          rintro e5 w5 ⟨A2, c2, F, rfl, hs, hn, hb⟩
          have H := Lib.hid (And.intro hs (And.intro hn (B.out.trans (hb.mono hz))))
          clear hs hn hb
          go_wp2_with fail
          go_ret
          exact ⟨A2, c2, F, rfl, H.out⟩

def inR (b k i : Int) : Bool := (decide (b ≤ i) && decide (i < b + k)) || (decide (b ≤ i + 10080) && decide (i + 10080 < b + k))
theorem inR_none (b i : Int) : inR b 0 i = false := by
  unfold inR
  by_cases c : b ≤ i
  · rw [decide_eq_false (show ¬ i < b + 0 by omega)]; by_cases c2 : b ≤ i + 10080
    · rw [decide_eq_false (show ¬ i + 10080 < b + 0 by omega)]; simp
    · rw [decide_eq_false c2]; simp
  · rw [decide_eq_false c]; by_cases c2 : b ≤ i + 10080
    · rw [decide_eq_false (show ¬ i + 10080 < b + 0 by omega)]; simp
    · rw [decide_eq_false c2]; simp
theorem inR_step (b k i : Int) (hb : 0 ≤ b) (hk : 0 ≤ k) (hbk : b + k < 20160) (hi : 0 ≤ i) (hi2 : i < 10080) : inR b (k + 1) i = if i = (b + k) % 10080 then true else inR b k i := by
  unfold inR
  by_cases e : i = (b + k) % 10080
  · rw [if_pos e, Bool.or_eq_true_iff.2]
    by_cases c : b + k < 10080
    · left; simp; omega
    · right; simp; omega
  · rw [if_neg e, Bool.eq_iff_iff]; simp; omega
theorem inR_end (d f e i : Int) (hd : 0 ≤ d ∧ d ≤ 6) (hf : 0 ≤ f ∧ f ≤ 1440) (he : f < e ∨ (f = e)) (he2 : e ≤ 2880) (hi : 0 ≤ i) (hi2 : i < 10080) :
    inR (d * 1440 + f) (e - f) i = inS [(d * 1440 + f, min (d * 1440 + e) 10080), (0, d * 1440 + e - 10080)] i := by
  unfold inR
  simp only [inS, Bool.or_false]
  rw [Bool.eq_iff_iff, Bool.or_eq_true, Bool.or_eq_true, inO_iff, inO_iff]
  simp only [Bool.and_eq_true, decide_eq_true_eq]
  constructor
  · intro h; omega
  · intro h; omega

set_option maxRecDepth 100000 in
set_option maxHeartbeats 4000000 in
theorem rdaily_any (mask f t : Int) (w : World) :
    Calls Try.prog 31 #[.int .i64 mask, .int .i64 f, .int .i64 t] w (OutNf w (dayS mask f t)) := by
  by_cases hok : dayOk mask f t
  case neg =>
    have E := Lib.hid (show dayS mask f t = fun _ => false by funext m; unfold dayS; rw [if_neg hok])
    unfold dayOk at hok
    rw [E.out]
    clear E
    by_cases h1 : mask < 0
    · clear hok
      go_enter Try.func31, Try.ntmps31
      go_wp2_with fail
      go_ret
      exact OutNf.nil _
    by_cases h2 : 127 < mask
    · clear hok
      go_enter Try.func31, Try.ntmps31
      go_wp2_with fail
      go_ret
      exact OutNf.nil _
    by_cases h3 : f < 0
    · clear hok
      go_enter Try.func31, Try.ntmps31
      go_wp2_with fail
      go_ret
      exact OutNf.nil _
    by_cases h4 : 1440 < f
    · clear hok
      go_enter Try.func31, Try.ntmps31
      go_wp2_with fail
      go_ret
      exact OutNf.nil _
    by_cases h5 : t < 0
    · clear hok
      go_enter Try.func31, Try.ntmps31
      go_wp2_with fail
      go_ret
      exact OutNf.nil _
    by_cases h6 : 1440 < t
    · clear hok
      go_enter Try.func31, Try.ntmps31
      go_wp2_with fail
      go_ret
      exact OutNf.nil _
    exact absurd ⟨⟨by omega, by omega⟩, ⟨by omega, by omega⟩, by omega, by omega⟩ hok
  case pos =>
    have E := Lib.hid (show dayS mask f t = inS (dayL mask f (dayE f t) 7) by funext m; unfold dayS; rw [if_pos hok])
    obtain ⟨⟨m1, m2⟩, ⟨f1, f2⟩, t1, t2⟩ := hok
    rw [E.out]
    clear E
    obtain ⟨e, he⟩ : ∃ e, e = dayE f t := ⟨_, rfl⟩
    have hE := he
    unfold dayE at hE
    rw [← he]
    have e1 : f ≤ e ∧ e ≤ 2880 := by split at hE <;> omega
    obtain ⟨e1, e2⟩ := e1
    have ED := Lib.hid hE
    clear he hE
    obtain ⟨mk, rfl⟩ := Int.eq_ofNat_of_zero_le m1
    have k1 := df (show ¬ (mk : Int) < 0 by omega)
    have k2 := df (show ¬ 127 < (mk : Int) by omega)
    have k3 := df (show ¬ f < 0 by omega)
    have k4 := df (show ¬ 1440 < f by omega)
    have k5 := df (show ¬ t < 0 by omega)
    have k6 := df (show ¬ 1440 < t by omega)
    obtain ⟨w1, hmk, hrow, hb1⟩ := make_week w
    have R1 := Lib.hid hrow
    have B1 := Lib.hid hb1
    have hz1 := hb1.size
    clear hrow hb1
    by_cases htf : t ≤ f
    · have ED := Lib.hid (ED.out.trans (if_pos htf))
      have ed := ED.out
      obtain ⟨ln, hln⟩ := Int.eq_ofNat_of_zero_le (show 0 ≤ e - f by omega)
      have LE := Lib.hid hln
      have ln2 : ln ≤ 2880 := by omega
      have L2 := Lib.hid (show t - f + 1440 = (ln : Int) by omega)
      clear ed
      clear hln
      go_enter Try.func31, Try.ntmps31
      go_wp2_with fail
      rw [L2.out]
      go_loopw [9] (fun i wr => ∃ d : Nat, i = .int .i64 d ∧ d ≤ 7 ∧ MinRow wr w.heap.size (inS (dayL mk f e d)) ∧ Below w.heap.size w wr) (fun i _ => 7 - (intOf i).toNat)
      case atStart => exact ⟨0, rfl, Nat.zero_le _, R1.out, B1.out⟩
      case round =>
        obtain ⟨d, rfl, hd, hrow, hb⟩ := hrel
        have R := Lib.hid hrow
        have B := Lib.hid hb
        have hz := hb.size
        clear hrow hb
        by_cases hlt : d < 7
        · cases hbit : bitB mk d with
          | false =>
            have bt := bit_rem mk d _ hbit
            have DL := Lib.hid (dayL_no (f := f) (e := e) hbit)
            clear hbit
            go_wp2_with fail
            clear bt
            go_roundw
            case rel => exact ⟨d + 1, by go_num, hlt, by rw [DL.out]; exact R.out, B.out⟩
            case measure => simp [intOf]; omega
          | true =>
            have bt := bit_rem mk d _ hbit
            have DL := Lib.hid (dayL_yes (f := f) (e := e) hbit)
            clear hbit
            have d7 := dt (show (d : Int) < 7 by omega)
            go_wp2_with fail
            go_loopw [10] (fun i wr => ∃ k : Nat, i = .int .i64 k ∧ k ≤ ln ∧ MinRow wr w.heap.size (fun i => inS (dayL mk f e d) i || inR ((d : Int) * 1440 + f) k i) ∧ Below w.heap.size w wr) (fun i _ => ln - (intOf i).toNat)
            case atStart => exact ⟨0, rfl, Nat.zero_le _, R.out.same fun i _ => by rw [show ((0 : Nat) : Int) = 0 from rfl, inR_none, Bool.or_false], B.out⟩
            case round =>
              obtain ⟨k, rfl, hk, hrow, hb⟩ := hrel
              have B := Lib.hid hb
              have hz := hb.size
              by_cases hlk : k < ln
              · obtain ⟨q, hq⟩ := Int.eq_ofNat_of_zero_le (show 0 ≤ ((d : Int) * 1440 + f + (k : Int)) % 10080 by omega)
                have hq2 : q < 10080 := by omega
                have hq3 : (q : Int) < 10080 := by omega
                have cq := hrow.cell (i := q) hq2
                have fq := hrow.frozen q
                have RM := Lib.hid (fun w => rminute_any w ((d : Int) * 1440 + f + (k : Int)))
                have LE2 := LE.out
                have R2 := Lib.hid (show MinRow (wr.setCell ⟨w.heap.size, q, none⟩ (.bool true)) w.heap.size (fun i => inS (dayL mk f e d) i || inR ((d : Int) * 1440 + f) ((k + 1 : Nat) : Int) i) from
                  (hrow.setTrue q).same fun i hi => by
                    rw [show ((k + 1 : Nat) : Int) = (k : Int) + 1 from rfl, inR_step ((d : Int) * 1440 + f) k i (by omega) (by omega) (by omega) (by omega) (by omega), hq]
                    by_cases c : (i : Int) = q
                    · rw [if_pos c, if_pos c, Bool.or_true]
                    · rw [if_neg c, if_neg c])
                rw [hq] at RM
                have B2 := Lib.hid (hb.setCell (p := ⟨w.heap.size, q, none⟩) (Nat.le_refl _) (.bool true))
                clear hrow hb hq LE2
                go_wp2_with fail
                refine (RM.out _).mono ?_
                rintro e5 w5 ⟨rfl, rfl⟩
                go_wp2_with fail
                go_roundw
                case rel => exact ⟨k + 1, by go_num, hlk, R2.out, B2.out⟩
                case measure => simp [intOf]; omega
              · obtain rfl : k = ln := by omega
                have R2 := Lib.hid (show MinRow wr w.heap.size (inS (dayL mk f e (d + 1))) from hrow.same fun i hi => by
                  rw [DL.out, inS_append, ← LE.out, inR_end d f e i (by omega) ⟨f1, f2⟩ (by omega) e2 (by omega) (by omega)])
                clear hrow hb
                go_wp2_with fail
                go_roundw
                case rel => exact ⟨d + 1, by go_num, hlt, R2.out, B.out⟩
                case measure => simp [intOf]; omega
        · obtain rfl : d = 7 := by omega
          have SP := Lib.hid (rspans_any wr w.heap.size _ R.out)
          go_wp2_with fail
          refine SP.out.mono ?_
          rintro e5 w5 ⟨A2, c2, F, rfl, hs, hn, hb⟩
          have H := Lib.hid (And.intro hs (And.intro (hn.congr fun m => in_range _ m) (B.out.trans (hb.mono hz))))
          clear hs hn hb
          go_wp2_with fail
          go_ret
          exact ⟨A2, c2, F, rfl, H.out⟩
    · have ED := Lib.hid (ED.out.trans (if_neg htf))
      have ed := ED.out
      obtain ⟨ln, hln⟩ := Int.eq_ofNat_of_zero_le (show 0 ≤ e - f by omega)
      have LE := Lib.hid hln
      have ln2 : ln ≤ 2880 := by omega
      have L2 := Lib.hid (show t - f = (ln : Int) by omega)
      clear ed
      clear hln
      go_enter Try.func31, Try.ntmps31
      go_wp2_with fail
      rw [L2.out]
      go_loopw [9] (fun i wr => ∃ d : Nat, i = .int .i64 d ∧ d ≤ 7 ∧ MinRow wr w.heap.size (inS (dayL mk f e d)) ∧ Below w.heap.size w wr) (fun i _ => 7 - (intOf i).toNat)
      case atStart => exact ⟨0, rfl, Nat.zero_le _, R1.out, B1.out⟩
      case round =>
        obtain ⟨d, rfl, hd, hrow, hb⟩ := hrel
        have R := Lib.hid hrow
        have B := Lib.hid hb
        have hz := hb.size
        clear hrow hb
        by_cases hlt : d < 7
        · cases hbit : bitB mk d with
          | false =>
            have bt := bit_rem mk d _ hbit
            have DL := Lib.hid (dayL_no (f := f) (e := e) hbit)
            clear hbit
            go_wp2_with fail
            clear bt
            go_roundw
            case rel => exact ⟨d + 1, by go_num, hlt, by rw [DL.out]; exact R.out, B.out⟩
            case measure => simp [intOf]; omega
          | true =>
            have bt := bit_rem mk d _ hbit
            have DL := Lib.hid (dayL_yes (f := f) (e := e) hbit)
            clear hbit
            have d7 := dt (show (d : Int) < 7 by omega)
            go_wp2_with fail
            go_loopw [10] (fun i wr => ∃ k : Nat, i = .int .i64 k ∧ k ≤ ln ∧ MinRow wr w.heap.size (fun i => inS (dayL mk f e d) i || inR ((d : Int) * 1440 + f) k i) ∧ Below w.heap.size w wr) (fun i _ => ln - (intOf i).toNat)
            case atStart => exact ⟨0, rfl, Nat.zero_le _, R.out.same fun i _ => by rw [show ((0 : Nat) : Int) = 0 from rfl, inR_none, Bool.or_false], B.out⟩
            case round =>
              obtain ⟨k, rfl, hk, hrow, hb⟩ := hrel
              have B := Lib.hid hb
              have hz := hb.size
              by_cases hlk : k < ln
              · obtain ⟨q, hq⟩ := Int.eq_ofNat_of_zero_le (show 0 ≤ ((d : Int) * 1440 + f + (k : Int)) % 10080 by omega)
                have hq2 : q < 10080 := by omega
                have hq3 : (q : Int) < 10080 := by omega
                have cq := hrow.cell (i := q) hq2
                have fq := hrow.frozen q
                have RM := Lib.hid (fun w => rminute_any w ((d : Int) * 1440 + f + (k : Int)))
                have LE2 := LE.out
                have R2 := Lib.hid (show MinRow (wr.setCell ⟨w.heap.size, q, none⟩ (.bool true)) w.heap.size (fun i => inS (dayL mk f e d) i || inR ((d : Int) * 1440 + f) ((k + 1 : Nat) : Int) i) from
                  (hrow.setTrue q).same fun i hi => by
                    rw [show ((k + 1 : Nat) : Int) = (k : Int) + 1 from rfl, inR_step ((d : Int) * 1440 + f) k i (by omega) (by omega) (by omega) (by omega) (by omega), hq]
                    by_cases c : (i : Int) = q
                    · rw [if_pos c, if_pos c, Bool.or_true]
                    · rw [if_neg c, if_neg c])
                rw [hq] at RM
                have B2 := Lib.hid (hb.setCell (p := ⟨w.heap.size, q, none⟩) (Nat.le_refl _) (.bool true))
                clear hrow hb hq LE2
                go_wp2_with fail
                refine (RM.out _).mono ?_
                rintro e5 w5 ⟨rfl, rfl⟩
                go_wp2_with fail
                go_roundw
                case rel => exact ⟨k + 1, by go_num, hlk, R2.out, B2.out⟩
                case measure => simp [intOf]; omega
              · obtain rfl : k = ln := by omega
                have R2 := Lib.hid (show MinRow wr w.heap.size (inS (dayL mk f e (d + 1))) from hrow.same fun i hi => by
                  rw [DL.out, inS_append, ← LE.out, inR_end d f e i (by omega) ⟨f1, f2⟩ (by omega) e2 (by omega) (by omega)])
                clear hrow hb
                go_wp2_with fail
                go_roundw
                case rel => exact ⟨d + 1, by go_num, hlt, R2.out, B.out⟩
                case measure => simp [intOf]; omega
        · obtain rfl : d = 7 := by omega
          have SP := Lib.hid (rspans_any wr w.heap.size _ R.out)
          go_wp2_with fail
          refine SP.out.mono ?_
          rintro e5 w5 ⟨A2, c2, F, rfl, hs, hn, hb⟩
          have H := Lib.hid (And.intro hs (And.intro (hn.congr fun m => in_range _ m) (B.out.trans (hb.mono hz))))
          clear hs hn hb
          go_wp2_with fail
          go_ret
          exact ⟨A2, c2, F, rfl, H.out⟩
end Go.Proofs.Ytnocbgimfmgdeaa
