/- Package mac: Tick, Result. -/
import Derived.Test.YtpfmfnogckeneaaMcX2
import Derived.Test.YtpfmfnogckeneaaMcX4
import Derived.Test.YtpfmfnogckeneaaMcC
set_option linter.unusedVariables false
namespace Go.Proofs.Ytpfmfnogckeneaa.Mcq
open Go.RowKit
open Mbx (Fm zf fmC fmV FOk fF)

theorem own_sdc {w : World} {B g cap : Nat} {l : List Sd} (h : OwnS w B (.slice (some ⟨g, 0, none⟩) l.length cap) l) (i : Nat) (hi : i < l.length) : SdC w g (i * 11) l[i] :=
  ⟨h.cell i hi 0 (by decide), h.cell i hi 1 (by decide), h.cell i hi 2 (by decide), h.cell i hi 3 (by decide), h.cell i hi 4 (by decide), h.cell i hi 5 (by decide), h.cell i hi 6 (by decide), h.cell i hi 7 (by decide), h.cell i hi 8 (by decide), h.cell i hi 9 (by decide), h.cell i hi 10 (by decide)⟩
set_option maxRecDepth 100000 in
set_option maxHeartbeats 2000000 in
theorem ptick_own (A : Option Addr) (c : Nat) (l : List Sd) (w : World) (hl : l.length ≤ 1000000) (hA : SdS w A c l) :
    Calls Try.prog 17 #[.slice A l.length c] w (OutS w (tick l)) := by
  have K1 := Lib.hid (pcopied_any A c l w hl hA)
  have LM := take_len l
  have OK : ∀ x ∈ l.take 16, fS.ok x := fun x hx => hA.1.ok x (List.mem_of_mem_take hx)
  have E : tick l = (l.take 16).map tk := rfl
  clear hA
  generalize tick l = F at *
  generalize l.take 16 = m at *
  have GE := Lib.hid (show tkU m m.length = F from (tkU_end m).trans E.symm)
  have G0 := Lib.hid (tkU_zero m)
  have GL := Lib.hid (fun k => tkU_len m k)
  have GS := Lib.hid (fun k h => tkU_set m k h)
  have GZ := Lib.hid (fun k h e => tkU_same m k h e)
  have GA := Lib.hid (fun (k : Nat) (h : k < m.length) (h' : k < (tkU m k).length) => (show (tkU m k)[k] = m[k] from by rw [tkU_at, if_neg (Nat.lt_irrefl _)]))
  have HO := Lib.hid OK
  clear E OK
  unfold OutS at K1
  generalize tkU m = G at *
  go_enter Try.func17, Try.ntmps17
  go_wp2_with fail
  refine K1.out.mono ?_
  rintro _ w1 ⟨v, rfl, ho, hb⟩
  obtain ⟨A1, c1, rfl, _⟩ := ho.form
  have B1 := Lib.hid hb
  have O1 := Lib.hid ho
  clear hb ho K1
  go_wp2_with fail
  go_loopw [10] (fun vk wr => ∃ k : Nat, vk = .int .i64 k ∧ k ≤ m.length ∧ Hid (OwnS wr w.heap.size (.slice A1 m.length c1) (G k)) ∧ Below w.heap.size w wr) (fun vk _ => m.length - (intOf vk).toNat)
  case atStart => exact ⟨0, rfl, Nat.zero_le _, Lib.hid (by rw [G0.out]; exact O1.out), B1.out⟩
  case round =>
    obtain ⟨k, rfl, hk, O, hb⟩ := hrel
    have B := Lib.hid hb
    clear hb O1 B1
    by_cases hlt : k < m.length
    · have hGk : k < (G k).length := by rw [GL.out]; exact hlt
      have LG := GL.out k
      have O' : OwnS wr w.heap.size (.slice A1 (G k).length c1) (G k) := by rw [LG]; exact O.out
      obtain ⟨g, cap, e0, hB, hg⟩ := O'.at (fun e => by rw [e] at hGk; simp at hGk)
      simp only [Value.slice.injEq, true_and] at e0
      obtain ⟨rfl, rfl⟩ := e0
      obtain ⟨V, hV, TH, XV, BV⟩ := boxed wr m[k]
      have RA := Lib.hid (own_sdc O' k hGk).range
      rw [GA.out k hlt hGk] at RA
      have TH := Lib.hid TH
      have OV : OwnS V w.heap.size (.slice (some ⟨g, 0, none⟩) (G k).length c1) (G k) := OwnF.below O' BV
      have B2 := Lib.hid (B.out.trans (BV.mono B.out.size))
      have e10 := blk_cell XV 10 (v := .int .i64 m[k].2.2) rfl
      have c10 : V.cell? ⟨g, k * 11 + 10, none⟩ = some (.int .i64 m[k].2.2) := by
        have := OV.cell k hGk 10 (by decide)
        rw [GA.out k hlt hGk] at this
        exact this
      have f10 : V.frozen? ⟨g, k * 11 + 10, none⟩ = false := OV.fr _
      have hok := HO.out _ (List.getElem_mem hlt)
      have hz := hok.2.2
      have R := Lib.hid (GZ.out k hlt)
      have OS := Lib.hid (fun (e : 0 < m[k].2.2) => (show OwnS (V.setCell ⟨g, k * 11 + 10, none⟩ (.int .i64 (m[k].2.2 - 1))) w.heap.size (.slice (some ⟨g, 0, none⟩) m.length c1) (G (k + 1)) by
        have q := own_self OV k hGk
        rw [GA.out k hlt hGk] at q
        have := own_over q hGk 10 (by decide) (.int .i64 (m[k].2.2 - 1)) (tk m[k]) (by unfold tk; rw [if_pos e]; rfl) (by unfold tk; rw [if_pos e]; exact ⟨hok.1, hok.2.1, by unfold I64 at hz ⊢; dsimp only; omega⟩)
        rw [← GS.out k hlt, LG] at this
        exact this))
      have BS := Lib.hid (show ∀ v, Below w.heap.size w (V.setCell ⟨g, k * 11 + 10, none⟩ v) from fun v => B2.out.setCell hB v)
      have OV := Lib.hid (show OwnS V w.heap.size (.slice (some ⟨g, 0, none⟩) m.length c1) (G k) by rw [← LG]; exact OV)
      clear BV XV O O' GS GZ GA HO GE LG hGk
      obtain ⟨x, hx⟩ : ∃ x, m[k] = x := ⟨_, rfl⟩
      rw [hx] at RA hV e10 c10 hok hz R OS
      clear hx
      obtain ⟨⟨x0, x1, x2, x3, x4, x5, x6, x7, x8⟩, x9, x10⟩ := x
      simp only at RA hV e10 c10 hz R OS
      clear hok
      by_cases e : 0 < x10
      · have OS := Lib.hid (OS.out e)
        have BS := Lib.hid (BS.out (.int .i64 (x10 - 1)))
        have d1 := dt e
        have s1 : IntKind.i64.wrap (x10 - 1) = x10 - 1 := by unfold I64 at hz; rw [IntKind.wrap_i64]; omega
        clear hz R e
        go_wp2_with (first | (refine wpList_load_mid rfl 42 _ rfl g (k * 11) rfl _ _ RA.out Try.underlying42 rfl (by kernel_rfl) ?_) | (refine wpList_store_mid rfl _ _ _ rfl wr.heap.size (0) #[.int .i64 x0, .int .i64 x1, .int .i64 x2, .int .i64 x3, .int .i64 x4, .int .i64 x5, .int .i64 x6, .bool x7, .string x8, .int .i64 x9, .int .i64 x10] rfl rfl TH.out (by kernel_rfl) (one_s (⟨x0, x1, x2, x3, x4, x5, x6, x7, x8⟩, x9, x10)) ?_; rw [hV]) | fail)
        go_roundw
        case rel => exact ⟨k + 1, by go_num, hlt, OS, BS.out⟩
        case measure => first | (simp [intOf]; done) | (simp [intOf]; omega)
      · have d1 := df e
        have R := Lib.hid (R.out (by omega))
        clear hz OS BS e
        go_wp2_with (first | (refine wpList_load_mid rfl 42 _ rfl g (k * 11) rfl _ _ RA.out Try.underlying42 rfl (by kernel_rfl) ?_) | (refine wpList_store_mid rfl _ _ _ rfl wr.heap.size (0) #[.int .i64 x0, .int .i64 x1, .int .i64 x2, .int .i64 x3, .int .i64 x4, .int .i64 x5, .int .i64 x6, .bool x7, .string x8, .int .i64 x9, .int .i64 x10] rfl rfl TH.out (by kernel_rfl) (one_s (⟨x0, x1, x2, x3, x4, x5, x6, x7, x8⟩, x9, x10)) ?_; rw [hV]) | fail)
        go_roundw
        case rel => exact ⟨k + 1, by go_num, hlt, Lib.hid (by rw [R.out]; exact OV.out), B2.out⟩
        case measure => first | (simp [intOf]; done) | (simp [intOf]; omega)
    · have e : k = m.length := by omega
      subst e
      have O2 := Lib.hid (show OwnS wr w.heap.size (.slice A1 m.length c1) F by rw [← GE.out]; exact O.out)
      clear GS GZ GA GE O HO
      go_wp2_with fail
      go_ret
      exact ⟨_, rfl, O2.out, B.out⟩

theorem af_fl {x : Sd} (h : ¬ 7 ≤ pos x.2.1) : af x = fl x := by
  have hp : pos x.2.1 = if x.2.1 < 0 then 0 else x.2.1 := rfl
  have e1 : min (max x.2.1 0) 7 = pos x.2.1 := by rw [hp] at h ⊢; split at h <;> simp only [*, if_true, if_false] <;> omega
  have e2 : min (pos x.2.1 + 1) 4 = if 4 < pos x.2.1 + 1 then 4 else pos x.2.1 + 1 := by split <;> omega
  unfold af fl
  rw [e1, e2]
theorem af_t (x : Sd) : (af x).2.1 = 8 ↔ 7 ≤ pos x.2.1 := by
  have hp : pos x.2.1 = if x.2.1 < 0 then 0 else x.2.1 := rfl
  unfold af
  dsimp only
  rw [hp]
  split <;> omega
theorem af_ok {x : Sd} (h : fS.ok x) : fS.ok (af x) := by
  refine ⟨h.1, ?_, ?_⟩
  · unfold af I64; dsimp only; omega
  · unfold af I64; dsimp only; split <;> omega
set_option maxRecDepth 100000 in
set_option maxHeartbeats 4000000 in
theorem pres_own (A : Option Addr) (c : Nat) (l : List Sd) (i : Int) (ok : Bool) (w : World) (hl : l.length ≤ 1000000) (hi : I64 i) (hA : SdS w A c l) :
    Calls Try.prog 13 #[.slice A l.length c, .int .i64 i, .bool ok] w (SbR w (res l i ok)) := by
  have K1 := Lib.hid (pcopied_any A c l w hl hA)
  have LM := take_len l
  have OK := Lib.hid (show ∀ x ∈ l.take 16, fS.ok x from fun x hx => hA.1.ok x (List.mem_of_mem_take hx))
  have RN := Lib.hid (fun h => res_no (l := l) (i := i) (ok := ok) h)
  have RO := Lib.hid (fun (n : Nat) (e : i = n) (h : n < (l.take 16).length) (h2 : ok = true ∨ 7 ≤ pos ((l.take 16)[n]).2.1) => (show res l i ok = ((l.take 16).eraseIdx n, !ok) from by subst e; exact res_out h h2))
  have RF := Lib.hid (fun (n : Nat) (e : i = n) (h : n < (l.take 16).length) (h1 : ok = false) (h2 : ¬ 7 ≤ pos ((l.take 16)[n]).2.1) => (show res l i ok = ((l.take 16).set n (fl ((l.take 16)[n])), false) from by subst e; exact res_fl h h1 h2))
  clear hA
  generalize res l i ok = X at *
  generalize l.take 16 = m at *
  unfold OutS at K1
  go_enter Try.func13, Try.ntmps13
  go_wp2_with fail
  refine K1.out.mono ?_
  rintro _ w1 ⟨v, rfl, ho, hb⟩
  obtain ⟨A1, c1, rfl, hs, hc1, hn1⟩ := ho.read
  have B1 := Lib.hid hb
  have O1 := Lib.hid ho
  have S1 := Lib.hid (show SdS w1 A1 c1 m from ⟨hs, hc1, hn1⟩)
  clear hb ho K1 hs hc1 hn1
  by_cases h1 : i < 0
  · have R := Lib.hid (RN.out (Or.inl h1))
    have d1 := dt h1
    clear RN RO RF
    go_wp2_with fail
    rw [R.out]
    go_ret2
    exact ⟨_, _, rfl, S1.out, B1.out⟩
  have d1 := df h1
  obtain ⟨n, rfl⟩ : ∃ n : Nat, i = n := ⟨i.toNat, by omega⟩
  by_cases h2 : m.length ≤ n
  · have R := Lib.hid (RN.out (Or.inr (by omega)))
    have d2 := dt (show (m.length : Int) ≤ (n : Int) by omega)
    clear RN RO RF
    go_wp2_with fail
    rw [R.out]
    go_ret2
    exact ⟨_, _, rfl, S1.out, B1.out⟩
  have d2 := df (show ¬ (m.length : Int) ≤ (n : Int) by omega)
  have hn : n < m.length := by omega
  have RO := Lib.hid (fun h2 => RO.out n rfl hn h2)
  have RF := Lib.hid (fun h1 h2 => RF.out n rfl hn h1 h2)
  obtain ⟨g, cap, e0, hB, hg⟩ := O1.out.at (fun e => by rw [e] at hn; simp at hn)
  simp only [Value.slice.injEq, true_and] at e0
  obtain ⟨rfl, rfl⟩ := e0
  have RA := Lib.hid (own_sdc O1.out n hn).range
  have hok := OK.out _ (List.getElem_mem hn)
  have KF := Lib.hid (pfail_any m[n] w1)
  have YF := Lib.hid (fun (q : ¬ 7 ≤ pos (m[n]'hn).2.1) => af_fl q)
  have YT := Lib.hid (af_t m[n])
  have YO := Lib.hid (af_ok hok)
  generalize af m[n] = y at *
  obtain ⟨x, hx⟩ : ∃ x, m[n] = x := ⟨_, rfl⟩
  rw [hx] at RA KF YF YT RO RF
  clear hx h1 RN OK hok S1
  obtain ⟨⟨x0, x1, x2, x3, x4, x5, x6, x7, x8⟩, x9, x10⟩ := x
  have T7 := Lib.hid (show 7 ≤ pos x9 ↔ y.2.1 = 8 from YT.out.symm)
  have RO := Lib.hid (fun (h : ok = true ∨ y.2.1 = 8) => RO.out (h.imp id T7.out.2))
  have RF := Lib.hid (fun (h : ok = false) (h2 : ¬ y.2.1 = 8) => (RF.out h (by have := T7.out; have q : ¬ 7 ≤ pos x9 := fun q => h2 (this.1 q); first | exact q | (show pos x9 < 7; omega))).trans (by rw [← YF.out (by have := T7.out; have q : ¬ 7 ≤ pos x9 := fun q => h2 (this.1 q); first | exact q | (show pos x9 < 7; omega))]))
  clear YF YT T7
  simp only at RA KF
  go_wp2_with (first | (refine wpList_load_mid rfl 42 _ rfl g (n * 11) rfl _ _ RA.out Try.underlying42 rfl (by kernel_rfl) ?_) | fail)
  refine KF.out.mono ?_
  rintro _ w2 ⟨rfl, hb⟩
  obtain ⟨V, hV, TH, XV, BV⟩ := boxed w2 y
  have hg2 : g < w2.heap.size := Nat.lt_of_lt_of_le hg hb.size
  have OV := Lib.hid (show OwnS V w.heap.size (.slice (some ⟨g, 0, none⟩) m.length c1) m from OwnF.below (OwnF.below O1.out hb) BV)
  have B2 := B1.out.trans (hb.mono B1.out.size)
  have BW := Lib.hid (B2.trans (BV.mono B2.size))
  have TH := Lib.hid TH
  have RA := Lib.hid (blk_range XV)
  have KD := Lib.hid (pdelete_any (some ⟨g, 0, none⟩) c1 m n w.heap.size V (by omega) hn OV.out)
  have PS := Lib.hid (OwnF.whole OV.out n hn y YO.out)
  have PB := Lib.hid (fun vs => below_setCells hB vs (n * 11) V BW.out)
  have TG := Lib.hid (show V.there g (n * 11) 11 from OwnF.there OV.out n hn)
  have e9 := blk_cell XV 9 (v := .int .i64 y.2.1) rfl
  clear hb B2 BV XV B1 O1 KF YO
  obtain ⟨⟨y0, y1, y2, y3, y4, y5, y6, y7, y8⟩, y9, y10⟩ := y
  simp only at hV RA e9 RO RF PS
  go_upto_region 5 with (first | (refine wpList_store_mid rfl _ _ _ rfl w2.heap.size (0) #[.int .i64 y0, .int .i64 y1, .int .i64 y2, .int .i64 y3, .int .i64 y4, .int .i64 y5, .int .i64 y6, .bool y7, .string y8, .int .i64 y9, .int .i64 y10] rfl rfl TH.out (by kernel_rfl) (one_s (⟨y0, y1, y2, y3, y4, y5, y6, y7, y8⟩, y9, y10)) ?_; rw [hV]) | fail)
  clear hV TH
  have s2 : IntKind.i64.wrap ((n : Int) + 1) = (n : Int) + 1 := by rw [IntKind.wrap_i64]; omega
  have GB := Lib.hid (fun (w3 : World) (hg : V.grownBy w3 (Value.slice (some ⟨g, 0, none⟩) m.length c1).ownBlock) => (show Below w.heap.size w w3 from BW.out.trans (gr_below hg (fun k e => by simp only [Value.ownBlock, Option.some.injEq] at e; omega) BW.out.size)))
  cases ok with
  | true =>
    have R := Lib.hid (RO.out (Or.inl rfl))
    clear RO RF PS PB RA OV
    go_wp2_with fail
    refine KD.out.mono ?_
    rintro _ w3 ⟨rfl, ho, hg3⟩
    have B3 := Lib.hid (GB.out w3 hg3)
    have S3 := Lib.hid ho.slS
    clear ho hg3 KD GB
    go_wp2_with fail
    rw [R.out]
    obtain ⟨A3, c3, e3, S3⟩ := S3.out
    simp only [Value.slice.injEq, true_and] at e3
    obtain ⟨rfl, rfl⟩ := e3
    go_ret2
    exact ⟨_, _, rfl, S3, B3.out⟩
  | false =>
  by_cases h8 : y9 = 8
  · have R := Lib.hid (RO.out (Or.inr h8))
    have d5 : (y9 == 8) = true := by simp [h8]
    clear RO RF PS PB RA OV h8
    go_wp2_with fail
    refine KD.out.mono ?_
    rintro _ w3 ⟨rfl, ho, hg3⟩
    have B3 := Lib.hid (GB.out w3 hg3)
    have S3 := Lib.hid ho.slS
    clear ho hg3 KD GB
    go_wp2_with fail
    rw [R.out]
    obtain ⟨A3, c3, e3, S3⟩ := S3.out
    simp only [Value.slice.injEq, true_and] at e3
    obtain ⟨rfl, rfl⟩ := e3
    go_ret2
    exact ⟨_, _, rfl, S3, B3.out⟩
  · have R := Lib.hid (RF.out rfl h8)
    have d5 : (y9 == 8) = false := beq_false_of_ne h8
    clear RO RF KD GB h8 OV
    go_upto_region 7 with fail
    clear e9
    obtain ⟨V2, hV2⟩ : ∃ V2, V.setCells g (n * 11) (#[.int .i64 y0, .int .i64 y1, .int .i64 y2, .int .i64 y3, .int .i64 y4, .int .i64 y5, .int .i64 y6, .bool y7, .string y8, .int .i64 y9, .int .i64 y10] : Array Value).toList = V2 := ⟨_, rfl⟩
    have P2 := Lib.hid (show Below w.heap.size w V2 by rw [← hV2]; exact PB.out _)
    have P1 := Lib.hid (show OwnS V2 w.heap.size (.slice (some ⟨g, 0, none⟩) m.length c1) (m.set n (⟨y0, y1, y2, y3, y4, y5, y6, y7, y8⟩, y9, y10)) by rw [← hV2]; exact PS.out)
    have SS := Lib.hid P1.out.slS
    obtain ⟨A3, c3, e3, S3⟩ := SS.out
    simp only [Value.slice.injEq, true_and, List.length_set] at e3
    obtain ⟨rfl, rfl⟩ := e3
    have S3 := Lib.hid S3
    clear P1 SS PS PB
    go_wp2_with (first | (refine wpList_load_mid rfl 42 _ rfl w2.heap.size (0) rfl _ _ RA.out Try.underlying42 rfl (by kernel_rfl) ?_) | (refine wpList_store_mid rfl _ _ _ rfl g (n * 11) #[.int .i64 y0, .int .i64 y1, .int .i64 y2, .int .i64 y3, .int .i64 y4, .int .i64 y5, .int .i64 y6, .bool y7, .string y8, .int .i64 y9, .int .i64 y10] rfl rfl TG.out (by kernel_rfl) (one_s (⟨y0, y1, y2, y3, y4, y5, y6, y7, y8⟩, y9, y10)) ?_; rw [hV2]) | fail)
    rw [R.out]
    go_ret2
    refine ⟨some ⟨g, 0, none⟩, c1, ?_, S3.out, P2.out⟩
    rw [List.length_set]
    rfl
end Go.Proofs.Ytpfmfnogckeneaa.Mcq
