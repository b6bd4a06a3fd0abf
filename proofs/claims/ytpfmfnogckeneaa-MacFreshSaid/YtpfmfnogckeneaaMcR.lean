/- The reference's Result. -/
import Derived.Test.YtpfmfnogckeneaaMcC
import Derived.Test.YtpfmfnogckeneaaWh
set_option linter.unusedVariables false
namespace Go.Proofs.Ytpfmfnogckeneaa.Mcq
open Go.RowKit
open Mbx (Fm zf fmC fmV FOk fF)

theorem built_s (x0 x1 x2 x3 x4 x5 x6 : Int) (x7 : Bool) (x8 : ByteArray) (t z : Int) : Try.prog.built 42 [(0, .agg #[.int .i64 x0, .int .i64 x1, .int .i64 x2, .int .i64 x3, .int .i64 x4, .int .i64 x5, .int .i64 x6, .bool x7, .string x8]), (1, .int .i64 t), (2, .int .i64 z)] = some #[.int .i64 x0, .int .i64 x1, .int .i64 x2, .int .i64 x3, .int .i64 x4, .int .i64 x5, .int .i64 x6, .bool x7, .string x8, .int .i64 t, .int .i64 z] := by kernel_rfl
theorem one_s (x : Sd) : (#[.int .i64 x.1.k, .int .i64 x.1.f, .int .i64 x.1.t, .int .i64 x.1.s, .int .i64 x.1.g, .int .i64 x.1.q, .int .i64 x.1.h, .bool x.1.u, .string x.1.d, .int .i64 x.2.1, .int .i64 x.2.2] : Array Value).all (·.oneCell') = true := all_oneCell_toArray (fun v hv => fS.one x v hv)
theorem getD_at (m : List Sd) (k : Nat) (hk : k < m.length) : m.getD k z0 = m[k] := by simp [List.getD, hk]
theorem res_no {l : List Sd} {i : Int} {ok : Bool} (h : i < 0 ∨ (l.take 16).length ≤ i.toNat) : res l i ok = (l.take 16, false) := if_pos h
theorem res_out {l : List Sd} {i : Nat} {ok : Bool} (h : i < (l.take 16).length) (h2 : ok = true ∨ 7 ≤ pos ((l.take 16)[i]).2.1) : res l i ok = ((l.take 16).eraseIdx i, !ok) := by
  unfold res
  rw [if_neg (by omega), if_pos ?_, Int.toNat_natCast]
  rw [Int.toNat_natCast, getD_at _ _ h]
  exact h2.imp_right fun q => by unfold pos at q; split at q <;> omega
theorem res_fl {l : List Sd} {i : Nat} {ok : Bool} (h : i < (l.take 16).length) (h1 : ok = false) (h2 : ¬ 7 ≤ pos ((l.take 16)[i]).2.1) : res l i ok = ((l.take 16).set i (fl ((l.take 16)[i])), false) := by
  have e : (l.take 16).getD i z0 = (l.take 16)[i] := getD_at _ _ h
  unfold res
  rw [if_neg (by omega), if_neg ?_, Int.toNat_natCast, e]
  rw [Int.toNat_natCast, e, h1]
  rintro (q | q)
  · cases q
  · exact h2 (by unfold pos; split <;> omega)
theorem pos_in (n : Int) (h : I64 n) : 0 ≤ pos n ∧ pos n ≤ 9223372036854775807 := by unfold I64 at h; unfold pos; split <;> omega
set_option maxRecDepth 100000 in
set_option maxHeartbeats 4000000 in
theorem rres_any (A : Option Addr) (c : Nat) (l : List Sd) (i : Int) (ok : Bool) (w : World) (hl : l.length ≤ 9223372036854775807) (hA : SdS w A c l) :
    Calls Try.prog 14 #[.slice A l.length c, .int .i64 i, .bool ok] w (SbR w (res l i ok)) := by
  have K1 := Lib.hid (rfirst_any A c l w hl hA.1)
  have LM := take_len l
  have OK := Lib.hid (show ∀ x ∈ l.take 16, fS.ok x from fun x hx => hA.1.ok x (List.mem_of_mem_take hx))
  have RN := Lib.hid (fun h => res_no (l := l) (i := i) (ok := ok) h)
  have RO := Lib.hid (fun (n : Nat) (e : i = n) (h : n < (l.take 16).length) (h2 : ok = true ∨ 7 ≤ pos ((l.take 16)[n]).2.1) => (show res l i ok = ((l.take 16).eraseIdx n, !ok) from by subst e; exact res_out h h2))
  have RF := Lib.hid (fun (n : Nat) (e : i = n) (h : n < (l.take 16).length) (h1 : ok = false) (h2 : ¬ 7 ≤ pos ((l.take 16)[n]).2.1) => (show res l i ok = ((l.take 16).set n (fl ((l.take 16)[n])), false) from by subst e; exact res_fl h h1 h2))
  clear hA
  generalize res l i ok = X at *
  generalize l.take 16 = m at *
  unfold OutS at K1
  go_enter Try.func14, Try.ntmps14
  go_wp2_with fail
  refine K1.out.mono ?_
  rintro _ w1 ⟨v, rfl, ho, hb⟩
  obtain ⟨A1, c1, rfl, hs, hc1, hn1⟩ := ho.read
  have B1 := Lib.hid hb
  have O1 := Lib.hid ho
  have S1 := Lib.hid (show SdS w1 A1 c1 m from ⟨hs, hc1, hn1⟩)
  clear hb ho K1 hs hc1 hn1
  by_cases h1 : i < 0
  · have R := Lib.hid (RN.out (Or.inl h1))
    have d1 := dt h1
    clear RN RO RF
    go_wp2_with fail
    rw [R.out]
    go_ret2
    exact ⟨_, _, rfl, S1.out, B1.out⟩
  have d1 := df h1
  obtain ⟨n, rfl⟩ : ∃ n : Nat, i = n := ⟨i.toNat, by omega⟩
  by_cases h2 : m.length ≤ n
  · have R := Lib.hid (RN.out (Or.inr (by omega)))
    have d2 := dt (show (m.length : Int) ≤ (n : Int) by omega)
    clear RN RO RF
    go_wp2_with fail
    rw [R.out]
    go_ret2
    exact ⟨_, _, rfl, S1.out, B1.out⟩
  have d2 := df (show ¬ (m.length : Int) ≤ (n : Int) by omega)
  have hn : n < m.length := by omega
  have RO := Lib.hid (fun h2 => RO.out n rfl hn h2)
  have RF := Lib.hid (fun h1 h2 => RF.out n rfl hn h1 h2)
  obtain ⟨g, cap, e0, hB, hg⟩ := O1.out.at (fun e => by rw [e] at hn; simp at hn)
  simp only [Value.slice.injEq, true_and] at e0
  obtain ⟨rfl, rfl⟩ := e0
  have q0 : w1.cell? ⟨g, n * 11, none⟩ = some (.int .i64 m[n].1.k) := O1.out.cell n hn 0 (by decide)
  have f0 : w1.frozen? ⟨g, n * 11, none⟩ = false := O1.out.fr _
  have q1 : w1.cell? ⟨g, n * 11 + 1, none⟩ = some (.int .i64 m[n].1.f) := O1.out.cell n hn 1 (by decide)
  have f1 : w1.frozen? ⟨g, n * 11 + 1, none⟩ = false := O1.out.fr _
  have q2 : w1.cell? ⟨g, n * 11 + 2, none⟩ = some (.int .i64 m[n].1.t) := O1.out.cell n hn 2 (by decide)
  have f2 : w1.frozen? ⟨g, n * 11 + 2, none⟩ = false := O1.out.fr _
  have q3 : w1.cell? ⟨g, n * 11 + 3, none⟩ = some (.int .i64 m[n].1.s) := O1.out.cell n hn 3 (by decide)
  have f3 : w1.frozen? ⟨g, n * 11 + 3, none⟩ = false := O1.out.fr _
  have q4 : w1.cell? ⟨g, n * 11 + 4, none⟩ = some (.int .i64 m[n].1.g) := O1.out.cell n hn 4 (by decide)
  have f4 : w1.frozen? ⟨g, n * 11 + 4, none⟩ = false := O1.out.fr _
  have q5 : w1.cell? ⟨g, n * 11 + 5, none⟩ = some (.int .i64 m[n].1.q) := O1.out.cell n hn 5 (by decide)
  have f5 : w1.frozen? ⟨g, n * 11 + 5, none⟩ = false := O1.out.fr _
  have q6 : w1.cell? ⟨g, n * 11 + 6, none⟩ = some (.int .i64 m[n].1.h) := O1.out.cell n hn 6 (by decide)
  have f6 : w1.frozen? ⟨g, n * 11 + 6, none⟩ = false := O1.out.fr _
  have q7 : w1.cell? ⟨g, n * 11 + 7, none⟩ = some (.bool m[n].1.u) := O1.out.cell n hn 7 (by decide)
  have f7 : w1.frozen? ⟨g, n * 11 + 7, none⟩ = false := O1.out.fr _
  have q8 : w1.cell? ⟨g, n * 11 + 8, none⟩ = some (.string m[n].1.d) := O1.out.cell n hn 8 (by decide)
  have f8 : w1.frozen? ⟨g, n * 11 + 8, none⟩ = false := O1.out.fr _
  have q9 : w1.cell? ⟨g, n * 11 + 9, none⟩ = some (.int .i64 m[n].2.1) := O1.out.cell n hn 9 (by decide)
  have f9 : w1.frozen? ⟨g, n * 11 + 9, none⟩ = false := O1.out.fr _
  have q10 : w1.cell? ⟨g, n * 11 + 10, none⟩ = some (.int .i64 m[n].2.2) := O1.out.cell n hn 10 (by decide)
  have f10 : w1.frozen? ⟨g, n * 11 + 10, none⟩ = false := O1.out.fr _
  have hok := OK.out _ (List.getElem_mem hn)
  have PS := Lib.hid (fun x hx => OwnF.whole O1.out n hn x hx)
  have PB := Lib.hid (fun vs => below_setCells hB vs (n * 11) w1 B1.out)
  have TH := Lib.hid (show w1.there g (n * 11) 11 from OwnF.there O1.out n hn)
  have hp := pos_in _ hok.2.1
  have PD : pos m[n].2.1 = if m[n].2.1 < 0 then 0 else m[n].2.1 := rfl
  have FL : fl m[n] = (m[n].1, pos m[n].2.1 + 1, if m[n].1.u = true then 0 else if 4 < pos m[n].2.1 + 1 then 4 else pos m[n].2.1 + 1) := rfl
  have KW := Lib.hid (rwithout_any (some ⟨g, 0, none⟩) c1 m n w1 (by omega) hn S1.out.1)
  unfold OutS at KW
  obtain ⟨x, hx⟩ : ∃ x, m[n] = x := ⟨_, rfl⟩
  have HX := Lib.hid hx
  rw [hx] at hok RO RF hp PD FL q0 q1 q2 q3 q4 q5 q6 q7 q8 q9 q10
  clear hx h1 h2 RN OK O1
  obtain ⟨⟨x0, x1, x2, x3, x4, x5, x6, x7, x8⟩, x9, x10⟩ := x
  simp only at hok hp PD FL q0 q1 q2 q3 q4 q5 q6 q7 q8 q9 q10
  have HOK := Lib.hid hok
  have HPD := Lib.hid PD
  have HFL := Lib.hid FL
  clear hok PD FL
  simp only at RO RF
  generalize pos x9 = T at *
  go_upto_if 28 with fail
  go_cut [9] (fun v wx => v = .int .i64 T ∧ wx = w1)
  case first => as_aux_lemma =>
    by_cases h3 : x9 < 0
    · have R := HPD.out.trans (if_pos h3)
      subst R
      have d3 := dt h3
      go_wp2_with fail
      go_meet
      case rel => exact ⟨rfl, rfl⟩
    · have R := HPD.out.trans (if_neg h3)
      subst R
      have d3 := df h3
      go_wp2_with fail
      go_meet
      case rel => exact ⟨rfl, rfl⟩
  case rest => as_aux_lemma =>
  obtain ⟨rfl, rfl⟩ := hcut
  clear HPD
  by_cases h4 : ok = true ∨ 7 ≤ T
  · have R := Lib.hid (RO.out h4)
    clear RO RF
    obtain ⟨k5, h5⟩ : ∃ k5 : Unit, True := ⟨(), trivial⟩
    cases ok with
    | true =>
      go_wp2_with fail
      refine KW.out.mono ?_
      rintro _ w2 ⟨v, rfl, ho, hb⟩
      have B2 := Lib.hid (B1.out.trans (hb.mono B1.out.size))
      obtain ⟨A2, c2, rfl, hs, hc2, hn2⟩ := ho.read
      have S2 := Lib.hid (show SdS w2 A2 c2 (m.eraseIdx n) from ⟨hs, hc2, hn2⟩)
      clear ho hb hs hc2 hn2
      go_wp2_with fail
      rw [R.out]
      go_ret2
      exact ⟨_, _, rfl, S2.out, B2.out⟩
    | false =>
      have h6 : 7 ≤ T := h4.resolve_left (by decide)
      have d6 := dt h6
      clear h4
      go_wp2_with fail
      refine KW.out.mono ?_
      rintro _ w2 ⟨v, rfl, ho, hb⟩
      have B2 := Lib.hid (B1.out.trans (hb.mono B1.out.size))
      obtain ⟨A2, c2, rfl, hs, hc2, hn2⟩ := ho.read
      have S2 := Lib.hid (show SdS w2 A2 c2 (m.eraseIdx n) from ⟨hs, hc2, hn2⟩)
      clear ho hb hs hc2 hn2
      go_wp2_with fail
      rw [R.out]
      go_ret2
      exact ⟨_, _, rfl, S2.out, B2.out⟩
  have hk : ok = false := by cases ok with
    | true => exact absurd (Or.inl rfl) h4
    | false => rfl
  subst hk
  have h6 : ¬ 7 ≤ T := fun q => h4 (Or.inr q)
  have R := Lib.hid ((RF.out rfl (by omega)).trans (by rw [HFL.out]))
  have d6 := df h6
  have s1 : IntKind.i64.wrap (T + 1) = T + 1 := by rw [IntKind.wrap_i64]; omega
  obtain ⟨y, hy⟩ : ∃ y, (if 4 < T + 1 then 4 else T + 1) = y := ⟨_, rfl⟩
  rw [hy] at R
  obtain ⟨z, hz⟩ : ∃ z, (if x7 = true then 0 else y) = z := ⟨_, rfl⟩
  rw [hz] at R
  have iy : 0 ≤ y ∧ y ≤ 4 := by rw [← hy]; split <;> omega
  have iz : 0 ≤ z ∧ z ≤ 4 := by rw [← hz]; split <;> omega
  have HY := Lib.hid hy
  have HZ := Lib.hid hz
  have iT : 0 ≤ T ∧ T ≤ 6 := by omega
  clear RO RF h4 KW HFL hy hz h6
  go_upto_if 42 with fail
  go_cut [10] (fun v wx => v = .int .i64 y ∧ wx = wc)
  case first => as_aux_lemma =>
    by_cases h7 : 4 < T + 1
    · have d7 := dt h7
      have e : y = 4 := HY.out.symm.trans (if_pos h7)
      clear R PS PB S1 HZ
      subst e
      go_wp2_with fail
      go_meet
      case rel => exact ⟨rfl, rfl⟩
    · have d7 := df h7
      have e : y = T + 1 := HY.out.symm.trans (if_neg h7)
      clear R PS PB S1 HZ
      subst e
      go_wp2_with fail
      go_meet
      case rel => exact ⟨rfl, rfl⟩
  case rest => as_aux_lemma =>
  obtain ⟨rfl, hw⟩ := hcut
  subst hw
  clear HY
  go_upto_if 48 with fail
  go_cut [10] (fun v wx => v = .int .i64 z ∧ wx = wc)
  case first => as_aux_lemma =>
    cases x7 with
    | true =>
      have e : z = 0 := HZ.out.symm.trans (if_pos rfl)
      clear R PS PB S1
      subst e
      go_wp2_with fail
      go_meet
      case rel => exact ⟨rfl, rfl⟩
    | false =>
      have e : z = y := HZ.out.symm.trans (if_neg (by decide))
      clear R PS PB S1
      subst e
      go_wp2_with fail
      go_meet
      case rel => exact ⟨rfl, rfl⟩
  case rest => as_aux_lemma =>
  obtain ⟨rfl, hw⟩ := hcut
  subst hw
  clear HZ
  have P1 := PS.out (⟨x0, x1, x2, x3, x4, x5, x6, x7, x8⟩, T + 1, z) ⟨HOK.out.1, by unfold I64; dsimp only; omega, by unfold I64; dsimp only; omega⟩
  obtain ⟨V, hV⟩ : ∃ V, wc.setCells g (n * 11) (#[.int .i64 x0, .int .i64 x1, .int .i64 x2, .int .i64 x3, .int .i64 x4, .int .i64 x5, .int .i64 x6, .bool x7, .string x8, .int .i64 (T + 1), .int .i64 z] : Array Value).toList = V := ⟨_, rfl⟩
  have P2 := Lib.hid (show Below w.heap.size w V by rw [← hV]; exact PB.out _)
  have P1 := Lib.hid (show OwnS V w.heap.size (.slice (some ⟨g, 0, none⟩) m.length c1) (m.set n (⟨x0, x1, x2, x3, x4, x5, x6, x7, x8⟩, T + 1, z)) by rw [← hV]; exact P1)
  have SS := Lib.hid P1.out.slS
  obtain ⟨A3, c3, e3, S3⟩ := SS.out
  simp only [Value.slice.injEq, true_and, List.length_set] at e3
  obtain ⟨rfl, rfl⟩ := e3
  have S3 := Lib.hid S3
  clear P1 SS PS PB
  have RA := Lib.hid (show wc.rangeAt g (n * 11) [.int .i64 x0, .int .i64 x1, .int .i64 x2, .int .i64 x3, .int .i64 x4, .int .i64 x5, .int .i64 x6, .bool x7, .string x8] from fun j v hv => by
    match j, hv with
    | 0, hv => simp at hv; subst hv; exact q0
    | 1, hv => simp at hv; subst hv; exact q1
    | 2, hv => simp at hv; subst hv; exact q2
    | 3, hv => simp at hv; subst hv; exact q3
    | 4, hv => simp at hv; subst hv; exact q4
    | 5, hv => simp at hv; subst hv; exact q5
    | 6, hv => simp at hv; subst hv; exact q6
    | 7, hv => simp at hv; subst hv; exact q7
    | 8, hv => simp at hv; subst hv; exact q8
    | j + 9, hv => simp at hv)
  clear q0 q1 q2 q3 q4 q5 q6 q7 q8 q9 q10 f0 f1 f2 f3 f4 f5 f6 f7 f8 f9 f10
  go_wp2_with (first | (refine wpList_load_mid rfl 24 _ rfl g (n * 11) rfl _ _ RA.out Try.underlying24 rfl (by kernel_rfl) ?_) | (refine wpl_build rfl 42 _ rfl #[(0, .agg #[.int .i64 x0, .int .i64 x1, .int .i64 x2, .int .i64 x3, .int .i64 x4, .int .i64 x5, .int .i64 x6, .bool x7, .string x8]), (1, .int .i64 (T + 1)), (2, .int .i64 z)] _ (built_s x0 x1 x2 x3 x4 x5 x6 x7 x8 (T + 1) z) (by go_simp) ?_) | (refine wpList_store_mid rfl _ _ _ rfl g (n * 11) #[.int .i64 x0, .int .i64 x1, .int .i64 x2, .int .i64 x3, .int .i64 x4, .int .i64 x5, .int .i64 x6, .bool x7, .string x8, .int .i64 (T + 1), .int .i64 z] rfl rfl TH.out (by kernel_rfl) (one_s (⟨x0, x1, x2, x3, x4, x5, x6, x7, x8⟩, T + 1, z)) ?_; rw [hV]) | fail)
  rw [R.out]
  go_ret2
  refine ⟨some ⟨g, 0, none⟩, c1, ?_, S3.out, P2.out⟩
  rw [List.length_set]
  rfl
end Go.Proofs.Ytpfmfnogckeneaa.Mcq
