/- Contracts of Distinct; the walks of NamesValid, NamesSorts and NamesOrdered. -/
import Derived.Test.YtmildkjkppnblaaNR
set_option linter.unusedVariables false
namespace Go.Proofs.Ytmildkjkppnblaa
open Go.RowKit

/-- All are names, and no two are equal. -/
def dst (l : List Str) : Bool := l.all nm && decide l.Nodup
theorem all_at (l : List Str) (k : Nat) (h : k < l.length) : (l.drop k).all nm = (nm l[k] && (l.drop (k + 1)).all nm) := by
  rw [drop_at l k h, List.all_cons]

set_option maxHeartbeats 1000000 in
theorem distinct_any (v : Value) (l : List Str) (w : World) (hv : StrsAt w v l) (hl : l.length ≤ 100000) (hs : ∀ x ∈ l, x.length ≤ 9223372036854775807) (b : Bool) (hb : dst l = b) :
    Calls Try.prog 11 #[v] w (OutBool b w) := by
  have HV := Lib.hid hv
  obtain ⟨A, c, rfl, ha⟩ := hv
  have HA := Lib.hid ha
  have HS := Lib.hid hs
  have X := Lib.hid (show b = ((l.drop 0).all nm && decide l.Nodup) by rw [← hb, List.drop_zero]; rfl)
  clear ha hs hb
  go_enter Try.func11, Try.ntmps11
  go_wp2_with fail
  go_loopw [7] (fun i wr => ∃ k : Nat, i = .int .i64 k ∧ k ≤ l.length ∧ b = ((l.drop k).all nm && decide l.Nodup) ∧ Below w.heap.size w wr) (fun i _ => l.length - (intOf i).toNat)
  case atStart => exact ⟨0, rfl, Nat.zero_le _, X.out, Below.refl _ _⟩
  case round =>
    obtain ⟨k, rfl, hk, he, hb⟩ := hrel
    have B := Lib.hid hb
    have hsz := hb.size
    by_cases hlt : k < l.length
    · obtain ⟨ab, ao, rfl, g1, e1⟩ := HA.out k hlt
      have c1 : wr.cell? ⟨ab, ao + k, none⟩ = some (.string (bs l[k])) := by rw [hb.cell (p := ⟨ab, ao + k, none⟩) g1]; exact e1
      have hsx : l[k].length ≤ 9223372036854775807 := HS.out _ (List.getElem_mem _)
      rw [all_at l k hlt] at he
      have V := Lib.hid (valid_any (bs l[k]) wr (by rw [bs_size]; exact hsx) _ rfl)
      rw [bs_data] at V
      generalize l[k] = x at *
      clear e1 hb
      rcases hn : nm x with _ | _
      · rw [hn] at V he
        have X2 := Lib.hid (show b = false by rw [he]; rfl)
        clear he hn
        go_wp2_with fail
        refine V.out.mono ?_
        rintro e w1 ⟨rfl, hb1⟩
        have B1 := Lib.hid (B.out.trans (hb1.mono hsz))
        clear hb1
        go_wp2_with fail
        go_ret
        exact outb X2.out B1.out
      · rw [hn] at V he
        have X2 := Lib.hid (show b = ((l.drop (k + 1)).all nm && decide l.Nodup) by rw [he]; rfl)
        clear he hn
        go_wp2_with fail
        refine V.out.mono ?_
        rintro e w1 ⟨rfl, hb1⟩
        have B1 := Lib.hid (B.out.trans (hb1.mono hsz))
        clear hb1
        go_wp2_with fail
        go_roundw
        case rel => exact ⟨k + 1, by go_num, hlt, X2.out, B1.out⟩
        case measure => simp [intOf]; omega
    · have S := Lib.hid (sorted_any _ l wr (HV.out.below hb) hl)
      have X2 := Lib.hid (show b = decide l.Nodup by rw [he, List.drop_of_length_le (by omega)]; simp)
      have SF := Lib.hid (srt_full l)
      clear he hb
      go_wp2_with fail
      refine S.out.mono ?_
      rintro e w1 ⟨v1, rfl, ho, hb1⟩
      have B1 := Lib.hid (B.out.trans (hb1.mono hsz))
      obtain ⟨A2, c2, rfl, _⟩ := strsAt_own ho
      clear hb1 ho
      by_cases hn : (srt l).length = l.length
      · have t1 : (((srt l).length : Int) == (l.length : Int)) = true := by simp; omega
        have X3 := Lib.hid (show b = true by rw [X2.out]; exact decide_eq_true (SF.out.1 hn))
        clear hn
        go_wp2_with fail
        go_ret
        exact outb X3.out B1.out
      · have t1 : (((srt l).length : Int) == (l.length : Int)) = false := by simp; omega
        have X3 := Lib.hid (show b = false by rw [X2.out]; exact decide_eq_false (fun h => hn (SF.out.2 h)))
        clear hn
        go_wp2_with fail
        go_ret
        exact outb X3.out B1.out

theorem nodup_take {l : List Str} {k : Nat} (h : l.Nodup) : (l.take k).Nodup := List.Sublist.nodup (List.take_sublist k l) h

set_option maxHeartbeats 1000000 in
theorem rdistinct_any (v : Value) (l : List Str) (w : World) (hv : StrsAt w v l) (hl : l.length ≤ 100000) (hs : ∀ x ∈ l, x.length ≤ 9223372036854775807) (b : Bool) (hb : dst l = b) :
    Calls Try.prog 12 #[v] w (OutBool b w) := by
  have HV := Lib.hid hv
  obtain ⟨A, c, rfl, ha⟩ := hv
  have HA := Lib.hid ha
  have HS := Lib.hid hs
  have X := Lib.hid (show b = ((l.drop 0).all nm && decide l.Nodup) by rw [← hb, List.drop_zero]; rfl)
  clear ha hs hb
  go_enter Try.func12, Try.ntmps12
  go_wp2_with fail
  go_loopw [3] (fun i wr => ∃ k : Nat, i = .int .i64 k ∧ k ≤ l.length ∧ (l.take k).Nodup ∧ b = ((l.drop k).all nm && decide l.Nodup) ∧ Below w.heap.size w wr) (fun i _ => l.length - (intOf i).toNat)
  case atStart => exact ⟨0, rfl, Nat.zero_le _, by simp, X.out, Below.refl _ _⟩
  case round =>
    obtain ⟨k, rfl, hk, hnd, he, hb⟩ := hrel
    have B := Lib.hid hb
    have hsz := hb.size
    by_cases hlt : k < l.length
    · obtain ⟨ab, ao, rfl, g1, e1⟩ := HA.out k hlt
      have c1 : wr.cell? ⟨ab, ao + k, none⟩ = some (.string (bs l[k])) := by rw [hb.cell (p := ⟨ab, ao + k, none⟩) g1]; exact e1
      have G1 : ab < wr.heap.size := by omega
      have hsx : l[k].length ≤ 9223372036854775807 := HS.out _ (List.getElem_mem _)
      rw [all_at l k hlt] at he
      have V := Lib.hid (valid_any (bs l[k]) wr (by rw [bs_size]; exact hsx) _ rfl)
      have R := Lib.hid (rvalid_any (bs l[k]) wr (by rw [bs_size]; exact hsx) _ rfl)
      rw [bs_data] at R
      have hin : l[k] ∈ l := List.getElem_mem _
      have hix := ix_take l l[k] k hin
      have HVB := Lib.hid (HV.out.below hb)
      have htk : l.take (k + 1) = l.take k ++ [l[k]] := List.take_succ_eq_append_getElem hlt
      have IXC := Lib.hid (fun w2 (h : StrsAt w2 (.slice (some ⟨ab, ao, none⟩) l.length c) l) => rindex_any _ l l[k] w2 h hl)
      generalize l[k] = x at *
      clear e1 hb V
      rcases hn : nm x with _ | _
      · rw [hn] at R he
        have X2 := Lib.hid (show b = false by rw [he]; rfl)
        clear he hn hnd hix htk
        go_wp2_with fail
        refine R.out.mono ?_
        rintro e w1 ⟨rfl, hb1⟩
        have B1 := Lib.hid (B.out.trans (hb1.mono hsz))
        clear hb1
        go_wp2_with fail
        go_ret
        exact outb X2.out B1.out
      · rw [hn] at R he
        by_cases hold : x ∈ l.take k
        · have hq := hix.2 hold
          have X2 := Lib.hid (show b = false by
            rw [he, decide_eq_false (fun h => by
              have := nodup_take (k := k + 1) h
              rw [htk, List.nodup_append] at this
              exact this.2.2 x hold x (List.mem_singleton.2 rfl) rfl)]; simp)
          generalize ix l x = q at *
          clear he hn hnd hix htk hold
          go_wp2_with fail
          refine R.out.mono ?_
          rintro e w1 ⟨rfl, hb1⟩
          have B1 := Lib.hid (B.out.trans (hb1.mono hsz))
          have c2 : w1.cell? ⟨ab, ao + k, none⟩ = some (.string (bs x)) := by rw [hb1.cell (p := ⟨ab, ao + k, none⟩) G1]; exact c1
          have IX := Lib.hid (IXC.out w1 (HVB.out.below hb1))
          clear hb1 c1
          go_wp2_with fail
          refine IX.out.mono ?_
          rintro e w' ⟨rfl, rfl⟩
          go_wp2_with fail
          go_ret
          exact outb X2.out B1.out
        · have hq : ¬ ix l x < (k : Int) := fun h => hold (hix.1 h)
          have X2 := Lib.hid (show b = ((l.drop (k + 1)).all nm && decide l.Nodup) by rw [he]; rfl)
          have ND := Lib.hid (show (l.take (k + 1)).Nodup by
            rw [htk, List.nodup_append]
            refine ⟨hnd, by simp, fun a ha c hc e => hold ?_⟩
            rw [← List.mem_singleton.1 hc, ← e]; exact ha)
          generalize ix l x = q at *
          clear he hn hnd hix htk hold
          go_wp2_with fail
          refine R.out.mono ?_
          rintro e w1 ⟨rfl, hb1⟩
          have B1 := Lib.hid (B.out.trans (hb1.mono hsz))
          have c2 : w1.cell? ⟨ab, ao + k, none⟩ = some (.string (bs x)) := by rw [hb1.cell (p := ⟨ab, ao + k, none⟩) G1]; exact c1
          have IX := Lib.hid (IXC.out w1 (HVB.out.below hb1))
          clear hb1 c1
          go_wp2_with fail
          refine IX.out.mono ?_
          rintro e w' ⟨rfl, rfl⟩
          go_wp2_with fail
          go_roundw
          case rel => exact ⟨k + 1, by go_num, hlt, ND.out, X2.out, B1.out⟩
          case measure => simp [intOf]; omega
    · have X2 := Lib.hid (show b = true by
        rw [he, List.drop_of_length_le (by omega)]
        rw [List.take_of_length_le (by omega)] at hnd
        simp [hnd])
      clear he hb hnd
      go_wp2_with fail
      go_ret
      exact outb X2.out B.out

set_option maxHeartbeats 1000000 in
theorem law_valid (s : ByteArray) (v : Value) (l : List Str) (w : World) (hs : s.size ≤ 9223372036854775807) (hv : StrsAt w v l) (hl : l.length ≤ 9223372036854775807) (hx : ∀ x ∈ l, x.length ≤ 9223372036854775807) :
    Calls Try.prog 3 #[.string s, v] w (OutBool true w) := by
  have HV := Lib.hid hv
  have HX := Lib.hid hx
  obtain ⟨A, c, rfl, ha⟩ := hv
  clear ha hx
  by_cases h : 200 < l.length
  · go_enter Try.func3, Try.ntmps3
    go_wp2_with fail
    refine (lives_any _).mono ?_
    rintro e w1 ⟨rfl, hb⟩
    go_wp2_with fail
    go_ret
    exact outb rfl hb
  · have D1 := Lib.hid (fun w2 h => distinct_any (.slice A l.length c) l w2 h (by omega) HX.out _ rfl)
    have D2 := Lib.hid (fun w2 h => rdistinct_any (.slice A l.length c) l w2 h (by omega) HX.out _ rfl)
    have V1 := Lib.hid (fun w2 => valid_any s w2 hs _ rfl)
    have V2 := Lib.hid (fun w2 => rvalid_any s w2 hs _ rfl)
    generalize dst l = d at *
    generalize nm s.data.toList = n at *
    go_enter Try.func3, Try.ntmps3
    go_wp2_with fail
    refine (V1.out _).mono ?_
    rintro e w1 ⟨rfl, hb1⟩
    have B1 := Lib.hid hb1
    have hz1 := hb1.size
    clear hb1
    go_wp2_with fail
    refine (V2.out _).mono ?_
    rintro e w2 ⟨rfl, hb2⟩
    have B2 := Lib.hid (B1.out.trans (hb2.mono hz1))
    have hz2 := B2.out.size
    clear hb2
    go_wp2_with fail
    refine (D1.out _ (HV.out.below B2.out)).mono ?_
    rintro e w3 ⟨rfl, hb3⟩
    have B3 := Lib.hid (B2.out.trans (hb3.mono hz2))
    have hz3 := B3.out.size
    clear hb3
    go_wp2_with fail
    refine (D2.out _ (HV.out.below B3.out)).mono ?_
    rintro e w4 ⟨rfl, hb4⟩
    have B4 := Lib.hid (B3.out.trans (hb4.mono hz3))
    have hz4 := B4.out.size
    clear hb4
    go_wp2_with fail
    refine (lives_any _).mono ?_
    rintro e w5 ⟨rfl, hb5⟩
    have B5 := Lib.hid (B4.out.trans (hb5.mono hz4))
    clear hb5
    go_wp2_with fail
    go_ret
    exact outb rfl B5.out

set_option maxHeartbeats 1000000 in
theorem law_sorts (v : Value) (l : List Str) (s : ByteArray) (w : World) (hv : StrsAt w v l) (hl : l.length ≤ 9223372036854775807) :
    Calls Try.prog 5 #[v, .string s] w (OutBool true w) := by
  obtain ⟨x, rfl⟩ : ∃ x, s = bs x := ⟨_, (bs_self s).symm⟩
  have HV := Lib.hid hv
  obtain ⟨A, c, rfl, ha⟩ := hv
  clear ha
  by_cases h : 200 < l.length
  · go_enter Try.func5, Try.ntmps5
    go_wp2_with fail
    refine (lives_any _).mono ?_
    rintro e w1 ⟨rfl, hb⟩
    go_wp2_with fail
    go_ret
    exact outb rfl hb
  · have I1 := Lib.hid (fun w2 h => index_str (.slice A l.length c) l x w2 h (by omega))
    have I2 := Lib.hid (fun w2 h => rindex_any (.slice A l.length c) l x w2 h (by omega))
    have S1 := Lib.hid (fun w2 h => sorted_any (.slice A l.length c) l w2 h (by omega))
    have S2 := Lib.hid (fun w2 h => rsorted_any (.slice A l.length c) l w2 h (by omega))
    have SL := Lib.hid (srt_length l)
    generalize ix l x = q at *
    generalize srt l = m at *
    go_enter Try.func5, Try.ntmps5
    go_wp2_with fail
    refine (I1.out _ HV.out).mono ?_
    rintro e w' ⟨rfl, rfl⟩
    go_wp2_with fail
    refine (I2.out _ HV.out).mono ?_
    rintro e w' ⟨rfl, rfl⟩
    go_wp2_with fail
    refine (S1.out _ HV.out).mono ?_
    rintro e w1 ⟨v1, rfl, o1, hb1⟩
    have B1 := Lib.hid hb1
    have hz1 := hb1.size
    have A1 := Lib.hid (strsAt_own o1)
    clear hb1 o1
    go_wp2_with fail
    refine (S2.out _ (HV.out.below B1.out)).mono ?_
    rintro e w2 ⟨v2, rfl, o2, hb2⟩
    have B2 := Lib.hid (B1.out.trans (hb2.mono hz1))
    have hz2 := B2.out.size
    have A2 := Lib.hid (strsAt_own o2)
    have A3 := Lib.hid (A1.out.below hb2)
    clear hb2 o2
    go_wp2_with fail
    refine (same_any _ _ _ _ _ A3.out A2.out (by have := SL.out; omega) (by have := SL.out; omega) true (decide_eq_true rfl)).mono ?_
    rintro e w3 ⟨rfl, hb3⟩
    have B3 := Lib.hid (B2.out.trans (hb3.mono hz2))
    have hz3 := B3.out.size
    clear hb3
    go_wp2_with fail
    refine (lives_any _).mono ?_
    rintro e w4 ⟨rfl, hb4⟩
    have B4 := Lib.hid (B3.out.trans (hb4.mono hz3))
    clear hb4
    go_wp2_with fail
    go_ret
    exact outb rfl B4.out
end Go.Proofs.Ytmildkjkppnblaa
