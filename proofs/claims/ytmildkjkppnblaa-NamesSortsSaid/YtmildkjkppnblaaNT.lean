/- The walk of NamesOrdered; a slice of strings that came in, opened. -/
import Derived.Test.YtmildkjkppnblaaNS
import Derived.SliceStrings
set_option linter.unusedVariables false
namespace Go.Proofs.Ytmildkjkppnblaa
open Go.RowKit Go.ChangeShapes Go.WideShapes

section
variable {H : Type} {enc : TypeId × Value → H}
theorem strs_at {W : World} {fuel : Nat} {sp : Nat → Bool} {hd : Bool} {A : Option Addr} {n c : Nat} {x : DataW H × List MemPlace} (hf : DataW.trod enc Try.prog W 0 sp hd fuel 22 [.slice A n c] = some x) :
    ∃ l : List Str, n = List.length l ∧ StrsAt W (.slice A l.length c) l ∧ l.length ≤ 9223372036854775807 ∧ ∀ x ∈ l, x.length ≤ 9223372036854775807 := by
  rcases open_strings Try.underlying22 Try.underlying9 (by kernel_rfl) hf with ⟨hcs, hx⟩ | ⟨a, len, cap, zs, hcs, _, hl, hm, hz, hx, hcell, hwz⟩
  · simp at hcs
    obtain ⟨rfl, rfl, rfl⟩ := hcs
    exact ⟨[], rfl, ⟨none, 0, rfl, fun i h => absurd h (by simp)⟩, Nat.zero_le _, fun _ h => absurd h List.not_mem_nil⟩
  · simp at hcs
    obtain ⟨rfl, rfl, rfl⟩ := hcs
    have hle : n ≤ zs.length := by rw [hz]; split <;> omega
    have hll : ((zs.take n).map fun s => s.data.toList).length = n := by rw [List.length_map, List.length_take]; omega
    refine ⟨(zs.take n).map fun s => s.data.toList, hll.symm, ⟨some a, c, rfl, fun i hi => ?_⟩, by unfold maxLen at hm; omega, fun m hm2 => ?_⟩
    · rw [hll] at hi
      have h00 := hcell i (by omega)
      obtain ⟨b, o', e⟩ := plain_of h00
      have h0 := hcell 0 (by omega)
      rw [add_none] at h0
      obtain ⟨b, o', rfl⟩ := plain_of h0
      rw [add_off] at h00
      refine ⟨b, o', rfl, World.block_lt_of_cell? W _ h00, ?_⟩
      rw [h00]
      have : i < zs.length := by omega
      simp [List.getD, this, bs_self]
    · obtain ⟨s, hs, rfl⟩ := List.mem_map.1 hm2
      have := hwz s (List.mem_of_mem_take hs)
      unfold maxLen at this
      rw [toNat_bytes]; omega
end

theorem rindex_q (v : Value) (l : List Str) (x : Str) (w : World) (hv : StrsAt w v l) (hl : l.length ≤ 100000) :
    Calls Try.prog 16 #[v, .string (bs x)] w fun e w' => e = .returned (.int .i64 (ix l x)) ∧ w' = w :=
  (rindex_any v l x w hv hl).mono fun _ _ h => ⟨h.1, h.2.symm⟩
theorem asc_at {m : List Str} (h : Asc m) (k : Nat) (hk : k < m.length) (h0 : 0 < k) : ∃ h2 : k - 1 < m.length, m[k - 1] < m[k] :=
  ⟨by omega, (List.pairwise_iff_getElem.1 h) (k - 1) k (by omega) hk (by omega)⟩

set_option maxRecDepth 100000 in
set_option maxHeartbeats 2000000 in
theorem law_ordered (v : Value) (l : List Str) (w : World) (hv : StrsAt w v l) (hl : l.length ≤ 9223372036854775807) :
    Calls Try.prog 7 #[v] w (OutBool true w) := by
  have HV := Lib.hid hv
  obtain ⟨A, c, rfl, ha⟩ := hv
  by_cases h : 200 < l.length
  · clear ha
    go_enter Try.func7, Try.ntmps7
    go_wp2_with fail
    refine (lives_any _).mono ?_
    rintro e w1 ⟨rfl, hb⟩
    go_wp2_with fail
    go_ret
    exact outb rfl hb
  · have HA := Lib.hid ha
    clear ha
    have S1 := Lib.hid (sorted_any _ l w HV.out (by omega))
    have SL := Lib.hid (srt_length l)
    have SA := Lib.hid (srt_asc l)
    have SM := Lib.hid (srt_mem l)
    generalize srt l = m at *
    go_enter Try.func7, Try.ntmps7
    go_wp2_with fail
    refine S1.out.mono ?_
    rintro e w1 ⟨v1, rfl, o1, hb1⟩
    have A1 := strsAt_own o1
    have HA1 := Lib.hid A1
    obtain ⟨A2, c2, rfl, ha2⟩ := A1
    have HA2 := Lib.hid ha2
    have B1 := Lib.hid hb1
    have hz1 := hb1.size
    have HVB := Lib.hid (HV.out.below hb1)
    have hm : m.length ≤ 200 := by have := SL.out; omega
    clear hb1 o1 ha2
    go_wp2_with fail
    go_loopw [4] (fun i wr => ∃ (k : Nat), i = .int .i64 k ∧ k ≤ m.length ∧ Below w1.heap.size w1 wr) (fun i _ => m.length - (intOf i).toNat)
    case atStart => exact ⟨0, rfl, Nat.zero_le _, Below.refl _ _⟩
    case round =>
      obtain ⟨k, rfl, hk, hbw⟩ := hrel
      have BW := Lib.hid hbw
      have hzw := hbw.size
      by_cases hlt : k < m.length
      · obtain ⟨ab, ao, rfl, g1, e0⟩ := HA2.out k hlt
        have e1 : wr.cell? ⟨ab, ao + k, none⟩ = some (.string (bs m[k])) := by rw [hbw.cell (p := ⟨ab, ao + k, none⟩) g1]; exact e0
        have hxin : m[k] ∈ l := (SM.out _).1 (List.getElem_mem _)
        have hix := (ix_some l m[k] hxin).1
        have i1 : (k : Int) < (m.length : Int) := by omega
        have IXQ := Lib.hid (fun a => rindex_q _ l m[k] (wr.drewN a) ((HVB.out.below hbw).below (below_drewN wr a)) (by omega))
        by_cases h0 : 0 < k
        · obtain ⟨hlt2, hasc⟩ := asc_at SA.out k hlt h0
          obtain ⟨p, rfl⟩ : ∃ p, k = p + 1 := ⟨k - 1, by omega⟩
          simp only [Nat.add_sub_cancel] at hlt2 hasc
          obtain ⟨ab2, ao2, hA, g2, e3⟩ := HA2.out p hlt2
          cases hA
          have e2 : wr.cell? ⟨ab, ao + p, none⟩ = some (.string (bs m[p])) := by rw [hbw.cell (p := ⟨ab, ao + p, none⟩) g2]; exact e3
          have t1 := lss_test m[p + 1] m[p] false (decide_eq_false (fun h => slt_irrefl _ (slt_trans h hasc)))
          have t2 := str_test m[p + 1] m[p] false (decide_eq_false (fun h => by rw [h] at hasc; exact slt_irrefl _ hasc))
          generalize m[p + 1] = x at *
          generalize m[p] = y at *
          generalize ix l x = q at *
          have hq : ¬ q < 0 := by omega
          have j2 : (p : Int) < (m.length : Int) := by omega
          have j3 : IntKind.i64.wrap ((p : Int) + 1 - 1) = (p : Int) := by rw [show (p : Int) + 1 - 1 = (p : Int) by omega]; exact IntWalk.i64_in _ (by omega)
          have i2 : (p : Int) + 1 < (m.length : Int) := by omega
          have j4 : IntKind.i64.wrap (p : Int) = (p : Int) := IntWalk.i64_in _ (by omega)
          have i3 : (0 : Int) ≤ (p : Int) + 1 := by omega
          have i4 : ((p : Int) + 1).toNat = p + 1 := by omega
          clear hxin hasc hix i1 e0 e3 hbw
          go_wp2_with fail
          go_quiet ((go_at_call 16; exact Calls.quiet_of_same (IXQ.out _)))
          go_wp2_with fail
          go_roundw
          case rel => exact ⟨p + 2, by go_num, hlt, BW.out.trans ((below_drewN _ _).mono hzw)⟩
          case measure => simp [intOf]; omega
        · obtain rfl : k = 0 := by omega
          generalize m[0] = x at *
          generalize ix l x = q at *
          have hq : ¬ q < 0 := by omega
          have e1' : wr.cell? ⟨ab, ao, none⟩ = some (.string (bs x)) := e1
          have i2 : (0 : Int) < (m.length : Int) := i1
          have d0 : (((0 : Nat) : Int)) = 0 := rfl
          rw [d0]
          clear hxin hix i1 e1 d0 e0 hbw
          go_wp2_with fail
          go_quiet ((go_at_call 16; exact Calls.quiet_of_same (IXQ.out _)))
          go_wp2_with fail
          go_roundw
          case rel => exact ⟨1, rfl, hlt, BW.out.trans ((below_drewN _ _).mono hzw)⟩
          case measure => simp [intOf]; omega
      · clear hbw
        go_wp2_with fail
        go_loopw [5] (fun i wr2 => ∃ (k : Nat), i = .int .i64 k ∧ k ≤ l.length ∧ wr2 = wr) (fun i _ => l.length - (intOf i).toNat)
        case atStart => exact ⟨0, rfl, Nat.zero_le _, rfl⟩
        case round =>
          obtain ⟨j, rfl, hj, rfl⟩ := hrel
          by_cases hlt2 : j < l.length
          · obtain ⟨ab, ao, rfl, g1, e1⟩ := HA.out j hlt2
            have c0 : w1.cell? ⟨ab, ao + j, none⟩ = some (.string (bs l[j])) := by rw [B1.out.cell (p := ⟨ab, ao + j, none⟩) g1]; exact e1
            have c1 : wr.cell? ⟨ab, ao + j, none⟩ = some (.string (bs l[j])) := by rw [BW.out.cell (p := ⟨ab, ao + j, none⟩) (show ab < w1.heap.size by omega)]; exact c0
            have hxin : l[j] ∈ m := (SM.out _).2 (List.getElem_mem _)
            have hix := (ix_some m l[j] hxin).1
            have IX := Lib.hid (rindex_any (.slice A2 m.length c2) m l[j] wr (HA1.out.below BW.out) (by omega))
            generalize l[j] = x at *
            generalize ix m x = q at *
            have hq : ¬ q < 0 := by omega
            clear hxin hix e1 c0
            go_wp2_with fail
            refine IX.out.mono ?_
            rintro e w' ⟨rfl, rfl⟩
            go_wp2_with fail
            go_roundw
            case rel => exact ⟨j + 1, by go_num, hlt2, trivial⟩
            case measure => simp [intOf]; omega
          · go_wp2_with fail
            refine (lives_any _).mono ?_
            rintro e w3 ⟨rfl, hb3⟩
            have B3 := Lib.hid ((B1.out.trans (BW.out.mono hz1)).trans (hb3.mono (by omega)))
            clear hb3
            go_wp2_with fail
            go_ret
            exact outb rfl B3.out
end Go.Proofs.Ytmildkjkppnblaa
