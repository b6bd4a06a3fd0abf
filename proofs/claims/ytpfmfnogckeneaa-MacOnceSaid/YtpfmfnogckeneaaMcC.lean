/- The reference's Next, Tick, Result. -/
import Derived.Test.YtpfmfnogckeneaaMcB
import Derived.Deep.DeepCutAuto
import Derived.Deep.CutRange
set_option linter.unusedVariables false
namespace Go.Proofs.Ytpfmfnogckeneaa.Mcq
open Go.RowKit
open Mbx (Fm zf fmC fmV FOk fF)

theorem nx_at {m : List Sd} (k : Nat) (h : k < m.length) (e : m[k].2.2 ≤ 0) (hn : ∀ j (hj : j < m.length), j < k → 0 < m[j].2.2) : nx m = k := by
  have : m.findIdx rdy = k := (List.findIdx_eq h).2 ⟨by simpa [rdy] using e, fun j hji => by have := hn j (by omega) hji; simpa [rdy] using this⟩
  unfold nx
  rw [this, if_pos h]
theorem nx_none {m : List Sd} (hn : ∀ j (hj : j < m.length), 0 < m[j].2.2) : nx m = -1 := by
  have : m.findIdx rdy = m.length := List.findIdx_eq_length_of_false fun x hx => by
    obtain ⟨j, hj, rfl⟩ := List.getElem_of_mem hx
    have := hn j hj
    simpa [rdy] using this
  unfold nx
  rw [this, if_neg (Nat.lt_irrefl _)]
set_option maxRecDepth 100000 in
set_option maxHeartbeats 2000000 in
theorem rnext_any (A : Option Addr) (c : Nat) (l : List Sd) (w : World) (hl : l.length ≤ 9223372036854775807) (hA : SdS w A c l) :
    Calls Try.prog 16 #[.slice A l.length c] w (OutI w (next l)) := by
  have K1 := Lib.hid (rfirst_any A c l w hl hA.1)
  have LM := take_len l
  have E : next l = nx (l.take 16) := rfl
  clear hA
  generalize next l = F at *
  generalize l.take 16 = m at *
  have GA := Lib.hid (fun (k : Nat) (h : k < m.length) e hn => (show F = k from E.trans (nx_at k h e hn)))
  have GN := Lib.hid (fun hn => (show F = -1 from E.trans (nx_none hn)))
  unfold OutS at K1
  go_enter Try.func16, Try.ntmps16
  go_wp2_with fail
  refine K1.out.mono ?_
  rintro _ w1 ⟨v, rfl, ho, hb⟩
  obtain ⟨A1, c1, rfl, hs, _, _⟩ := ho.read
  have B1 := Lib.hid hb
  have HM := Lib.hid hs
  clear hb hs ho K1 E
  go_wp2_with fail
  go_loop [4] (fun vk => ∃ k : Nat, vk = .int .i64 k ∧ k ≤ m.length ∧ Hid (∀ j (hj : j < m.length), j < k → 0 < m[j].2.2)) (fun vk => m.length - (intOf vk).toNat)
  case atStart => exact ⟨0, rfl, Nat.zero_le _, Lib.hid (fun j hj h => by omega)⟩
  case round =>
    obtain ⟨k, rfl, hk, HN⟩ := hrel
    by_cases hlt : k < m.length
    · obtain ⟨bb, p, rfl, hbw, hc, _⟩ := sd_cell HM.out k hlt
      have g10 := hc.2.2.2.2.2.2.2.2.2.2
      by_cases e : m[k].2.2 ≤ 0
      · have R := Lib.hid (GA.out k hlt e HN.out)
        have d1 := dt e
        clear hc GA GN HN e
        generalize m[k].2.2 = z at *
        go_wp2_with fail
        go_ret
        exact outI R.out.symm B1.out
      · have d1 := df e
        have H2 := Lib.hid (show ∀ j (hj : j < m.length), j < k + 1 → 0 < m[j].2.2 from fun j hj h => by
          by_cases c : j = k
          · subst c; omega
          · exact HN.out j hj (by omega))
        clear hc GA GN HN e
        generalize m[k].2.2 = z at *
        go_wp2_with fail
        go_round
        case rel => exact ⟨k + 1, by go_num, hlt, H2⟩
        case measure => simp [intOf]; omega
    · have R := Lib.hid (GN.out fun j hj => HN.out j hj (by omega))
      clear GA GN HN
      go_wp2_with fail
      go_ret
      exact outI R.out.symm B1.out

/-- The first k have had their tick. -/
def tkU (m : List Sd) (k : Nat) : List Sd := m.zipIdx.map fun y => if y.2 < k then tk y.1 else y.1
theorem tkU_len (m : List Sd) (k : Nat) : (tkU m k).length = m.length := by unfold tkU; simp
theorem tkU_at (m : List Sd) (k i : Nat) (h : i < (tkU m k).length) : (tkU m k)[i] = if i < k then tk (m[i]'(by rw [tkU_len] at h; exact h)) else m[i]'(by rw [tkU_len] at h; exact h) := by
  simp only [tkU, List.getElem_map, List.getElem_zipIdx, Nat.zero_add]
theorem tkU_zero (m : List Sd) : tkU m 0 = m := List.ext_getElem (tkU_len m 0) fun i h1 h2 => by rw [tkU_at, if_neg (by omega)]
theorem tkU_end (m : List Sd) : tkU m m.length = m.map tk := List.ext_getElem (by rw [tkU_len, List.length_map]) fun i h1 h2 => by
  rw [tkU_at, if_pos (by rw [tkU_len] at h1; exact h1), List.getElem_map]
theorem tkU_set (m : List Sd) (k : Nat) (h : k < m.length) : tkU m (k + 1) = (tkU m k).set k (tk m[k]) := List.ext_getElem (by rw [List.length_set, tkU_len, tkU_len]) fun i h1 h2 => by
  rw [tkU_at, List.getElem_set]
  by_cases e : k = i
  · subst e
    rw [if_pos (by omega), if_pos rfl]
  · rw [if_neg e, tkU_at]
    by_cases c : i < k
    · rw [if_pos (by omega), if_pos c]
    · rw [if_neg (by omega), if_neg c]
theorem tkU_same (m : List Sd) (k : Nat) (h : k < m.length) (e : ¬ 0 < m[k].2.2) : tkU m (k + 1) = tkU m k := List.ext_getElem (by rw [tkU_len, tkU_len]) fun i h1 h2 => by
  rw [tkU_at, tkU_at]
  by_cases c : i = k
  · subst c
    rw [if_pos (by omega), if_neg (by omega)]
    unfold tk
    rw [if_neg e]
  · by_cases c2 : i < k
    · rw [if_pos (by omega), if_pos c2]
    · rw [if_neg (by omega), if_neg c2]
/-- One cell of the i-th entry, which is a, is written. -/
theorem own_over {w : World} {B g cap : Nat} {l : List Sd} {i : Nat} {a : Sd} (h : OwnS w B (.slice (some ⟨g, 0, none⟩) l.length cap) (l.set i a)) (hi : i < l.length) (j : Nat) (hj : j < 11) (u : Value) (a' : Sd) (he : fS.enc a' = (fS.enc a).set j u) (hok : fS.ok a') :
    OwnS (w.setCell ⟨g, i * 11 + j, none⟩ u) B (.slice (some ⟨g, 0, none⟩) l.length cap) (l.set i a') := by
  have h' : OwnS w B (.slice (some ⟨g, 0, none⟩) (l.set i a).length cap) (l.set i a) := by rw [List.length_set]; exact h
  have := OwnF.put h' i (by rw [List.length_set]; exact hi) j hj u a' (by rw [List.getElem_set_self]; exact he) hok
  rw [List.set_set, List.length_set] at this
  exact this
theorem own_self {w : World} {B g cap : Nat} {l : List Sd} (h : OwnS w B (.slice (some ⟨g, 0, none⟩) l.length cap) l) (i : Nat) (hi : i < l.length) : OwnS w B (.slice (some ⟨g, 0, none⟩) l.length cap) (l.set i l[i]) := by
  rw [List.set_getElem_self]; exact h
set_option maxRecDepth 100000 in
set_option maxHeartbeats 2000000 in
theorem rtick_any (A : Option Addr) (c : Nat) (l : List Sd) (w : World) (hl : l.length ≤ 9223372036854775807) (hA : SdS w A c l) :
    Calls Try.prog 18 #[.slice A l.length c] w (OutS w (tick l)) := by
  have K1 := Lib.hid (rfirst_any A c l w hl hA.1)
  have LM := take_len l
  have OK : ∀ x ∈ l.take 16, fS.ok x := fun x hx => hA.1.ok x (List.mem_of_mem_take hx)
  have E : tick l = (l.take 16).map tk := rfl
  clear hA
  generalize tick l = F at *
  generalize l.take 16 = m at *
  have GE := Lib.hid (show tkU m m.length = F from (tkU_end m).trans E.symm)
  have G0 := Lib.hid (tkU_zero m)
  have GL := Lib.hid (fun k => tkU_len m k)
  have GS := Lib.hid (fun k h => tkU_set m k h)
  have GZ := Lib.hid (fun k h e => tkU_same m k h e)
  have GA := Lib.hid (fun (k : Nat) (h : k < m.length) (h' : k < (tkU m k).length) => (show (tkU m k)[k] = m[k] from by rw [tkU_at, if_neg (Nat.lt_irrefl _)]))
  have HO := Lib.hid OK
  clear E OK
  unfold OutS at K1
  generalize tkU m = G at *
  go_enter Try.func18, Try.ntmps18
  go_wp2_with fail
  refine K1.out.mono ?_
  rintro _ w1 ⟨v, rfl, ho, hb⟩
  obtain ⟨A1, c1, rfl, _⟩ := ho.form
  have B1 := Lib.hid hb
  have O1 := Lib.hid ho
  clear hb ho K1
  go_wp2_with fail
  go_loopw [4] (fun vk wr => ∃ k : Nat, vk = .int .i64 k ∧ k ≤ m.length ∧ Hid (OwnS wr w.heap.size (.slice A1 m.length c1) (G k)) ∧ Below w.heap.size w wr) (fun vk _ => m.length - (intOf vk).toNat)
  case atStart => exact ⟨0, rfl, Nat.zero_le _, Lib.hid (by rw [G0.out]; exact O1.out), B1.out⟩
  case round =>
    obtain ⟨k, rfl, hk, O, hb⟩ := hrel
    have B := Lib.hid hb
    clear hb O1 B1
    by_cases hlt : k < m.length
    · have hGk : k < (G k).length := by rw [GL.out]; exact hlt
      have LG := GL.out k
      have O' : OwnS wr w.heap.size (.slice A1 (G k).length c1) (G k) := by rw [LG]; exact O.out
      obtain ⟨g, cap, e0, hB, hg⟩ := O'.at (fun e => by rw [e] at hGk; simp at hGk)
      simp only [Value.slice.injEq, true_and] at e0
      obtain ⟨rfl, rfl⟩ := e0
      have c10 : wr.cell? ⟨g, k * 11 + 10, none⟩ = some (.int .i64 m[k].2.2) := by
        have := O'.cell k hGk 10 (by decide)
        rw [GA.out k hlt hGk] at this
        exact this
      have f10 : wr.frozen? ⟨g, k * 11 + 10, none⟩ = false := O'.fr _
      have hok := HO.out _ (List.getElem_mem hlt)
      have hz := hok.2.2
      by_cases e : 0 < m[k].2.2
      · have OS : OwnS (wr.setCell ⟨g, k * 11 + 10, none⟩ (.int .i64 (m[k].2.2 - 1))) w.heap.size (.slice (some ⟨g, 0, none⟩) m.length c1) (G (k + 1)) := by
          have q := own_self O' k hGk
          rw [GA.out k hlt hGk] at q
          have := own_over q hGk 10 (by decide) (.int .i64 (m[k].2.2 - 1)) (tk m[k]) (by unfold tk; rw [if_pos e]; rfl) (by unfold tk; rw [if_pos e]; exact ⟨hok.1, hok.2.1, by unfold I64 at hz ⊢; dsimp only; omega⟩)
          rw [← GS.out k hlt, LG] at this
          exact this
        have OS := Lib.hid OS
        have BS := Lib.hid (show Below w.heap.size w (wr.setCell ⟨g, k * 11 + 10, none⟩ (.int .i64 (m[k].2.2 - 1))) from B.out.setCell hB _)
        have d1 := dt e
        have s1 : IntKind.i64.wrap (m[k].2.2 - 1) = m[k].2.2 - 1 := by unfold I64 at hz; rw [IntKind.wrap_i64]; omega
        clear hz hok GS GZ GA GE O' O LG e HO
        generalize m[k].2.2 = z at *
        go_wp2_with fail
        go_roundw
        case rel => exact ⟨k + 1, by go_num, hlt, OS, BS.out⟩
        case measure => simp [intOf]; omega
      · have d1 := df e
        have R := Lib.hid (GZ.out k hlt (by omega))
        clear hz hok GS GZ GA GE O' LG e HO
        generalize m[k].2.2 = z at *
        go_wp2_with fail
        go_roundw
        case rel => exact ⟨k + 1, by go_num, hlt, Lib.hid (by rw [R.out]; exact O.out), B.out⟩
        case measure => simp [intOf]; omega
    · have e : k = m.length := by omega
      subst e
      have O2 := Lib.hid (show OwnS wr w.heap.size (.slice A1 m.length c1) F by rw [← GE.out]; exact O.out)
      clear GS GZ GA GE O HO
      go_wp2_with fail
      go_ret
      exact ⟨_, rfl, O2.out, B.out⟩
end Go.Proofs.Ytpfmfnogckeneaa.Mcq
