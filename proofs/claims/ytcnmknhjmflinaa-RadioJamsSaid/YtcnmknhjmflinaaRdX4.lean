/- Package radio: joined. -/
import Derived.Test.YtcnmknhjmflinaaRdX3
import Derived.Deep.OwnRows
import Derived.Deep.MidRow
set_option linter.unusedVariables false
namespace Go.Proofs.Ytcnmknhjmflinaa.Rdo
open Go.RowKit
open Tpo (fE EdAt OwnE OwnI OutN OutL near wout sel eInt eEd app_int selU selU_zero selU_all selU_yes selU_no selU_len)

/-- Which nodes are in. -/
def inRow (S : List Int) (i : Nat) : Value := .bool (decide ((i : Int) ∈ S))
theorem row_in {w : World} {b n : Nat} {T : TypeId} {S : List Int} (h : w.rowIs b T n (inRow S)) (a : Nat) : (w.setCell ⟨b, a, none⟩ (.bool true)).rowIs b T n (inRow (S ++ [(a : Int)])) := by
  refine (h.set a _).congr fun j hj => ?_
  unfold inRow
  by_cases e1 : j = a
  · subst e1; simp
  · rw [if_neg e1]
    congr 1
    refine decide_eq_decide.2 ?_
    rw [List.mem_append, List.mem_singleton]
    constructor
    · exact Or.inl
    · rintro (q | q)
      · exact q
      · omega
theorem row_out {w : World} {b : Nat} {T : TypeId} {S : List Int} {x : Int} (h : w.rowIs b T 251 (inRow S)) (hx : ¬ Tpo.Nd x) : w.rowIs b T 251 (inRow (S ++ [x])) := by
  refine h.congr fun j hj => ?_
  unfold inRow
  congr 1
  refine decide_eq_decide.2 ?_
  rw [List.mem_append, List.mem_singleton]
  constructor
  · exact Or.inl
  · rintro (q | q)
    · exact q
    · exact absurd (show Tpo.Nd x by rw [← q]; unfold Tpo.Nd; omega) hx
theorem index_row (Z : List Value) (k : Nat) (v : Value) (hZ : Z.length = 251) (hk : k < 251) (hv : Z[k]? = some v) (w : World) : (Instr.index 68 (.agg Z.toArray) (.int .i64 (k : Int))).run Try.prog w = .ok v w := by
  have h1 : (k : Int) < 251 := by omega
  have h2 : k < Z.length := by omega
  have h3 : Z[k]? = some Z[k] := List.getElem?_eq_getElem h2
  rw [h3] at hv
  simp only [Option.some.injEq] at hv
  simp [Instr.index, asIntOf, run_underlying Try.underlying68, go_sem, hv, hZ, hk]

theorem blk_range {w : World} {b : Nat} {cs : Array Value} {T : TypeId} (h : w.heap[b]? = some (.cells cs T (0, 0))) : w.rangeAt b 0 cs.toList := fun j v hv => blk_cell h _ (by rw [Nat.zero_add, ← Array.getElem?_toList]; exact hv)
set_option maxRecDepth 100000 in
set_option maxHeartbeats 4000000 in
theorem pjoin_any (b : Nat) (T : TypeId) (A1 : Option Addr) (c1 : Nat) (L1 : List Int) (A2 : Option Addr) (c2 : Nat) (L2 : List Int) (w : World) (hb : w.heap[b]? = some (.cells #[.slice A1 L1.length c1, .slice A2 L2.length c2] T (0, 0))) (l1 : L1.length ≤ 100000) (l2 : L2.length ≤ 100000) (h1 : FlAt fI w w.heap.size A1 L1) (h2 : FlAt fI w w.heap.size A2 L2) :
    Calls Try.prog 40 #[.slice (some ⟨b, 0, none⟩) 2 2] w (OutN w (sel fun v => v ∈ L1 ∨ v ∈ L2)) := by
  obtain ⟨S, hS0, hS2, hSk⟩ : ∃ S : Nat → List Int, S 0 = [] ∧ S 2 = L1 ++ L2 ∧ ∀ k, k < 2 → ∃ A c L, w.cell? ⟨b, k, none⟩ = some (.slice A L.length c) ∧ FlAt fI w w.heap.size A L ∧ L.length ≤ 100000 ∧ S (k + 1) = S k ++ L := by
    refine ⟨fun k => if k = 0 then [] else if k = 1 then L1 else L1 ++ L2, rfl, rfl, fun k hk => ?_⟩
    match k, hk with
    | 0, _ => exact ⟨A1, c1, L1, blk_cell hb 0 rfl, h1, l1, rfl⟩
    | 1, _ => exact ⟨A2, c2, L2, blk_cell hb 1 rfl, h2, l2, rfl⟩
  have hbl : b < w.heap.size := (Array.getElem?_eq_some_iff.1 hb).1
  have SK := Lib.hid hSk
  have SZ := Lib.hid hS0
  have ST := Lib.hid (show sel (fun v => v ∈ L1 ∨ v ∈ L2) = sel (fun v => v ∈ S 2) from Tpo.sel_congr fun v _ => by rw [hS2, List.mem_append])
  generalize sel (fun v => v ∈ L1 ∨ v ∈ L2) = F at *
  clear hSk hS0 hS2 h1 h2 hb l1 l2
  obtain ⟨Z, hzr, hZ⟩ : ∃ Z : Array Value, (∀ w : World, (zeroValue 68).run Try.prog w = .ok (.agg Z) w) ∧ Z.size = 251 ∧ ∀ i, i < 251 → Z[i]? = some (.bool false) :=
    ⟨Array.replicate 251 (.bool false), fun w => by kernel_rfl, by simp, fun i hi => by rw [Array.getElem?_replicate]; simp [hi]⟩
  have B1 := Lib.hid (alloc_below w (.cells Z 68))
  have R0 := Lib.hid (show (w.alloc (.cells Z 68)).rowIs w.heap.size 68 251 (inRow (S 0)) by
    have := World.rowIs_alloc w Z 68 (inRow (S 0)) (fun i hi => by rw [hZ.2 i (by rw [← hZ.1]; exact hi), SZ.out]; rfl)
    rw [hZ.1] at this
    exact this)
  clear hZ
  go_enter Try.func40, Try.ntmps40
  go_wp2_with fail
  clear hzr
  go_loopw [13] (fun vk wr => ∃ k : Nat, vk = .int .i64 k ∧ k ≤ 2 ∧ Hid (wr.rowIs w.heap.size 68 251 (inRow (S k))) ∧ Hid (Below w.heap.size w wr)) (fun vk _ => 2 - (intOf vk).toNat)
  case atStart => exact ⟨0, rfl, Nat.zero_le _, R0, B1⟩
  case round =>
    obtain ⟨k, rfl, hk, HR, HB⟩ := hrel
    clear R0 B1
    by_cases hlt : k < 2
    · obtain ⟨A, c, L, hc, hA, hL, hN⟩ := SK.out k hlt
      have HA := Lib.hid hA
      have HN := Lib.hid hN
      have g0 : wr.cell? ⟨b, k, none⟩ = some (.slice A L.length c) := (HB.out.cell (p := ⟨b, k, none⟩) hbl).trans hc
      have d14 := dt (show (k : Int) < 2 by omega)
      clear hA hN hc SK SZ ST
      go_wp2_with fail
      clear g0
      go_loopw [19] (fun vj wr => ∃ j : Nat, vj = .int .i64 j ∧ j ≤ L.length ∧ Hid (wr.rowIs w.heap.size 68 251 (inRow (S k ++ L.take j))) ∧ Hid (Below w.heap.size w wr)) (fun vj _ => L.length - (intOf vj).toNat)
      case atStart => exact ⟨0, rfl, Nat.zero_le _, by rw [List.take_zero, List.append_nil]; exact HR, HB⟩
      case round =>
        obtain ⟨j, rfl, hj, JR, JB⟩ := hrel
        clear HR HB
        by_cases hjl : j < L.length
        · obtain ⟨b3, p3, rfl, _, g0, _⟩ := fI_cell (HA.out.below JB.out) j hjl
          have TN := Lib.hid (show S k ++ L.take (j + 1) = (S k ++ L.take j) ++ [L[j]] by rw [List.take_succ_eq_append_getElem hjl, List.append_assoc])
          generalize L[j] = x at *
          have KN := Lib.hid (fun w => pnode_any x w)
          by_cases hx : Tpo.Nd x
          · rw [dt hx] at KN
            obtain ⟨a, rfl⟩ : ∃ a : Nat, x = (a : Int) := ⟨x.toNat, by have := hx.1; omega⟩
            have ha : a < 251 := by have := hx.2; omega
            have q0 : (a : Int) < 251 := by omega
            have q1 : (0 : Int) ≤ (a : Int) := by omega
            have h0 := JR.out.cell ha
            have f0 := JR.out.frozen a
            have JR2 := Lib.hid (show (wr.setCell ⟨w.heap.size, a, none⟩ (.bool true)).rowIs w.heap.size 68 251 (inRow (S k ++ L.take (j + 1))) by rw [TN.out]; exact row_in JR.out a)
            have JB2 := Lib.hid (show Below w.heap.size w (wr.setCell ⟨w.heap.size, a, none⟩ (.bool true)) from JB.out.setCell (Nat.le_refl _) _)
            obtain ⟨v0, hv0⟩ : ∃ v0, inRow (S k ++ L.take j) a = v0 := ⟨_, rfl⟩
            rw [hv0] at h0
            clear hv0 JR JB TN hx
            go_wp2_with fail
            refine (KN.out _).mono ?_
            rintro _ _ ⟨rfl, rfl⟩
            clear KN
            go_wp2_with fail
            go_roundw
            case rel => exact ⟨j + 1, by go_num, hjl, JR2, JB2⟩
            case measure => simp [intOf]; omega
          · rw [df hx] at KN
            have JR2 := Lib.hid (show wr.rowIs w.heap.size 68 251 (inRow (S k ++ L.take (j + 1))) by rw [TN.out]; exact row_out JR.out hx)
            clear JR TN hx
            go_wp2_with fail
            refine (KN.out _).mono ?_
            rintro _ _ ⟨rfl, rfl⟩
            clear KN
            go_wp2_with fail
            go_roundw
            case rel => exact ⟨j + 1, by go_num, hjl, JR2, JB⟩
            case measure => simp [intOf]; omega
        · obtain rfl : j = L.length := by omega
          have JR2 := Lib.hid (show wr.rowIs w.heap.size 68 251 (inRow (S (k + 1))) by have := JR.out; rw [List.take_length, ← HN.out] at this; exact this)
          clear JR
          go_wp2_with fail
          go_roundw
          case rel => exact ⟨k + 1, by go_num, hlt, JR2, JB⟩
          case measure => simp [intOf]; omega
    · obtain rfl : k = 2 := by omega
      obtain ⟨cs, hcs, hlen, hget⟩ := HR.out
      have RA := Lib.hid (show wr.rangeAt w.heap.size 0 cs.toList from blk_range hcs)
      have hl : cs.toList.length = 251 := by simpa using hlen
      have IX := Lib.hid (fun (i : Nat) (hi : i < 251) W => index_row cs.toList i (inRow (S 2) i) hl hi (by rw [Array.getElem?_toList]; exact hget i hi) W)
      have hi9 : (Try.prog.info? 68).map (·.size) = some cs.toList.length := by rw [hl]; kernel_rfl
      generalize cs.toList = Z at *
      clear hcs hlen hget HR SK SZ hl
      have GY := Lib.hid (fun (i : Nat) (hi : i < 251) (h : (i : Int) ∈ S 2) => selU_yes (P := fun v => v ∈ S 2) hi h)
      have GN := Lib.hid (fun (i : Nat) (hi : i < 251) (h : ¬ (i : Int) ∈ S 2) => selU_no (P := fun v => v ∈ S 2) hi h)
      have G0 := Lib.hid (selU_zero (fun v => v ∈ S 2))
      have GA := Lib.hid (selU_all (fun v => v ∈ S 2))
      have GL := Lib.hid (selU_len (fun v => v ∈ S 2))
      obtain ⟨G, hG⟩ : ∃ G : Nat → List Int, ∀ n, selU (fun v => v ∈ S 2) n = G n := ⟨_, fun _ => rfl⟩
      simp only [hG] at GY GN G0 GA GL
      clear hG
      go_wp2_with (first | (refine wpList_load_mid rfl 68 _ rfl w.heap.size 0 rfl Z _ RA.out Try.underlying68 rfl hi9 ?_) | fail)
      clear hi9 RA
      go_loopw [8, 30] (fun vo vi wr => ∃ (i : Nat) (A9 : Option Addr) (c9 : Nat), vi = .int .i64 i ∧ i ≤ 251 ∧ vo = .slice A9 (G i).length c9 ∧ Hid (OwnI wr w.heap.size (.slice A9 (G i).length c9) (G i)) ∧ Hid (Below w.heap.size w wr)) (fun _ vi _ => 251 - (intOf vi).toNat)
      case atStart => exact ⟨0, none, 0, rfl, Nat.zero_le _, by rw [G0.out]; rfl, Lib.hid (by rw [G0.out]; exact OwnF.nil _ _), HB⟩
      case round =>
        obtain ⟨i, A9, c9, rfl, hi, rfl, HO, IB⟩ := hrel
        clear HB
        by_cases hil : i < 251
        · have s3 := IX.out i hil
          unfold inRow at s3
          have LG := GL.out i
          have q0 : (i : Int) < 251 := by omega
          by_cases hm : (i : Int) ∈ S 2
          · rw [dt hm] at s3
            have E := Lib.hid (GY.out i hil hm)
            obtain ⟨v6, w6, hap, ho6, hb6⟩ := app_int HO.out (i : Int) (by unfold I64; omega) (by omega) IB.out.size
            rw [← E.out] at ho6
            obtain ⟨A6, c6, rfl, _⟩ := ho6.form
            have O6 := Lib.hid ho6
            have B6 := Lib.hid (IB.out.trans hb6)
            clear ho6 hb6 hm HO IB GY GN E
            go_wp2_with (at_builtin; refine Lib.wpList_append_run _ rfl _ _ _ _ rfl _ _ rfl rfl _ _ hap ?_)
            go_roundw
            case rel => exact ⟨i + 1, A6, c6, by go_num, hil, rfl, O6, B6⟩
            case measure => simp [intOf]; omega
          · rw [df hm] at s3
            have E := Lib.hid (GN.out i hil hm)
            clear hm GY GN
            go_wp2_with fail
            go_roundw
            case rel => exact ⟨i + 1, A9, c9, by go_num, hil, by rw [E.out], Lib.hid (by rw [E.out]; exact HO.out), IB⟩
            case measure => simp [intOf]; omega
        · obtain rfl : i = 251 := by omega
          have E := Lib.hid (show F = G 251 from ST.out.trans GA.out.symm)
          clear GY GN G0 GA
          go_wp2_with fail
          go_ret
          exact ⟨_, rfl, by rw [E.out]; exact HO.out, IB.out⟩
end Go.Proofs.Ytcnmknhjmflinaa.Rdo
