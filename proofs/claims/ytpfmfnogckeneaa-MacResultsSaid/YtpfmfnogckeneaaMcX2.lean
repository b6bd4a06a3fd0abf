/- Package mac: slices.Delete of one entry. -/
import Derived.Test.YtpfmfnogckeneaaMcX1
import Derived.Test.YtpfmfnogckeneaaIn
import Derived.Test.YtpfmfnogckeneaaCp
import Derived.Deep.RegionHeld
set_option linter.unusedVariables false
namespace Go.Proofs.Ytpfmfnogckeneaa.Mcq
open Go.RowKit
open Mbx (Fm zf fmC fmV FOk fF)

theorem zat_zero {o : Oper} {r : List Oper} : (o :: r).toArray[0]? = some o := rfl
theorem zat_succ {x o : Oper} {r : List Oper} {n : Nat} (h : r.toArray[n]? = some o) : (x :: r).toArray[n + 1]? = some o := by simpa using h
theorem own_ro {w : World} {B : Nat} {A : Option Addr} {c : Nat} {l : List Sd} (h : OwnS w B (.slice A l.length c) l) (hl : l ≠ []) : ∃ g cur, A = some ⟨g, 0, none⟩ ∧ RoT fS 42 w B g 0 c cur l ∧ cur.size = c * 11 ∧ c ≤ maxLen := by
  obtain ⟨⟨h0, h1⟩, h2⟩ := h
  rcases h1 with ⟨_, e⟩ | ⟨g, cap, cur, hv, hB, hg, hn, hm, hs, ht⟩
  · exact absurd (List.eq_nil_of_length_eq_zero e) hl
  · simp only [Value.slice.injEq, true_and] at hv
    obtain ⟨rfl, rfl⟩ := hv
    have hs : cur.size = c * fS.sz := hs
    have ht : cur.toList.take (l.length * fS.sz) = l.flatMap fS.enc := ht
    refine ⟨g, cur, rfl, ⟨hB, hg, hn, by rw [hs]; omega, fun j u hu => ?_, h2⟩, hs, hm⟩
    have hj : j < l.length * fS.sz := by rw [← flat_len (F := fS)]; exact (List.getElem?_eq_some_iff.1 hu).1
    rw [← ht, List.getElem?_take_of_lt hj] at hu
    rw [Nat.zero_add]
    exact hu
theorem ro_own {w : World} {B g c : Nat} {cur : Array Value} {l : List Sd} (h : RoT fS 42 w B g 0 c cur l) (hs : cur.size = c * 11) (hm : c ≤ maxLen) : OwnS w B (.slice (some ⟨g, 0, none⟩) l.length c) l := by
  refine ⟨⟨flat_len l, Or.inr ⟨g, c, cur, rfl, h.base, h.blk, h.len, hm, hs, ?_⟩⟩, h.ok⟩
  have hll : (l.flatMap fS.enc).length = l.length * fS.sz := flat_len l
  have hle : l.length * fS.sz ≤ c * fS.sz := Nat.mul_le_mul_right _ h.len
  have hs' : cur.toList.length = c * fS.sz := by rw [Array.length_toList]; exact hs
  show cur.toList.take (l.length * fS.sz) = _
  apply List.ext_getElem?
  intro j
  by_cases hj : j < l.length * fS.sz
  · rw [List.getElem?_take_of_lt hj]
    have := h.has j _ (List.getElem?_eq_getElem (by rw [hll]; exact hj))
    rw [Nat.zero_add] at this
    rw [this, List.getElem?_eq_getElem (by rw [hll]; exact hj)]
  · rw [List.getElem?_eq_none (by rw [List.length_take]; omega), List.getElem?_eq_none (by omega)]
set_option maxRecDepth 100000 in
set_option maxHeartbeats 4000000 in
theorem pdelete_any (A : Option Addr) (c : Nat) (l : List Sd) (k B : Nat) (w : World) (hl : l.length ≤ 1000) (hk : k < l.length) (h : OwnS w B (.slice A l.length c) l) :
    Calls Try.prog 24 #[.slice A l.length c, .int .i64 (k : Int), .int .i64 ((k : Int) + 1)] w (fun e w' => e = .returned (.slice A (l.eraseIdx k).length c) ∧ OwnS w' B (.slice A (l.eraseIdx k).length c) (l.eraseIdx k) ∧ w.grownBy w' (Value.ownBlock (.slice A l.length c))) := by
  obtain ⟨g, cur, rfl, R, hsz, hcm⟩ := own_ro h (fun e => by rw [e] at hk; simp at hk)
  obtain ⟨off, hoff⟩ : ∃ off : Nat, off = 0 := ⟨_, rfl⟩
  rw [← hoff] at R ⊢
  have hcap := R.len
  have bd := below_drewN (Below.refl w.heap.size w) 1
  have R1 : RoT fS 42 w.drew B g off c cur l := R.below bd
  have s3 := RoT.part3 (F := fS) utS szS g off l.length c k (k + 1) l.length (by omega) (by omega) hcap (k : Int) ((k : Int) + 1) rfl (by omega)
  rw [if_neg (by omega)] at s3
  have st := RoT.to (F := fS) utS szS g off l.length c k (by omega)
  have sf := RoT.from (F := fS) utS szS g off l.length c (k + 1) (by omega) ((k : Int) + 1) (by omega)
  have el : (l.take k).length = k := by rw [List.length_take]; omega
  have ed : (l.drop (k + 1)).length = l.length - (k + 1) := List.length_drop
  have en : (l.eraseIdx k).length = l.length - 1 := by rw [List.length_eraseIdx, if_pos hk]
  have ee : l.take k ++ l.drop (k + 1) = l.eraseIdx k := (List.eraseIdx_eq_take_drop_succ l k).symm
  obtain ⟨w1, cur1, hap, Q1, sz1, gr1⟩ := (R1.take k).app eSd 22 (if c = k + 1 then ⟨g, off, none⟩ else ⟨g, off + (k + 1) * fS.sz, none⟩) (c - (k + 1)) (m := l.drop (k + 1)) (fun j u hu => by
      by_cases hc : c = k + 1
      · rw [List.drop_of_length_le (by omega)] at hu
        simp at hu
      · rw [if_neg hc, add_at, cell_of_row _ g _ cur _ (0, 0) R1.blk, ← Array.getElem?_toList]
        exact R1.drop (k + 1) (by omega) j u hu) (fun x hx => R.ok x (List.mem_of_mem_drop hx)) (by omega)
  rw [ee] at Q1
  rw [el, ed, show k + (l.length - (k + 1)) = l.length - 1 by omega] at hap
  have hAif : (if c = k + 1 then some (⟨g, off, none⟩ : Addr) else some ⟨g, off + (k + 1) * 11, none⟩) = some (if c = k + 1 then (⟨g, off, none⟩ : Addr) else ⟨g, off + (k + 1) * fS.sz, none⟩) := by split <;> rfl
  have hAif0 : (some (if c = k + 1 then (⟨g, off, none⟩ : Addr) else ⟨g, off + (k + 1) * fS.sz, none⟩)) = some (if c = k + 1 then (⟨g, off, none⟩ : Addr) else ⟨g, off + (k + 1) * fS.sz, none⟩) := rfl
  clear hAif0
  generalize (if c = k + 1 then (⟨g, off, none⟩ : Addr) else ⟨g, off + (k + 1) * fS.sz, none⟩) = A2 at *
  replace hAif := Lib.hid hAif
  have i0 : (0 : Int) ≤ (k : Int) := by omega
  have i1 : (k : Int) ≤ (c : Int) := by omega
  have i2 : (k : Int) + 1 ≤ (l.length : Int) := by omega
  have i3 : (0 : Int) ≤ (k : Int) + 1 := by omega
  have s2 := RoT.part (F := fS) utS szS g off (l.length - 1) c (l.length - 1) l.length (by omega) (by omega) ((l.length - 1 : Nat) : Int) (l.length : Int) rfl rfl
  rw [if_neg (by omega)] at s2
  obtain ⟨w2, cur2, hcl, Q2, sz2, gr2⟩ := Q1.clear Try.underlying22 (z := #[.int .i64 0, .int .i64 0, .int .i64 0, .int .i64 0, .int .i64 0, .int .i64 0, .int .i64 0, .bool false, .string ByteArray.empty, .int .i64 0, .int .i64 0]) (fun w => by kernel_rfl) rfl (by intro v hv; simp at hv; rcases hv with rfl | rfl | rfl | rfl | rfl | rfl | rfl | rfl | rfl | rfl | rfl <;> rfl) 22 (l.length - 1) (l.length - (l.length - 1)) (c - (l.length - 1)) (by omega) (by omega)
  have GR := Lib.hid (gr_trans (gr_trans (gr_drew w 1 (some g)) gr1) gr2)
  have RES := Lib.hid (show OwnS w2 B (.slice (some ⟨g, off, none⟩) (l.eraseIdx k).length c) (l.eraseIdx k) from by subst hoff; exact ro_own Q2 (by rw [sz2, sz1]; exact hsz) hcm)
  have d1 : ((k : Int) == (k : Int) + 1) = false := by simp; omega
  have d0 : ((l.length - 1 : Nat) : Int) = ((l.length - 1 : Nat) : Int) := rfl
  have hcl2 : ∀ ty, (Builtin.clear_ #[22] ty #[.slice (some ⟨g, off + (l.length - 1) * fS.sz, none⟩) (l.length - (l.length - 1)) (c - (l.length - 1))]).run Try.prog w1 = .ok (.tuple #[]) w2 := fun ty => hcl
  have LE := Lib.hid en
  obtain ⟨N, hN⟩ : ∃ N, l.length - 1 = N := ⟨_, rfl⟩
  rw [hN] at hap s2 hcl2 LE
  obtain ⟨A3, hA3⟩ : ∃ A3, (⟨g, off + N * fS.sz, none⟩ : Addr) = A3 := ⟨_, rfl⟩
  rw [hA3] at s2 hcl2
  clear hN hA3 d0 R R1 h hsz hcm el ed en ee hcl Q1 Q2 sz1 sz2 gr1 gr2 bd hcap hoff
  generalize l.eraseIdx k = E at *
  go_enter Try.func24, Try.ntmps24
  go_wp2_with fail
  refine wp_region_held_drew (S := (fun _ => True)) (by kernel_rfl) (trivial) (fun hHeld => ?_)
  refine wpAnyH_take (i := 0) (v := (.slice (some ⟨g, off, none⟩) l.length c)) zat_zero (by kernel_rfl) (by kernel_rfl) (by kernel_rfl) (fun _ _ _ h => h) (Or.inl ⟨by kernel_rfl, fun wy hSw => ?_⟩) (by assumption) ?_
  · (try dsimp only at hSw); go_simp
  try simp only [Act.put, List.setIfInBounds_toArray, List.set_cons_zero, List.set_cons_succ]
  refine wpAnyH_take (i := 1) (v := (.int .i64 (k : Int))) (zat_succ zat_zero) (by kernel_rfl) (by kernel_rfl) (by kernel_rfl) (fun _ _ _ h => h) (Or.inl ⟨by kernel_rfl, fun wy hSw => ?_⟩) (by assumption) ?_
  · (try dsimp only at hSw); go_simp
  try simp only [Act.put, List.setIfInBounds_toArray, List.set_cons_zero, List.set_cons_succ]
  refine wpAnyH_take (i := 2) (v := (.slice (some ⟨g, off, none⟩) k c)) (zat_succ (zat_succ zat_zero)) (by kernel_rfl) (by kernel_rfl) (by kernel_rfl) (fun _ _ _ h => h) (Or.inl ⟨by kernel_rfl, fun wy hSw => ?_⟩) (by assumption) ?_
  · go_simp; first | done | (intro h9; omega) | (rw [st]; done) | simp [st]
  try simp only [Act.put, List.setIfInBounds_toArray, List.set_cons_zero, List.set_cons_succ]
  refine wpAnyH_take (i := 3) (v := (.slice (some ⟨g, off, none⟩) l.length c)) (zat_succ (zat_succ (zat_succ zat_zero))) (by kernel_rfl) (by kernel_rfl) (by kernel_rfl) (fun _ _ _ h => h) (Or.inl ⟨by kernel_rfl, fun wy hSw => ?_⟩) (by assumption) ?_
  · (try dsimp only at hSw); go_simp
  try simp only [Act.put, List.setIfInBounds_toArray, List.set_cons_zero, List.set_cons_succ]
  refine wpAnyH_take (i := 4) (v := (.int .i64 ((k : Int) + 1))) (zat_succ (zat_succ (zat_succ (zat_succ zat_zero)))) (by kernel_rfl) (by kernel_rfl) (by kernel_rfl) (fun _ _ _ h => h) (Or.inl ⟨by kernel_rfl, fun wy hSw => ?_⟩) (by assumption) ?_
  · (try dsimp only at hSw); go_simp
  try simp only [Act.put, List.setIfInBounds_toArray, List.set_cons_zero, List.set_cons_succ]
  refine wpAnyH_take (i := 5) (v := (.slice (some A2) (l.length - (k + 1)) (c - (k + 1)))) (zat_succ (zat_succ (zat_succ (zat_succ (zat_succ zat_zero))))) (by kernel_rfl) (by kernel_rfl) (by kernel_rfl) (fun _ _ _ h => h) (Or.inl ⟨by kernel_rfl, fun wy hSw => ?_⟩) (by assumption) ?_
  · go_simp; first | done | (intro h9; omega) | (rw [hAif.out]; done) | simp [hAif.out]
  try simp only [Act.put, List.setIfInBounds_toArray, List.set_cons_zero, List.set_cons_succ]
  refine wpAnyH_ready (rs := [6]) (by kernel_rfl) (by simp) ?_
  refine AllReadyH.cons (zat_succ (zat_succ (zat_succ (zat_succ (zat_succ (zat_succ zat_zero)))))) (fun K hK => ?_) AllReadyH.nil
  rw [if_pos (by kernel_rfl)]
  refine Lib.wp_append_run _ _ _ _ _ rfl _ _ rfl rfl _ _ hap ?_
  refine hK.out _ _ (trivial) (fun hHeld => ?_)
  clear hK K
  try simp only [Act.put, List.setIfInBounds_toArray, List.set_cons_zero, List.set_cons_succ]
  refine wpAnyH_take (i := 7) (v := (.slice (some ⟨g, off, none⟩) N c)) (zat_succ (zat_succ (zat_succ (zat_succ (zat_succ (zat_succ (zat_succ zat_zero))))))) (by kernel_rfl) (by kernel_rfl) (by kernel_rfl) (fun _ _ _ h => h) (Or.inl ⟨by kernel_rfl, fun wy hSw => ?_⟩) (by assumption) ?_
  · (try dsimp only at hSw); go_simp
  try simp only [Act.put, List.setIfInBounds_toArray, List.set_cons_zero]
  refine wpAnyH_done (by kernel_rfl) ?_ _
  go_wp2_with fail
  go_ret
  exact ⟨by rw [LE.out]; rfl, RES.out, GR.out⟩
end Go.Proofs.Ytpfmfnogckeneaa.Mcq
