/- Claims in memory; contracts of Check, on both sides. -/
import Derived.Test.YtjhnilfnnongeaaAdB
import Derived.Deep.RegionHeld3
set_option linter.unusedVariables false
namespace Go.Proofs.Ytjhnilfnnongeaa.Adr
open Go.RowKit

/-- A claim in cells. -/
def fC : Flat Clm := ⟨3, fun c => [.int .u64 c.1, .int .i64 c.2.1, .int .i64 c.2.2], fun c => (0 ≤ c.1 ∧ c.1 < 18446744073709551616) ∧ I64 c.2.1 ∧ I64 c.2.2, by decide, fun _ => rfl, fun _ v h => by simp at h; rcases h with rfl | rfl | rfl <;> rfl⟩
abbrev ClAt (w : World) (B : Nat) (A : Option Addr) (l : List Clm) : Prop := FlAt fC w B A l
theorem cl_cell {w : World} {B : Nat} {A : Option Addr} {l : List Clm} (h : ClAt w B A l) (i : Nat) (hi : i < l.length) : ∃ b p, A = some ⟨b, p, none⟩ ∧ b < B ∧ w.cell? ⟨b, p + i * 3, none⟩ = some (.int .u64 l[i].1) ∧ w.cell? ⟨b, p + i * 3 + 1, none⟩ = some (.int .i64 l[i].2.1) ∧ w.cell? ⟨b, p + i * 3 + 2, none⟩ = some (.int .i64 l[i].2.2) ∧
    (0 ≤ l[i].1 ∧ l[i].1 < 18446744073709551616) ∧ I64 l[i].2.1 ∧ I64 l[i].2.2 := by
  obtain ⟨b, p, h1, h2, h3, h4⟩ := h i hi
  exact ⟨b, p, h1, h2, h3 0 _ rfl, h3 1 _ rfl, h3 2 _ rfl, h4.1, h4.2.1, h4.2.2⟩
/-- The block of one claim. -/
abbrev bxC (e a t : Int) : Obj := .cells #[.int .u64 e, .int .i64 a, .int .i64 t] 40

/-- Maps from identifiers to bools. -/
abbrev mUB : MapTy Int := ⟨49, 22, 4, fun x => .int .u64 x, fun x => (Lit.int .u64 x).wf = true, okB, .bool false⟩
theorem oUB : mUB.Of Try.prog := int_map Try.underlying49 Try.underlying22 (okB_of Try.underlying4) ⟨false, rfl⟩ (fun w => by kernel_rfl)
abbrev UB (w : World) (b n : Nat) (f : Int → Option Value) : Prop := MpAt mUB Try.prog w b n f
theorem ub_get {w : World} {b n : Nat} {f : Int → Option Value} (h : UB w b n f) (a : Int) (ha : 0 ≤ a ∧ a < 18446744073709551616) : (Instr.lookup 49 (.map (some b)) (.int .u64 a) false).run Try.prog w = .ok ((f a).getD (.bool false)) w := h.get oUB a (u64_wf ha)
theorem ub_put {w : World} {b n : Nat} {f : Int → Option Value} (h : UB w b n f) (a : Int) (ha : 0 ≤ a ∧ a < 18446744073709551616) (x : Bool) (hn : n ≤ 1000000000) :
    ∃ w', (Instr.mapUpdate 49 (.map (some b)) (.int .u64 a) (.bool x)).run Try.prog w = .ok () w' ∧ UB w' b (n + 1) (fun y => if y = a then some (.bool x) else f y) ∧ w.grownBy w' (some b) := h.put oUB a (.bool x) (u64_wf ha) ⟨x, rfl⟩ (by unfold maxLen; omega)
/-- The identifiers seen. -/
def sn (s : List Int) (a : Int) : Option Value := if a ∈ s then some (.bool true) else none
theorem sn_snoc (s : List Int) (x a : Int) : (if a = x then some (Value.bool true) else sn s a) = sn (s ++ [x]) a := by
  unfold sn
  by_cases e : a = x
  · subst e; simp
  · rw [if_neg e]; simp [e]
theorem map_take_one (l : List Clm) (k : Nat) (h : k < l.length) : (l.take (k + 1)).map Prod.fst = (l.take k).map Prod.fst ++ [l[k].1] := by rw [take_one l k h, List.map_append]; rfl
theorem chkG_cons (s : List Int) (c : Clm) (r : List Clm) : chkG s (c :: r) = if c.1 ∈ s then 9 else if bad c then 2 else chkG (s ++ [c.1]) r := rfl
theorem bad_t {e a t : Int} (h : t < 0 ∨ 100000 < t ∨ a ≠ pk e t) : bad (e, a, t) = true := by
  cases hb : bad (e, a, t) with
  | true => rfl
  | false => have := (bad_iff (e, a, t)).1 hb; simp only at this; omega
theorem bad_f {e a t : Int} (h1 : 0 ≤ t) (h2 : t ≤ 100000) (h3 : a = pk e t) : bad (e, a, t) = false := (bad_iff (e, a, t)).2 ⟨h1, h2, h3⟩

set_option maxRecDepth 100000 in
set_option maxHeartbeats 4000000 in
theorem acheck_any (A : Option Addr) (c : Nat) (l : List Clm) (w : World) (hl : l.length ≤ 9223372036854775807) (hA : ClAt w w.heap.size A l) :
    Calls Try.prog 17 #[.slice A l.length c] w (OutI w (chk l)) := by
  have HA := Lib.hid hA
  clear hA
  by_cases h24 : 24 < l.length
  · have R := Lib.hid (show chk l = 3 from if_pos h24)
    go_enter Try.func17, Try.ntmps17
    go_wp2_with fail
    go_ret
    exact outI R.out.symm (Below.refl _ _)
  have CK := Lib.hid (show chk l = chkG [] l from if_neg h24)
  have hmm := @run_makeMap Try.prog
  have M0 := Lib.hid (show UB (w.alloc (.map #[] 0)) w.heap.size 0 (sn ((l.take 0).map Prod.fst)) from (MpAt.made w).same fun a => by unfold sn; simp)
  go_enter Try.func17, Try.ntmps17
  go_wp2_with fail
  clear hmm
  go_loopw [12] (fun i wr => ∃ k : Nat, i = .int .i64 k ∧ k ≤ l.length ∧ chk l = chkG ((l.take k).map Prod.fst) (l.drop k) ∧ UB wr w.heap.size k (sn ((l.take k).map Prod.fst)) ∧ Below w.heap.size w wr) (fun i _ => l.length - (intOf i).toNat)
  case atStart => exact ⟨0, rfl, Nat.zero_le _, by rw [CK.out]; rfl, M0.out, alloc_below _ _⟩
  case round =>
    obtain ⟨k, rfl, hk, hal, hm, hb⟩ := hrel
    have B := Lib.hid hb
    have hz := hb.size
    have M := Lib.hid hm
    have hlt0 := hm.lt
    by_cases hlt : k < l.length
    · obtain ⟨b, p, rfl, hbw, g0, g1, g2, g3, g4, g5⟩ := cl_cell (HA.out.below hb) k hlt
      rw [drop_one l k hlt] at hal
      have AL := Lib.hid hal
      have MT := Lib.hid (map_take_one l k hlt)
      clear hal hb hm
      have e0 : l[k] = (l[k].1, l[k].2.1, l[k].2.2) := rfl
      rw [e0] at AL
      clear e0
      generalize l[k].1 = e at *
      generalize l[k].2.1 = a at *
      generalize l[k].2.2 = t at *
      generalize (l.take k).map Prod.fst = s at *
      have M1 := Lib.hid (M.out.alloc (bxC e a t))
      have hget := ub_get M1.out e g3
      by_cases hin : e ∈ s
      · rw [show sn s e = some (.bool true) from if_pos hin, show (some (Value.bool true)).getD (.bool false) = .bool true from rfl] at hget
        have R := Lib.hid (show chk l = 9 by rw [AL.out, chkG_cons, if_pos hin])
        clear hin
        go_wp2_with fail
        go_ret
        exact outI R.out.symm (B.out.alloc hz _)
      · rw [show sn s e = none from if_neg hin, show (none : Option Value).getD (.bool false) = .bool false from rfl] at hget
        have AL2 := Lib.hid (show chk l = if bad (e, a, t) then 2 else chkG (s ++ [e]) (l.drop (k + 1)) by rw [AL.out, chkG_cons, if_neg hin])
        obtain ⟨w2, hput, hm', hg⟩ := ub_put M1.out e g3 true (by omega)
        have M2 := Lib.hid (show UB w2 w.heap.size (k + 1) (sn ((l.take (k + 1)).map Prod.fst)) by rw [MT.out]; exact hm'.same fun y => sn_snoc s e y)
        have B2 := Lib.hid (below_put (B.out.alloc hz _) hg (Nat.le_trans hz (by simp)) (Nat.le_refl _))
        have BX : w2.heap[wr.heap.size]? = some (bxC e a t) := blk_grown (blk_new _ _) hg (by simp; omega)
        have c0 := blk_cell BX 0 (v := .int .u64 e) rfl
        have c1 := blk_cell BX 1 (v := .int .i64 a) rfl
        have c2 := blk_cell BX 2 (v := .int .i64 t) rfl
        have hz2 := B2.out.size
        have CS := Lib.hid (fun w' (h : Below w2.heap.size w2 w') => And.intro (blk_cell (blk_below BX h (blk_lt BX)) 0 (v := .int .u64 e) rfl) (And.intro (blk_cell (blk_below BX h (blk_lt BX)) 1 (v := .int .i64 a) rfl) (blk_cell (blk_below BX h (blk_lt BX)) 2 (v := .int .i64 t) rfl)))
        clear hm' hg hin BX
        by_cases t1 : t < 0
        · have R := Lib.hid (show chk l = 2 by rw [AL2.out, if_pos (bad_t (Or.inl t1))])
          have d1 := dt t1
          go_wp2_with fail
          go_quiet (fail)
          go_wp2_with fail
          go_ret
          exact outI R.out.symm (below_drewN B2.out _)
        · have d1 := df t1
          by_cases t2 : 100000 < t
          · have R := Lib.hid (show chk l = 2 by rw [AL2.out, if_pos (bad_t (Or.inr (Or.inl t2)))])
            have d2 := dt t2
            go_wp2_with fail
            go_quiet (fail)
            go_wp2_with fail
            go_ret
            exact outI R.out.symm (below_drewN B2.out _)
          · have d2 := df t2
            have PK := Lib.hid (fun w => apick_any e t w g3 g5)
            obtain ⟨q, hq⟩ : ∃ q, q = pk e t := ⟨_, rfl⟩
            rw [← hq] at PK
            have HQ := Lib.hid hq
            clear hq c0 c1 c2
            by_cases h3 : a = q
            · have R := Lib.hid (show chk l = chkG ((l.take (k + 1)).map Prod.fst) (l.drop (k + 1)) by rw [AL2.out, if_neg (by rw [bad_f (by omega) (by omega) (h3.trans HQ.out)]; decide), MT.out])
              have n1 : (a != q) = false := by simpa using h3
              have n2 : decide (a = q) = true := dt h3
              clear h3
              go_wp2_with fail
              have Z0 : Below w2.heap.size w2 w2.drew := (Below.refl _ _).drew
              go_region_held3 (fun w' => w'.cell? ⟨wr.heap.size, 0, none⟩ = some (.int .u64 e) ∧ w'.cell? ⟨wr.heap.size, 1, none⟩ = some (.int .i64 a) ∧ w'.cell? ⟨wr.heap.size, 2, none⟩ = some (.int .i64 t))
                (first | exact CS.out _ Z1 | exact CS.out _ Z0 | fail)
                (first
                | (go_at_call 13; refine (PK.out _).mono ?_; rintro _ wa ⟨rfl, hb⟩; have Z1 := Z0.trans (hb.mono Z0.size); clear hb) | fail)
              all_goals
                go_wp2_with fail
                go_roundw
              case rel => exact ⟨k + 1, by go_num, hlt, R.out, M2.out.below Z1, B2.out.trans (Z1.mono hz2)⟩
              case measure => simp [intOf]; omega
            · have R := Lib.hid (show chk l = 2 by rw [AL2.out, if_pos (bad_t (Or.inr (Or.inr (by rw [← HQ.out]; exact h3))))])
              have n1 : (a != q) = true := by simpa using h3
              have n2 : decide (a = q) = false := df h3
              clear h3
              go_wp2_with fail
              have Z0 : Below w2.heap.size w2 w2.drew := (Below.refl _ _).drew
              go_region_held3 (fun w' => w'.cell? ⟨wr.heap.size, 0, none⟩ = some (.int .u64 e) ∧ w'.cell? ⟨wr.heap.size, 1, none⟩ = some (.int .i64 a) ∧ w'.cell? ⟨wr.heap.size, 2, none⟩ = some (.int .i64 t))
                (first | exact CS.out _ Z1 | exact CS.out _ Z0 | fail)
                (first
                | (go_at_call 13; refine (PK.out _).mono ?_; rintro _ wa ⟨rfl, hb⟩; have Z1 := Z0.trans (hb.mono Z0.size); clear hb) | fail)
              all_goals
                go_wp2_with fail
                go_ret
                exact outI R.out.symm (B2.out.trans (Z1.mono hz2))
    · rw [List.drop_eq_nil_of_le (by omega)] at hal
      have R := Lib.hid (show chk l = 0 by rw [hal]; rfl)
      clear hal hb hm
      go_wp2_with fail
      go_ret
      exact outI R.out.symm B.out
end Go.Proofs.Ytjhnilfnnongeaa.Adr
