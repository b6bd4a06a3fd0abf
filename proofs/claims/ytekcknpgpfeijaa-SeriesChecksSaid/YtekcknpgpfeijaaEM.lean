/- The walks of SeriesChecks, SeriesAdds and SeriesParts: regions that draw their order. -/
import Derived.Test.YtekcknpgpfeijaaEL
import Derived.Deep.RegionHeld3
import Derived.StillTailTactics
set_option linter.unusedVariables false
namespace Go.Proofs.Ytekcknpgpfeijaa.Series
open Go.RowKit Go.Shelf

/-- Memory has only grown since this block was laid. -/
def Bx (w : World) (cs : Array Value) (T : TypeId) (wr : World) : Prop := Below (w.alloc (.cells cs T)).heap.size (w.alloc (.cells cs T)) wr
namespace Bx
variable {w wr wt : World} {cs : Array Value} {T : TypeId}
theorem start (w : World) (cs : Array Value) (T : TypeId) : Bx w cs T (w.alloc (.cells cs T)) := Below.refl _ _
theorem next (h : Bx w cs T wr) (hb : Below wr.heap.size wr wt) : Bx w cs T wt := Below.trans h (hb.mono (Below.size h))
theorem cell (h : Bx w cs T wr) (j : Nat) {v : Value} (hv : cs[j]? = some v) : wr.cell? ⟨w.heap.size, j, none⟩ = some v := box_at h j hv
theorem below (h : Bx w cs T wr) : Below w.heap.size w wr := box_below h
theorem ns (h : Bx w cs T wr) {A : Option Addr} {l : List Int} (hA : NsAt w w.heap.size A l) : NsAt wr wr.heap.size A l := hA.next h.below
theorem drew (h : Bx w cs T wr) : Bx w cs T wr.drew := h.next (Below.refl _ _).drew
end Bx
theorem outI_same {P : Program} {f : FuncId} {args : Array Value} {w : World} {n : Int} (h : Calls P f args w fun e w' => e = .returned (.int .i64 n) ∧ w = w') : Calls P f args w (OutI w n) :=
  h.mono fun e w' ⟨h1, h2⟩ => ⟨h1, by rw [h2]; exact Below.refl _ _⟩

/-- The lexical walk of the head of a region, as a structure, so that no tactic reckons it. -/
structure SH (P : Program) (ops : Array Oper) (w : World) (Q : Act → Prop) (l : List Oper) (a : Act) : Prop where
  out : wpStill P ops w Q l a
section
variable {P : Program} {ops : Array Oper} {w : World} {Q : Act → Prop} {a : Act} {o : Oper} {rest : List Oper}
theorem sh_skip (hw : Region.wanted o (yielded ops a.tmps) = false) (h : SH P ops w Q rest (a.put o.dst undef)) : SH P ops w Q (o :: rest) a :=
  ⟨wpStill_step fun K hK => by rw [if_neg (by rw [hw]; exact Bool.false_ne_true)]; exact hK _ h.out⟩
theorem sh_value (v : Value) (hr : (execOp a.eval o).run P w = .ok (.value v) w) (hw : Region.wanted o (yielded ops a.tmps) = true) (h : SH P ops w Q rest (a.put o.dst v)) : SH P ops w Q (o :: rest) a :=
  ⟨wpStill_step fun K hK => by rw [if_pos hw]; unfold Oper.still; rw [hr, Oper.stillUpon_value]; exact hK _ h.out⟩
theorem sh_nil (h : Q a) : SH P ops w Q [] a := ⟨h⟩
end

section
variable (w : World) (A : Option Addr) (c : Nat) (l : List Int)
set_option maxRecDepth 100000 in
set_option maxHeartbeats 2000000 in
theorem law_checks (x y n : Int) (hl : l.length ≤ 9223372036854775807) (hA : NsAt w w.heap.size A l) : Calls Try.prog 3 #[.slice A l.length c, .agg #[.int .i64 x, .int .i64 y], .int .i64 n] w (OutB w true) := by
  have X0 := Bx.start w #[.int .i64 x, .int .i64 y] 23
  by_cases h : 200 < l.length
  · have d1 := dt (show (200 : Int) < (l.length : Int) by omega)
    clear hA
    go_enter Try.func3, Try.ntmps3
    go_wp2_with fail
    refine wp_region_still_tail 22 (by kernel_rfl) (by kernel_rfl) (SH.out ?_)
    simp only [List.take_succ_cons, List.take_zero, List.drop_succ_cons, List.drop_zero]
    refine sh_value (.slice A l.length c) (by kernel_rfl) (by kernel_rfl) ?_
    refine sh_value (.int .i64 (l.length : Int)) (by kernel_rfl) (by kernel_rfl) ?_
    refine sh_value (.bool true) ((show _ = Result.ok (Next.value (.bool (decide ((200 : Int) < (l.length : Int))))) _ from by kernel_rfl).trans (by rw [d1])) (by kernel_rfl) ?_
    refine sh_value (.bool true) (by kernel_rfl) (by kernel_rfl) ?_
    iterate 18 refine sh_skip (by kernel_rfl) ?_
    refine sh_nil ?_
    simp only [Act.put, List.setIfInBounds_toArray, List.set_cons_zero, List.set_cons_succ]
    go_wp2_with fail
    go_ret
    exact outB rfl X0.drew.below
  · have K1 := Lib.hid (fun wr (h : Bx w #[.int .i64 x, .int .i64 y] 23 wr) => outI_same (check_any A c l x y n wr hl (h.ns hA)))
    have K2 := Lib.hid (fun wr (h : Bx w #[.int .i64 x, .int .i64 y] 23 wr) => outI_same (rcheck_any A c l x y n wr hl (h.ns hA)))
    have CC := Lib.hid (fun wr (h : Bx w #[.int .i64 x, .int .i64 y] 23 wr) => And.intro (h.cell 0 (v := .int .i64 x) rfl) (h.cell 1 (v := .int .i64 y) rfl))
    have d1 := df (show ¬ (200 : Int) < (l.length : Int) by omega)
    have c0 := (CC.out _ X0).1
    have c1 := (CC.out _ X0).2
    clear hA h
    generalize chk l x y n = q at *
    have d2 : (q == q) = true := by simp
    go_enter Try.func3, Try.ntmps3
    go_wp2_with fail
    have Y0 := X0.drew
    go_region_held3 (fun w' => w'.cell? ⟨w.heap.size, 0, none⟩ = some (.int .i64 x) ∧ w'.cell? ⟨w.heap.size, 1, none⟩ = some (.int .i64 y))
      (first | exact CC.out _ Y3 | exact CC.out _ Y2 | exact CC.out _ Y1 | exact CC.out _ Y0 | fail)
      (first
      | (go_at_call 11; refine (K1.out _ Y0).mono ?_; rintro e wa ⟨rfl, hb⟩; have Y1 := Y0.next hb; clear hb)
      | (go_at_call 12; refine (K2.out _ Y1).mono ?_; rintro e wb ⟨rfl, hb⟩; have Y2 := Y1.next hb; clear hb)
      | (go_at_call 13; refine (lives_any _).mono ?_; rintro e wc ⟨rfl, hb⟩; have Y3 := Y2.next hb; clear hb) | fail)
    all_goals
      go_wp2_with fail
      go_ret
      exact outB rfl Y3.below

theorem addL_len96 (l l2 : List Int) : (addL (rd l) (rd l2)).length ≤ 96 := by rw [addL_len]; have := rd_len l; have := rd_len l2; omega
theorem sclL_len96 (l : List Int) (a b : Int) : (sclL (rd l) a b).length ≤ 96 := by simp only [sclL, List.length_map, List.length_range]; exact rd_len l

set_option maxRecDepth 100000 in
set_option maxHeartbeats 4000000 in
theorem law_adds (A2 : Option Addr) (c2 : Nat) (l2 : List Int) (x y : Int) (hl : l.length ≤ 9223372036854775807) (hl2 : l2.length ≤ 9223372036854775807) (hA : NsAt w w.heap.size A l) (hA2 : NsAt w w.heap.size A2 l2) :
    Calls Try.prog 5 #[.slice A l.length c, .slice A2 l2.length c2, .agg #[.int .i64 x, .int .i64 y]] w (OutB w true) := by
  have X0 := Bx.start w #[.int .i64 x, .int .i64 y] 23
  by_cases h : 200 < l.length ∨ 200 < l2.length
  · have D : decide ((200 : Int) < (l.length : Int)) = true ∨ (decide ((200 : Int) < (l.length : Int)) = false ∧ decide ((200 : Int) < (l2.length : Int)) = true) := by
      by_cases h0 : 200 < l.length
      · exact Or.inl (dt (by omega))
      · exact Or.inr ⟨df (by omega), dt (by omega)⟩
    clear hA hA2 h
    rcases D with d1 | ⟨d1, d2⟩
    all_goals
      go_enter Try.func5, Try.ntmps5
      go_wp2_with fail
      refine (lives_any _).mono ?_
      rintro e w1 ⟨rfl, hb⟩
      have B := Lib.hid (X0.next hb).below
      clear hb
      go_wp2_with fail
      go_ret
      exact outB rfl B.out
  · have K1 := Lib.hid (fun wr (h : Bx w #[.int .i64 x, .int .i64 y] 23 wr) => sadd_any A A2 c c2 l l2 wr hl hl2 (h.ns hA) (h.ns hA2))
    have K2 := Lib.hid (fun wr (h : Bx w #[.int .i64 x, .int .i64 y] 23 wr) => radd7_any A A2 c c2 l l2 wr hl hl2 (h.ns hA) (h.ns hA2))
    have K4 := Lib.hid (fun wr (h : Bx w #[.int .i64 x, .int .i64 y] 23 wr) => sscale_any A c l x y wr hl (h.ns hA))
    have K5 := Lib.hid (fun wr (h : Bx w #[.int .i64 x, .int .i64 y] 23 wr) => rscale7_any A c l x y wr hl (h.ns hA))
    have CC := Lib.hid (fun wr (h : Bx w #[.int .i64 x, .int .i64 y] 23 wr) => And.intro (h.cell 0 (v := .int .i64 x) rfl) (h.cell 1 (v := .int .i64 y) rfl))
    have d1 := df (show ¬ (200 : Int) < (l.length : Int) by omega)
    have d2 := df (show ¬ (200 : Int) < (l2.length : Int) by omega)
    have N1 := addL_len96 l l2
    have N2 := sclL_len96 l x y
    clear hA hA2 h
    generalize addL (rd l) (rd l2) = p at *
    generalize sclL (rd l) x y = q at *
    have SM := Lib.hid (fun (A1 A2 : Option Addr) (c1 c2 : Nat) (w : World) (h1 : NsAt w w.heap.size A1 p) (h2 : NsAt w w.heap.size A2 p) => same_any A1 A2 c1 c2 p w (by omega) h1 h2)
    have SN := Lib.hid (fun (A1 A2 : Option Addr) (c1 c2 : Nat) (w : World) (h1 : NsAt w w.heap.size A1 q) (h2 : NsAt w w.heap.size A2 q) => same_any A1 A2 c1 c2 q w (by omega) h1 h2)
    clear N1 N2
    go_enter Try.func5, Try.ntmps5
    go_wp2_with fail
    have Y0 := X0.drew
    go_region_held3 (fun w' => w'.cell? ⟨w.heap.size, 0, none⟩ = some (.int .i64 x) ∧ w'.cell? ⟨w.heap.size, 1, none⟩ = some (.int .i64 y))
      (first | exact CC.out _ Y7 | exact CC.out _ Y6 | exact CC.out _ Y5 | exact CC.out _ Y4 | exact CC.out _ Y3 | exact CC.out _ Y2 | exact CC.out _ Y1 | exact CC.out _ Y0 | fail)
      (first
      | (go_at_call 19; refine (K1.out _ Y0).mono ?_; rintro e wa ⟨A3, c3, rfl, hs, hb⟩; have Y1 := Y0.next hb; have S1 := Lib.hid hs; clear hb hs)
      | (go_at_call 20; refine (K2.out _ Y1).mono ?_; rintro e wb ⟨A4, c4, rfl, hs, hb⟩; have Y2 := Y1.next hb; have S2 := Lib.hid hs; have S1b := Lib.hid (S1.out.next hb); clear hb hs)
      | (go_at_call 18; refine (SN.out A5 A6 c5 c6 _ S5b.out S6.out).mono ?_; rintro e wf ⟨rfl, hb⟩; have Y6 := Y5.next hb; clear hb)
      | (go_at_call 18; refine (SM.out A3 A4 c3 c4 _ S1b.out S2.out).mono ?_; rintro e wc ⟨rfl, hb⟩; have Y3 := Y2.next hb; clear hb)
      | (go_at_call 21; refine (K4.out _ Y3).mono ?_; rintro e wd ⟨A5, c5, rfl, hs, hb⟩; have Y4 := Y3.next hb; have S5 := Lib.hid hs; clear hb hs)
      | (go_at_call 22; refine (K5.out _ Y4).mono ?_; rintro e we ⟨A6, c6, rfl, hs, hb⟩; have Y5 := Y4.next hb; have S6 := Lib.hid hs; have S5b := Lib.hid (S5.out.next hb); clear hb hs)
      | (go_at_call 13; refine (lives_any _).mono ?_; rintro e wg ⟨rfl, hb⟩; have Y7 := Y6.next hb; clear hb) | fail)
    all_goals
      go_wp2_with fail
      go_ret
      exact outB rfl Y7.below

end
end Go.Proofs.Ytekcknpgpfeijaa.Series
