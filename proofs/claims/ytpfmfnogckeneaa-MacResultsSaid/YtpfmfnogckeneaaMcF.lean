/- The reference's Fresh. -/
import Derived.Test.YtpfmfnogckeneaaMcB
import Derived.Test.YtpfmfnogckeneaaQf
import Derived.Test.YtpfmfnogckeneaaQH
import Derived.StillTailTactics
import Derived.Deep.DeepCutAuto
set_option linter.unusedVariables false
namespace Go.Proofs.Ytpfmfnogckeneaa.Mcq
open Go.RowKit

abbrev bxQ (p : Pr) : Obj := .cells #[.int .i64 p.1, .int .i64 p.2] 36
/-- Those of the first k that count. -/
def lsU (l : List Pr) (k : Nat) : List Pr := (l.take k).drop (l.length - 32)
theorem lsU_zero (l : List Pr) : lsU l 0 = [] := by unfold lsU; simp
theorem lsU_end (l : List Pr) : lsU l l.length = last l := by unfold lsU last; rw [List.take_length]
theorem lsU_yes (l : List Pr) (k : Nat) (h : k < l.length) (e : l.length - 32 ≤ k) : lsU l (k + 1) = lsU l k ++ [l[k]] := by
  unfold lsU
  rw [List.take_succ_eq_append_getElem h, List.drop_append_of_le_length (by rw [List.length_take]; omega)]
theorem lsU_no (l : List Pr) (k : Nat) (h : k < l.length) (e : ¬ l.length - 32 ≤ k) : lsU l (k + 1) = lsU l k := by
  unfold lsU
  rw [List.drop_of_length_le (by rw [List.length_take]; omega), List.drop_of_length_le (by rw [List.length_take]; omega)]
theorem lsU_len (l : List Pr) (k : Nat) : (lsU l k).length ≤ k := by unfold lsU; rw [List.length_drop, List.length_take]; omega
theorem app_pair {w : World} {B : Nat} {v : Value} {l : List Pr} (h : OwnF fQ 36 w B v l) (x : Pr) (hx : fQ.ok x) (hl : l.length ≤ 1000000) (hB : B ≤ w.heap.size) :
    ∃ v' w', (Builtin.append_ #[34, 34] 34 #[v, .slice (some ⟨w.heap.size, 0, none⟩) 1 1]).run Try.prog (w.alloc (bxQ x)) = .ok v' w' ∧ OwnF fQ 36 w' B v' (l ++ [x]) ∧ Below B w w' :=
  h.one ePr 34 x #[.int .i64 x.1, .int .i64 x.2] rfl hx (by omega) hB
theorem app_part {w : World} {B : Nat} {v : Value} {l : List Pr} (h : OwnT fQ 36 w B v l) (x : Pr) (hx : fQ.ok x) (hl : l.length ≤ 1000000) (hB : B ≤ w.heap.size) :
    ∃ v' w', (Builtin.append_ #[34, 34] 34 #[v, .slice (some ⟨w.heap.size, 0, none⟩) 1 1]).run Try.prog (w.alloc (bxQ x)) = .ok v' w' ∧ OwnT fQ 36 w' B v' (l ++ [x]) ∧ Below B w w' :=
  h.one ePr 34 x #[.int .i64 x.1, .int .i64 x.2] rfl hx (by omega) hB
theorem utQ : Try.prog.underlying 34 = some (.slice (Try.prog.elem 34)) := by kernel_rfl
theorem szQ (W : World) : (sizeOf (Try.prog.elem 34)).run Try.prog W = .ok fQ.sz W := by show _ = Result.ok 2 W; kernel_rfl
/-- An operation 's[lo:hi]' whose run is known. -/
theorem wpl_slice_run {P : Program} (w : World) {ops : Array Oper} {rest : List Oper} {o : Oper} {a : Act} {Q : Exit → Act → World → Prop} (hg : o.guard = none) (x : Operand) (lo hi : Option Operand) (t : TypeId) (hop : o.op = Op.slice t x lo hi none)
    (vx v : Value) (vlo vhi : Option Value) (hx : a.eval x = vx) (hlo : lo.map a.eval = vlo) (hhi : hi.map a.eval = vhi) (hr : (Instr.sliceAt t vx vlo vhi none).run P w = .ok v w) (h : wpList P ops Q rest (a.put o.dst v) w) : wpList P ops Q (o :: rest) a w := by
  refine wpList_plain hg fun K hK => ?_
  unfold Oper.wp
  simp [execOp, hop, hx, hlo, hhi, hr, Result.andThen]
  exact hK _ _ h
theorem fresh_no {l : List Pr} {p : Pr} (h : decide (p ∉ last l) = false) : fresh l p = (last l, false) := if_pos (by simpa using h)
theorem fresh_full {l : List Pr} {p : Pr} (h : decide (p ∉ last l) = true) (e : (last l).length = 32) : fresh l p = ((last l).drop 1 ++ [p], true) := by
  unfold fresh
  rw [if_neg (by simpa using h), if_pos e]
theorem fresh_room {l : List Pr} {p : Pr} (h : decide (p ∉ last l) = true) (e : ¬ (last l).length = 32) : fresh l p = (last l ++ [p], true) := by
  unfold fresh
  rw [if_neg (by simpa using h), if_neg e]
set_option maxRecDepth 100000 in
set_option maxHeartbeats 4000000 in
theorem rfresh_any (A : Option Addr) (c : Nat) (l : List Pr) (p : Pr) (w : World) (hl : l.length ≤ 100000) (hp : fQ.ok p) (hA : PrS w A c l) :
    Calls Try.prog 20 #[.slice A l.length c, prV p] w (PbR w (fresh l p)) := by
  have HA := Lib.hid hA.1
  have HP := Lib.hid hp
  have G0 := Lib.hid (lsU_zero l)
  have GY := Lib.hid (fun (k : Nat) (h : k < l.length) (e : l.length - 32 ≤ k) => lsU_yes l k h e)
  have GZ := Lib.hid (fun (k : Nat) (h : k < l.length) (e : ¬ l.length - 32 ≤ k) => lsU_no l k h e)
  have GL := Lib.hid (fun k => lsU_len l k)
  have GE := Lib.hid (lsU_end l)
  have LL := last_len l
  have FN := Lib.hid (fun h => fresh_no (l := l) (p := p) h)
  have FF := Lib.hid (fun h e => fresh_full (l := l) (p := p) h e)
  have FR := Lib.hid (fun h e => fresh_room (l := l) (p := p) h e)
  have VY := Lib.hid (fun (m : List Pr) (x : Pr) (h : x = p) => (show decide (p ∉ m ++ [x]) = false from by subst h; simp))
  have VN := Lib.hid (fun (m : List Pr) (x : Pr) (h : ¬ x = p) => (show decide (p ∉ m ++ [x]) = decide (p ∉ m) from by
    have : ¬ p = x := fun e => h e.symm
    simp [this]))
  have VF := Lib.hid (fun (m : List Pr) (x : Pr) (h : decide (p ∉ m) = false) => (show decide (p ∉ m ++ [x]) = false from by
    have : p ∈ m := by simpa using h
    simp [this]))
  have V0 : decide (p ∉ ([] : List Pr)) = true := by simp
  clear hA hp
  generalize fresh l p = X at *
  generalize last l = L at *
  generalize lsU l = G at *
  obtain ⟨V, hV⟩ : ∃ V : List Pr → Bool, ∀ m, decide (p ∉ m) = V m := ⟨_, fun _ => rfl⟩
  simp only [hV] at FN FF FR VY VN VF V0
  clear hV
  obtain ⟨p1, p2⟩ := p
  go_enter Try.func20, Try.ntmps20
  go_wp2_with fail
  go_loopw [6, 7, 8] (fun vo vf vk wr => ∃ (k : Nat) (A1 : Option Addr) (c1 : Nat), vk = .int .i64 k ∧ k ≤ l.length ∧ vo = .slice A1 (G k).length c1 ∧ vf = .bool (V (G k)) ∧ Hid (OwnF fQ 36 wr (w.heap.size + 1) (.slice A1 (G k).length c1) (G k)) ∧ Hid (wr.heap[w.heap.size]? = some (bxQ (p1, p2))) ∧ w.heap.size + 1 ≤ wr.heap.size ∧ Below w.heap.size w wr) (fun _ _ vk _ => l.length - (intOf vk).toNat)
  case atStart => exact ⟨0, none, 0, rfl, by omega, by rw [G0.out]; rfl, by rw [G0.out, V0], Lib.hid (by rw [G0.out]; exact OwnF.nil _ _), Lib.hid (blk_new w _), by simp, alloc_below w _⟩
  case round =>
    obtain ⟨k, A1, c1, rfl, hk, rfl, rfl, O, HX, hz, hb⟩ := hrel
    have B := Lib.hid hb
    have HK := Lib.hid (HA.out.below hb)
    clear hb
    by_cases hlt : k < l.length
    · have s1 : IntKind.i64.wrap ((l.length : Int) - 32) = (l.length : Int) - 32 := by rw [IntKind.wrap_i64]; omega
      by_cases h32 : l.length - 32 ≤ k
      · have d1 := dt (show (l.length : Int) - 32 ≤ (k : Int) by omega)
        have N := Lib.hid (GY.out k hlt h32)
        have LG := GL.out k
        obtain ⟨bb, q, rfl, hbw, g0, g1, hok⟩ := pr_cell HK.out k hlt
        have OK := Lib.hid hok
        clear HK GY GZ GL GE FN FF FR hok h32
        obtain ⟨x, hx⟩ : ∃ x, l[k] = x := ⟨_, rfl⟩
        rw [hx] at g0 g1 OK N
        clear hx
        obtain ⟨x1, x2⟩ := x
        simp only at g0 g1
        obtain ⟨v6, w6, hap, ho6, hb6⟩ := app_pair O.out (x1, x2) OK.out (by omega) hz
        obtain ⟨A6, c6, e6, _⟩ := ho6.form
        subst e6
        have X6 := Lib.hid ((hb6.block w.heap.size (by omega)).trans HX.out)
        have e0 := blk_cell X6.out 0 (v := .int .i64 p1) rfl
        have e1 := blk_cell X6.out 1 (v := .int .i64 p2) rfl
        have h0 : w6.cell? ⟨bb, q + k * 2, none⟩ = some (.int .i64 x1) := (hb6.cell (p := ⟨bb, q + k * 2, none⟩) (by show bb < w.heap.size + 1; omega)).trans g0
        have h1 : w6.cell? ⟨bb, q + k * 2 + 1, none⟩ = some (.int .i64 x2) := (hb6.cell (p := ⟨bb, q + k * 2 + 1, none⟩) (by show bb < w.heap.size + 1; omega)).trans g1
        have z6 : w.heap.size + 1 ≤ w6.heap.size := Nat.le_trans hz hb6.size
        have L6 := Lib.hid (congrArg List.length N.out.symm)
        have O6 := Lib.hid (show OwnF fQ 36 w6 (w.heap.size + 1) (.slice A6 (G (k + 1)).length c6) (G (k + 1)) by rw [N.out]; exact ho6)
        have B6 := Lib.hid (B.out.trans (hb6.mono (Nat.le_succ _)))
        have YV := Lib.hid (fun e => (show V (G (k + 1)) = false from by rw [N.out]; exact VY.out (G k) (x1, x2) e))
        have NV := Lib.hid (fun e => (show V (G (k + 1)) = V (G k) from by rw [N.out]; exact VN.out (G k) (x1, x2) e))
        have FV := Lib.hid (fun e => (show V (G (k + 1)) = false from by rw [N.out]; exact VF.out (G k) (x1, x2) e))
        rw [L6.out] at hap
        clear ho6 hb6 O LG N OK VY VN VF V0 G0 HX
        obtain ⟨b0, hb0⟩ : ∃ b0, V (G k) = b0 := ⟨_, rfl⟩
        rw [hb0] at NV FV ⊢
        clear hb0
        cases b0 with
        | false =>
          have R := Lib.hid (FV.out rfl)
          clear YV NV FV
          go_wp2_with (at_builtin; refine Lib.wpList_append_run _ rfl _ _ _ _ rfl _ _ rfl rfl _ _ hap ?_)
          refine wp_region_quiet_lit (by kernel_rfl) (by kernel_rfl) ?_
          refine QH.out ?_
          repeat (
            refine qh_step (fun K hK => ?_)
            go_simp
            first
              | (refine hK _ ?_; clear hK K)
              | (apply Exists.intro
                 refine ⟨fun _ => ?_, hK _ ?_⟩
                 (fail)
                 clear hK K))
          refine qh_nil ?_
          intro _ hw'
          obtain ⟨nq, hw''⟩ := hw'
          subst hw''
          obtain ⟨wq, hwq⟩ : ∃ wq, wq = w6.drewN nq := ⟨_, rfl⟩
          rw [← hwq]
          have OQ := Lib.hid (show OwnF fQ 36 wq (w.heap.size + 1) (.slice A6 (G (k + 1)).length c6) (G (k + 1)) by rw [hwq]; exact O6.out.drew nq)
          have XQ := Lib.hid (show wq.heap[w.heap.size]? = some (bxQ (p1, p2)) by rw [hwq]; exact X6.out)
          have zQ : w.heap.size + 1 ≤ wq.heap.size := by rw [hwq]; exact z6
          have BQ := Lib.hid (show Below w.heap.size w wq by rw [hwq]; exact below_drewN B6.out nq)
          clear hwq e0 e1 h0 h1 O6 X6 B6
          go_wp2_with fail
          go_roundw
          case rel => exact ⟨k + 1, A6, c6, by go_num, hlt, rfl, by rw [R.out], OQ, XQ, zQ, BQ.out⟩
          case measure => simp [intOf]; omega
        | true =>
          by_cases hx : x1 = p1
          · subst hx
            by_cases hy : x2 = p2
            · subst hy
              have R := Lib.hid (YV.out rfl)
              clear YV NV FV
              go_wp2_with (at_builtin; refine Lib.wpList_append_run _ rfl _ _ _ _ rfl _ _ rfl rfl _ _ hap ?_)
              refine wp_region_quiet_lit (by kernel_rfl) (by kernel_rfl) ?_
              refine QH.out ?_
              repeat (
                refine qh_step (fun K hK => ?_)
                go_simp
                first
                  | (refine hK _ ?_; clear hK K)
                  | (apply Exists.intro
                     refine ⟨fun _ => ?_, hK _ ?_⟩
                     (fail)
                     clear hK K))
              refine qh_nil ?_
              intro _ hw'
              obtain ⟨nq, hw''⟩ := hw'
              subst hw''
              obtain ⟨wq, hwq⟩ : ∃ wq, wq = w6.drewN nq := ⟨_, rfl⟩
              rw [← hwq]
              have OQ := Lib.hid (show OwnF fQ 36 wq (w.heap.size + 1) (.slice A6 (G (k + 1)).length c6) (G (k + 1)) by rw [hwq]; exact O6.out.drew nq)
              have XQ := Lib.hid (show wq.heap[w.heap.size]? = some (bxQ (x1, x2)) by rw [hwq]; exact X6.out)
              have zQ : w.heap.size + 1 ≤ wq.heap.size := by rw [hwq]; exact z6
              have BQ := Lib.hid (show Below w.heap.size w wq by rw [hwq]; exact below_drewN B6.out nq)
              clear hwq e0 e1 h0 h1 O6 X6 B6
              go_wp2_with fail
              go_roundw
              case rel => exact ⟨k + 1, A6, c6, by go_num, hlt, rfl, by rw [R.out], OQ, XQ, zQ, BQ.out⟩
              case measure => simp [intOf]; omega
            · have R := Lib.hid (NV.out (fun e => hy (congrArg Prod.snd e)))
              have d2 : (x2 == p2) = false := beq_false_of_ne hy
              clear YV NV FV
              go_wp2_with (at_builtin; refine Lib.wpList_append_run _ rfl _ _ _ _ rfl _ _ rfl rfl _ _ hap ?_)
              refine wp_region_quiet_lit (by kernel_rfl) (by kernel_rfl) ?_
              refine QH.out ?_
              repeat (
                refine qh_step (fun K hK => ?_)
                go_simp
                first
                  | (refine hK _ ?_; clear hK K)
                  | (apply Exists.intro
                     refine ⟨fun _ => ?_, hK _ ?_⟩
                     (fail)
                     clear hK K))
              refine qh_nil ?_
              intro _ hw'
              obtain ⟨nq, hw''⟩ := hw'
              subst hw''
              obtain ⟨wq, hwq⟩ : ∃ wq, wq = w6.drewN nq := ⟨_, rfl⟩
              rw [← hwq]
              have OQ := Lib.hid (show OwnF fQ 36 wq (w.heap.size + 1) (.slice A6 (G (k + 1)).length c6) (G (k + 1)) by rw [hwq]; exact O6.out.drew nq)
              have XQ := Lib.hid (show wq.heap[w.heap.size]? = some (bxQ (x1, p2)) by rw [hwq]; exact X6.out)
              have zQ : w.heap.size + 1 ≤ wq.heap.size := by rw [hwq]; exact z6
              have BQ := Lib.hid (show Below w.heap.size w wq by rw [hwq]; exact below_drewN B6.out nq)
              clear hwq e0 e1 h0 h1 O6 X6 B6
              go_wp2_with fail
              go_roundw
              case rel => exact ⟨k + 1, A6, c6, by go_num, hlt, rfl, by rw [R.out], OQ, XQ, zQ, BQ.out⟩
              case measure => simp [intOf]; omega
          · have R := Lib.hid (NV.out (fun e => hx (congrArg Prod.fst e)))
            have d2 : (x1 == p1) = false := beq_false_of_ne hx
            clear YV NV FV
            go_wp2_with (at_builtin; refine Lib.wpList_append_run _ rfl _ _ _ _ rfl _ _ rfl rfl _ _ hap ?_)
            refine wp_region_quiet_lit (by kernel_rfl) (by kernel_rfl) ?_
            refine QH.out ?_
            repeat (
              refine qh_step (fun K hK => ?_)
              go_simp
              first
                | (refine hK _ ?_; clear hK K)
                | (apply Exists.intro
                   refine ⟨fun _ => ?_, hK _ ?_⟩
                   (fail)
                   clear hK K))
            refine qh_nil ?_
            intro _ hw'
            obtain ⟨nq, hw''⟩ := hw'
            subst hw''
            obtain ⟨wq, hwq⟩ : ∃ wq, wq = w6.drewN nq := ⟨_, rfl⟩
            rw [← hwq]
            have OQ := Lib.hid (show OwnF fQ 36 wq (w.heap.size + 1) (.slice A6 (G (k + 1)).length c6) (G (k + 1)) by rw [hwq]; exact O6.out.drew nq)
            have XQ := Lib.hid (show wq.heap[w.heap.size]? = some (bxQ (p1, p2)) by rw [hwq]; exact X6.out)
            have zQ : w.heap.size + 1 ≤ wq.heap.size := by rw [hwq]; exact z6
            have BQ := Lib.hid (show Below w.heap.size w wq by rw [hwq]; exact below_drewN B6.out nq)
            clear hwq e0 e1 h0 h1 O6 X6 B6
            go_wp2_with fail
            go_roundw
            case rel => exact ⟨k + 1, A6, c6, by go_num, hlt, rfl, by rw [R.out], OQ, XQ, zQ, BQ.out⟩
            case measure => simp [intOf]; omega
      · have d1 := df (show ¬ (l.length : Int) - 32 ≤ (k : Int) by omega)
        have N := Lib.hid (GZ.out k hlt h32)
        clear HK GY GZ GL GE FN FF FR h32
        go_wp2_with fail
        go_roundw
        case rel => exact ⟨k + 1, A1, c1, by go_num, hlt, by rw [N.out], by rw [N.out], Lib.hid (by rw [N.out]; exact O.out), HX, hz, B.out⟩
        case measure => simp [intOf]; omega
    · have e : k = l.length := by omega
      subst e
      have O2 := Lib.hid (show OwnF fQ 36 wr (w.heap.size + 1) (.slice A1 L.length c1) L by rw [← GE.out]; exact O.out)
      rw [GE.out]
      have f0 := blk_cell HX.out 0 (v := .int .i64 p1) rfl
      have f1 := blk_cell HX.out 1 (v := .int .i64 p2) rfl
      clear HK GY GZ GL GE O VY VN VF V0 G0 HA
      obtain ⟨b0, hb0⟩ : ∃ b0, V L = b0 := ⟨_, rfl⟩
      rw [hb0] at FN FF FR ⊢
      clear hb0
      cases b0 with
      | false =>
        have R := Lib.hid (FN.out rfl)
        have S2 := Lib.hid O2.out.slS
        clear FN FF FR
        go_wp2_with fail
        rw [R.out]
        obtain ⟨A5, c5, e5, S5⟩ := S2.out
        simp only [Value.slice.injEq, true_and] at e5
        obtain ⟨rfl, rfl⟩ := e5
        go_ret2
        exact ⟨_, _, rfl, S5, B.out⟩
      | true =>
        by_cases h32 : L.length = 32
        · have R := Lib.hid (FF.out rfl h32)
          have d3 : ((L.length : Int) == 32) = true := by rw [beq_iff_eq]; omega
          have q3 : (L.length : Int) = 32 := by omega
          obtain ⟨v5, sl, O5⟩ := (OwnT.of_own O2.out (fun e => by rw [e] at h32; simp at h32)).cut utQ szQ 1 (by omega)
          have SL := Lib.hid sl
          obtain ⟨v6, w6, hap, ho6, hb6⟩ := app_part O5 (p1, p2) HP.out (by rw [List.length_drop]; omega) hz
          have B6 := Lib.hid (B.out.trans (hb6.mono (Nat.le_succ _)))
          have S6 := Lib.hid ho6.slS
          clear FN FF FR O2 O5 sl ho6 hb6
          go_wp2_with (first | (at_builtin; refine Lib.wpList_append_run _ rfl _ _ _ _ rfl _ _ rfl rfl _ _ hap ?_) | (refine wpl_slice_run _ rfl _ _ _ _ rfl _ _ _ _ rfl rfl rfl (SL.out _) ?_) | fail)
          rw [R.out]
          obtain ⟨A7, c7, rfl, S7⟩ := S6.out
          go_ret2
          exact ⟨_, _, rfl, S7, B6.out⟩
        · have R := Lib.hid (FR.out rfl h32)
          have d3 : ((L.length : Int) == 32) = false := beq_false_of_ne (by omega)
          obtain ⟨v6, w6, hap, ho6, hb6⟩ := app_pair O2.out (p1, p2) HP.out (by omega) hz
          have B6 := Lib.hid (B.out.trans (hb6.mono (Nat.le_succ _)))
          have S6 := Lib.hid ho6.slS
          clear FN FF FR O2 ho6 hb6
          go_wp2_with (first | (at_builtin; refine Lib.wpList_append_run _ rfl _ _ _ _ rfl _ _ rfl rfl _ _ hap ?_) | fail)
          rw [R.out]
          obtain ⟨A7, c7, rfl, S7⟩ := S6.out
          go_ret2
          exact ⟨_, _, rfl, S7, B6.out⟩
end Go.Proofs.Ytpfmfnogckeneaa.Mcq
