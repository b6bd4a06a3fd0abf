/- The contract of the reference's Sorted. -/
import Derived.Test.YtmildkjkppnblaaNQ
import Derived.Laws.Rows
import Derived.Sort.Walk0
set_option linter.unusedVariables false
namespace Go.Proofs.Ytmildkjkppnblaa
open Go.RowKit

theorem own_cell {w : World} {B g n cap : Nat} {L : List Str} (h : w.ownsRow B 9 1 (.slice (some ⟨g, 0, none⟩) n cap) n (strs L)) (j : Nat) (x : Str) (hx : L[j]? = some x) : w.cell? ⟨g, j, none⟩ = some (.string (bs x)) := by
  have := h.cells (g := g) rfl j (.string (bs x)) (by unfold strs; rw [List.getElem?_map, hx]; rfl)
  rw [add_off, Nat.zero_add] at this
  exact this
theorem own_frozen {w : World} {B g n cap : Nat} {L : List Str} (h : w.ownsRow B 9 1 (.slice (some ⟨g, 0, none⟩) n cap) n (strs L)) (j : Nat) : w.frozen? ⟨g, j, none⟩ = false := by
  rcases h.2 with ⟨h0, _⟩ | ⟨g', cap', cur, hv, a, b, _⟩
  · cases h0
  · cases hv
    simp [World.frozen?, b]
theorem own_set {w : World} {B g n cap : Nat} {L : List Str} (h : w.ownsRow B 9 1 (.slice (some ⟨g, 0, none⟩) n cap) n (strs L)) (j : Nat) (x : Str) :
    (w.setCell ⟨g, j, none⟩ (.string (bs x))).ownsRow B 9 1 (.slice (some ⟨g, 0, none⟩) n cap) n (strs (L.set j x)) := by
  obtain ⟨h1, h2⟩ := h
  rw [strs_length] at h1
  refine ⟨by rw [strs_length, List.length_set]; exact h1, ?_⟩
  rcases h2 with ⟨h0, _⟩ | ⟨g', cap', cur, hv, a, b, c, d, f, t⟩
  · cases h0
  · cases hv
    refine .inr ⟨g, cap, cur.setIfInBounds j (.string (bs x)), rfl, a, heap_setCell_same w g j cur _ _ b, c, d, by rw [Array.size_setIfInBounds]; exact f, ?_⟩
    rw [Array.toList_setIfInBounds, List.take_set, t]
    unfold strs
    rw [List.map_set]
theorem own_below_set {B : Nat} {w w' : World} (h : Below B w w') (g j : Nat) (hg : B ≤ g) (v : Value) : Below B w (w'.setCell ⟨g, j, none⟩ v) := h.setCell hg v

/-- Go's order of strings. -/
theorem lss_test (a b : Str) (c : Bool) (h : decide (a < b) = c) : Op.bytesLess (bs a).toList (bs b).toList = c := by
  rw [bytesLess_eq, Lib.toList_data, Lib.toList_data, bs_data, bs_data]; exact h

theorem asc_ins {P C : List Str} {x : Str} (h : Asc (P ++ C)) (h1 : ∀ p ∈ P, p < x) (h2 : ∀ c ∈ C, x < c) : Asc (P ++ x :: C) := by
  obtain ⟨a, b, c⟩ := List.pairwise_append.1 h
  refine List.pairwise_append.2 ⟨a, List.pairwise_cons.2 ⟨h2, b⟩, fun p hp q hq => ?_⟩
  rcases List.mem_cons.1 hq with rfl | hq
  · exact h1 p hp
  · exact c p hp q hq
theorem below_last {P C : List Str} {y x : Str} (h : Asc ((P ++ [y]) ++ C)) (hx : x ∉ P ++ [y]) (hyx : ¬ x < y) : ∀ p ∈ P ++ [y], p < x := by
  have h1 := (List.pairwise_append.1 h).1
  obtain ⟨_, _, h2⟩ := List.pairwise_append.1 h1
  have hy : y < x := by
    rcases slt_or x y with e | e | e
    · exact absurd e hyx
    · rw [e] at hx; exact absurd (List.mem_append_right _ (List.mem_singleton.2 rfl)) hx
    · exact e
  intro p hp
  rcases List.mem_append.1 hp with hp | hp
  · exact slt_trans (h2 p hp y (List.mem_singleton.2 rfl)) hy
  · rw [List.mem_singleton.1 hp]; exact hy

theorem swap_set (P C : List Str) (x y : Str) (p : Nat) (hp : P.length = p) : (((P ++ [y]) ++ x :: C).set (p + 1) y).set p x = P ++ x :: (y :: C) := by
  induction P generalizing p with
  | nil => subst hp; rfl
  | cons a P ih =>
    subst hp
    show a :: (((P ++ [y]) ++ x :: C).set (P.length + 1) y).set P.length x = a :: (P ++ x :: (y :: C))
    rw [ih _ rfl]
theorem at_snd (P C : List Str) (x y : Str) (p : Nat) (hp : P.length = p) : ((P ++ [y]) ++ x :: C)[p + 1]? = some x := by
  subst hp
  rw [List.getElem?_append_right (by simp)]; simp
theorem at_fst (P C : List Str) (x y : Str) (p : Nat) (hp : P.length = p) : ((P ++ [y]) ++ x :: C)[p]? = some y := by
  subst hp
  rw [List.append_assoc, List.getElem?_append_right (Nat.le_refl _)]; simp
theorem mem_ins {P C O : List Str} {x : Str} (h : P ++ C = O) (z : Str) : z ∈ P ++ x :: C ↔ z ∈ O ∨ z = x := by
  subst h
  rw [List.mem_append, List.mem_append, List.mem_cons]
  constructor
  · rintro (h | h | h)
    · exact Or.inl (Or.inl h)
    · exact Or.inr h
    · exact Or.inl (Or.inr h)
  · rintro ((h | h) | h)
    · exact Or.inl h
    · exact Or.inr (Or.inr h)
    · exact Or.inr (Or.inl h)
theorem own_out {w : World} {B g m cap : Nat} {L : List Str} (h : w.ownsRow B 9 1 (.slice (some ⟨g, 0, none⟩) m cap) m (strs L)) : OwnStr w B (.slice (some ⟨g, 0, none⟩) m cap) L := by
  have h1 := h.1
  rw [strs_length] at h1
  show World.ownsRow _ _ _ _ _ _ _
  rw [show L.length = m by omega]; exact h

set_option maxRecDepth 100000 in
set_option maxHeartbeats 4000000 in
theorem rsorted_any (v : Value) (l : List Str) (w : World) (hv : StrsAt w v l) (hl : l.length ≤ 100000) :
    Calls Try.prog 19 #[v] w (OutSo (srt l) w) := by
  obtain ⟨i0, hi, hz0, hz1, hz2⟩ := info_parts info_str
  have HV := Lib.hid hv
  obtain ⟨A, c, rfl, ha⟩ := hv
  have HA := Lib.hid ha
  clear ha
  go_enter Try.func19, Try.ntmps19
  go_wp2_with fail
  go_loopw [3, 4] (fun v i wr => ∃ (k : Nat) (O : List Str), i = .int .i64 k ∧ k ≤ l.length ∧ O.length ≤ k ∧ Asc O ∧ (∀ x, x ∈ O ↔ x ∈ l.take k) ∧ OwnStr wr w.heap.size v O ∧ Below w.heap.size w wr) (fun _ i _ => l.length - (intOf i).toNat)
  case atStart => exact ⟨0, [], rfl, Nat.zero_le _, Nat.le_refl _, List.Pairwise.nil, fun x => by simp, World.ownsRow_nil _ _ _ _, Below.refl _ _⟩
  case round =>
    obtain ⟨k, O, rfl, hk, hO, hasc, hmem, hown, hb⟩ := hrel
    have B := Lib.hid hb
    have hsz := hb.size
    have HO := Lib.hid hown
    have ASC := Lib.hid hasc
    have MEM := Lib.hid hmem
    by_cases hlt : k < l.length
    · obtain ⟨ab, ao, rfl, g1, e1⟩ := HA.out k hlt
      have c1 : wr.cell? ⟨ab, ao + k, none⟩ = some (.string (bs l[k])) := by rw [hb.cell (p := ⟨ab, ao + k, none⟩) g1]; exact e1
      have IX := Lib.hid (rindex_any (.slice (some ⟨ab, ao, none⟩) l.length c) l l[k] wr (HV.out.below hb) hl)
      have hin : l[k] ∈ l := List.getElem_mem _
      have hix := ix_take l l[k] k hin
      have hix2 := ix_some l l[k] hin
      have htk : l.take (k + 1) = l.take k ++ [l[k]] := List.take_succ_eq_append_getElem hlt
      have TK := Lib.hid htk
      generalize l[k] = x at *
      generalize ix l x = q at *
      clear hasc hmem hb e1 htk
      by_cases hold : x ∈ l.take k
      · have hq : q < (k : Int) := hix.2 hold
        have M2 := Lib.hid (show ∀ z, z ∈ O ↔ z ∈ l.take (k + 1) by
          intro z
          rw [MEM.out, TK.out, List.mem_append, List.mem_singleton]
          constructor
          · exact Or.inl
          · rintro (h | h)
            · exact h
            · rw [h]; exact hold)
        clear hix hold hown
        go_wp2_with fail
        refine IX.out.mono ?_
        rintro e w' ⟨rfl, rfl⟩
        go_wp2_with fail
        go_roundw
        case rel => exact ⟨k + 1, O, by go_num, hlt, by omega, ASC.out, M2.out, HO.out, B.out⟩
        case measure => simp [intOf]; omega
      · have hq : ¬ q < (k : Int) := fun h => hold (hix.1 h)
        have hxO : x ∉ O := fun h => hold ((MEM.out x).1 h)
        have XO := Lib.hid hxO
        clear hix hold hxO
        have HL := Lib.hid (fun k (hk : u3.ownBlock = some k) => (hown.lt k hk).1)
        go_wp2_with fail
        refine IX.out.mono ?_
        rintro e w' ⟨rfl, rfl⟩
        go_wp2_with (at_builtin; refine wpList_append_own _ rfl (.tmp 21) (.tmp 26) 22 rfl w.heap.size 9 i0 (.string ByteArray.empty) 1 16 Try.underlying22 hi hz0 hz1 hz2 rfl (by decide) _ _ _ rfl (hown.alloc _) ⟨wr.heap.size, 0, none⟩ 1 1 [.string (bs x)] rfl rfl (one_cell _ _ _) ?c2 ?c3 ?c4 ?c5 ?_)
        case c2 => intro u hu; simp at hu; subst hu; rfl
        case c3 => unfold maxLen; omega
        case c4 => omega
        case c5 => simp; omega
        intro v' w3 hown' hgrow _
        have B3 := Lib.hid ((B.out.alloc (by omega) _).grown hgrow (by simp; omega) HL.out)
        have e : strs O ++ [Value.string (bs x)] = strs (O ++ [x]) := strs_append O [x]
        rw [e] at hown'
        clear e
        have hne : ∃ g cap, v' = .slice (some ⟨g, 0, none⟩) (O.length + 1) cap ∧ w.heap.size ≤ g := by
          rcases hown'.2 with ⟨_, h0⟩ | ⟨g, cap, cur, hv, hg, _⟩
          · omega
          · exact ⟨g, cap, hv, hg⟩
        obtain ⟨g, cap, rfl, hg⟩ := hne
        have R3 := Lib.hid hown'
        clear hown' hgrow hown
        obtain ⟨m, hm⟩ : ∃ m, O.length + 1 = m := ⟨_, rfl⟩
        rw [hm] at R3 ⊢
        have HM := Lib.hid hm
        have hm1 : 1 ≤ m := by omega
        have hm2 : m ≤ 100000 := by omega
        clear hm
        have s1 : IntKind.i64.wrap ((m : Int) - 1) = (m : Int) - 1 := IntWalk.i64_in _ (by omega)
        go_wp2_with fail
        go_loopw [5] (fun i wr => ∃ (P C : List Str), i = .int .i64 P.length ∧ P ++ C = O ∧ (∀ z ∈ C, x < z) ∧ wr.ownsRow w.heap.size 9 1 (.slice (some ⟨g, 0, none⟩) m cap) m (strs (P ++ x :: C)) ∧ Below w.heap.size w wr) (fun i _ => (intOf i).toNat)
        case atStart => exact ⟨O, [], by rw [← HM.out]; go_num, by simp, fun z h => absurd h List.not_mem_nil, R3.out, B3.out⟩
        case round =>
          obtain ⟨P, C, rfl, hPC, hC, hrow, hbb⟩ := hrel
          have PC := Lib.hid hPC
          have CC := Lib.hid hC
          have RR := Lib.hid hrow
          have BB := Lib.hid hbb
          have hPl : P.length + C.length + 1 = m := by have := HM.out; have := congrArg List.length hPC; rw [List.length_append] at this; omega
          rcases List.eq_nil_or_concat P with hP | ⟨P', y, hP⟩
          · subst hP
            have LEN := Lib.hid (show ([] ++ x :: C).length ≤ k + 1 by have h := congrArg List.length hPC; rw [List.nil_append] at h ⊢; rw [List.length_cons]; omega)
            have ASC2 := Lib.hid (show Asc ([] ++ x :: C) from asc_ins (by rw [hPC]; exact ASC.out) (fun p h => absurd h List.not_mem_nil) hC)
            have M2 := Lib.hid (show ∀ z, z ∈ [] ++ x :: C ↔ z ∈ l.take (k + 1) by
              intro z; rw [mem_ins hPC, MEM.out, TK.out, List.mem_append, List.mem_singleton])
            have hszr := hbb.size
            clear hPC hC hrow hbb hPl
            simp only [List.length_nil]
            go_wp2_with fail
            go_quiet (fail)
            go_wp2_with fail
            go_roundw
            case rel => exact ⟨k + 1, [] ++ x :: C, by go_num, hlt, LEN.out, ASC2.out, M2.out, own_out RR.out, BB.out.trans ((below_drewN _ _).mono hszr)⟩
            case measure => simp [intOf]; omega
          · rw [List.concat_eq_append] at hP
            subst hP
            obtain ⟨p, hp⟩ : ∃ p, P'.length = p := ⟨_, rfl⟩
            have hpl : (P' ++ [y]).length = p + 1 := by simp [hp]
            have AF := Lib.hid (at_fst P' C x y p hp)
            have AS := Lib.hid (at_snd P' C x y p hp)
            have SW := Lib.hid (swap_set P' C x y p hp)
            have c1 := own_cell hrow p y AF.out
            have c2 := own_cell hrow (p + 1) x AS.out
            have f1 := own_frozen hrow p
            have f2 := own_frozen hrow (p + 1)
            rw [hpl]
            rw [hpl] at hPl
            have HPL := Lib.hid hpl
            have HP := Lib.hid hp
            have j1 : (p : Int) + 1 < (m : Int) := by omega
            have j2 : (p : Int) < (m : Int) := by omega
            have j3 : IntKind.i64.wrap ((p : Int) + 1 - 1) = (p : Int) := by rw [show (p : Int) + 1 - 1 = (p : Int) by omega]; exact IntWalk.i64_in _ (by omega)
            have hszr := hbb.size
            by_cases hxy : x < y
            · have t1 := lss_test x y true (decide_eq_true hxy)
              have C2 := Lib.hid (show ∀ z ∈ y :: C, x < z by
                intro z hz
                rcases List.mem_cons.1 hz with rfl | hz
                · exact hxy
                · exact hC z hz)
              have PC2 := Lib.hid (show P' ++ (y :: C) = O by rw [← hPC]; simp)
              clear hPC hC hrow hbb hpl hp hxy
              go_wp2_with fail
              go_quiet (fail)
              go_wp2_with fail
              go_roundw
              case rel =>
                refine ⟨P', y :: C, val_int (by rw [HP.out]), PC2.out, C2.out, ?_, ((BB.out.trans ((below_drewN _ _).mono hszr)).setCell hg _).setCell hg _⟩
                have h := own_set (own_set (show (wr.drewN nq).ownsRow w.heap.size 9 1 (.slice (some ⟨g, 0, none⟩) m cap) m (strs ((P' ++ [y]) ++ x :: C)) from RR.out) (p + 1) y) p x
                rw [SW.out] at h
                exact h
              case measure => simp [intOf]
            · have t1 := lss_test x y false (decide_eq_false hxy)
              have LEN := Lib.hid (show ((P' ++ [y]) ++ x :: C).length ≤ k + 1 by have h := congrArg List.length hPC; rw [List.length_append] at h ⊢; rw [List.length_cons]; omega)
              have ASC2 := Lib.hid (show Asc ((P' ++ [y]) ++ x :: C) from asc_ins (by rw [hPC]; exact ASC.out)
                (below_last (by rw [hPC]; exact ASC.out) (fun h => XO.out (by rw [← hPC]; exact List.mem_append_left _ h)) hxy) hC)
              have M2 := Lib.hid (show ∀ z, z ∈ (P' ++ [y]) ++ x :: C ↔ z ∈ l.take (k + 1) by
                intro z; rw [mem_ins hPC, MEM.out, TK.out, List.mem_append, List.mem_singleton])
              clear hPC hC hrow hbb hpl hp hxy
              go_wp2_with fail
              go_quiet (fail)
              go_wp2_with fail
              go_roundw
              case rel => exact ⟨k + 1, (P' ++ [y]) ++ x :: C, by go_num, hlt, LEN.out, ASC2.out, M2.out, own_out RR.out, BB.out.trans ((below_drewN _ _).mono hszr)⟩
              case measure => simp [intOf]; omega
    · have hT : l.take k = l := List.take_of_length_le (by omega)
      have E := Lib.hid (srt_unique hasc (fun x => (hmem x).trans (by rw [hT])))
      clear hasc hmem hb hown hT
      go_wp2_with fail
      go_ret
      exact ⟨_, rfl, by rw [← E.out]; exact HO.out, B.out⟩
end Go.Proofs.Ytmildkjkppnblaa
