/- The reference: Seen. -/
import Derived.Test.YthfkmmgckiijcaaLR
set_option linter.unusedVariables false
namespace Go.Proofs.Ythfkmmgckiijcaa.Lnk
open Go.RowKit

theorem flat_drop {α : Type} {F : Flat α} {w : World} {B : Nat} {A : Option Addr} {l : List α} (h : FlAt F w B A l) (k : Nat) : FlAt F w B (Option.map (fun x => x.add (k * F.sz)) A) (l.drop k) := fun i hi => by
  rw [List.length_drop] at hi
  obtain ⟨b, p, rfl, h2, h3, h4⟩ := h (k + i) (by omega)
  refine ⟨b, p + k * F.sz, by simp [add_off], h2, fun j u hu => ?_, by rw [List.getElem_drop]; exact h4⟩
  rw [List.getElem_drop] at hu
  have := h3 j u hu
  rw [Nat.add_mul] at this
  rw [← this]
  congr 2
  omega
theorem pos_of2 (n : Int) (l : List Lk) (k : Nat) (hk : k ≤ l.length) (h1 : ∀ p (hp : p < l.length), p < k → l[p].1 < n) (h2 : ∀ (h : k < l.length), ¬ l[k].1 < n) : k = pos n l := by
  have h3 := pos_le n l
  rcases Nat.lt_trichotomy k (pos n l) with c | c | c
  · exact absurd (pos_lt n l k (by omega) c) (h2 (by omega))
  · exact c
  · exact absurd (h1 (pos n l) (by omega) c) (pos_at n l (by omega))
theorem oth_self (n : Int) (l : List Lk) (h : ∀ x ∈ l, x.1 ≠ n) : oth n l = l := by
  unfold oth
  rw [List.filter_eq_self]
  intro x hx
  simpa using h x hx
theorem oth_ne (n : Int) (l : List Lk) : ∀ x ∈ oth n l, x.1 ≠ n := fun x hx => by simpa using (List.mem_filter.1 hx).2
theorem ins_oth (x : Lk) : ∀ (l : List Lk), Sor l → ins x (oth x.1 l) = ins x l
  | [], _ => rfl
  | y :: r, hs => by
    obtain ⟨h1, h2⟩ := List.pairwise_cons.1 hs
    have ih := ins_oth x r h2
    by_cases hy : y.1 < x.1
    · have e : oth x.1 (y :: r) = y :: oth x.1 r := List.filter_cons_of_pos (by simp; omega)
      rw [e]
      unfold ins
      rw [if_pos hy, if_pos hy, ih]
    · have hr : oth x.1 r = r := oth_self x.1 r fun z hz => by have := h1 z hz; omega
      by_cases hq : y.1 = x.1
      · have e : oth x.1 (y :: r) = oth x.1 r := List.filter_cons_of_neg (by simpa using hq)
        rw [e, hr]
        have e2 : ins x (y :: r) = x :: r := by unfold ins; rw [if_neg hy, if_pos hq]
        rw [e2]
        cases r with
        | nil => rfl
        | cons z r' =>
          have := h1 z List.mem_cons_self
          unfold ins
          rw [if_neg (by omega), if_neg (by omega)]
      · have e : oth x.1 (y :: r) = y :: oth x.1 r := List.filter_cons_of_pos (by simpa using hq)
        rw [e, hr]
theorem fnd_oth (n : Int) (l : List Lk) (hs : Sor l) : fnd n (oth n l) = false := by
  have hso : Sor (oth n l) := List.Pairwise.filter _ hs
  rw [← ent_fnd n _ hso]
  cases h : ent (oth n l) n with
  | none => rfl
  | some x => exact absurd (ent_mem h).2 (oth_ne n l x (ent_mem h).1)
theorem ins_at (x : Lk) (l : List Lk) (hs : Sor l) (k : Nat) (hk : k = pos x.1 (oth x.1 l)) : ins x l = (oth x.1 l).take k ++ [x] ++ (oth x.1 l).drop k := by
  rw [← ins_oth x l hs, ins_pos, hk]
  have : pe x.1 (oth x.1 l) = pos x.1 (oth x.1 l) := by unfold pe; rw [fnd_oth x.1 l hs]; rfl
  rw [this]

section
variable (A : Option Addr) (c : Nat) (l : List Lk) (n : Int) (w : World) (hl : l.length ≤ 9223372036854775807) (hA : LkAt w w.heap.size A l)
include hl hA

set_option maxRecDepth 100000 in
set_option maxHeartbeats 4000000 in
theorem rseen_any (ok : Bool) (hn : I64 n) : Calls Try.prog 14 #[.slice A l.length c, .int .i64 n, .bool ok] w (OutF fL w (sen l n (if ok then 1 else 0))) := by
  have K := Lib.hid (rvalid_any A c l w hl hA)
  have V24 := vl_len l
  have VV := Lib.hid (vl_val l)
  have S1 := Lib.hid (fun h : Room (vl l) n => fun t => (show sen l n t = ins (nxt (entd (vl l) n) t) (vl l) from if_pos h))
  have S0 := Lib.hid (fun h : ¬ Room (vl l) n => fun t => (show sen l n t = vl l from if_neg h))
  clear hA
  generalize vl l = v at *
  have KA := Lib.hid (fun A1 c1 w1 (h : LkAt w1 w1.heap.size A1 v) => (show Calls Try.prog 34 #[.slice A1 v.length c1, .int .i64 n] w1 (OutA w1 (ent v n)) from by
    have := rat_any A1 c1 v n w1 (by omega) h
    rw [vl_id v VV.out] at this
    exact this))
  have KF := Lib.hid (fun A1 c1 w1 (h : LkAt w1 w1.heap.size A1 v) => (show Calls Try.prog 16 #[.slice A1 v.length c1, .int .i64 n] w1 (OutF fL w1 (oth n v)) from by
    have := rforget_any A1 c1 v n w1 (by omega) h
    unfold fgt at this
    rw [vl_id v VV.out] at this
    exact this))
  by_cases hr : Room v n
  · obtain ⟨⟨hr1, hr2⟩, hr3⟩ := hr
    have HI : Hid (I64 n) := hn
    have NO := Lib.hid (fun (t : Int) (ht : t = 0 ∨ t = 1) => nxt_ok (entd_ok VV.out ⟨hr1, hr2⟩).1 t ht)
    have S1 := Lib.hid (S1.out ⟨⟨hr1, hr2⟩, hr3⟩)
    have IA := Lib.hid (fun (x : Lk) (hx : x.1 = n) k => ins_at x v VV.out.2.2 k)
    have E2 := Lib.hid (entd_ok2 VV.out n)
    have EB := Lib.hid (show (entd v n).1 = n from (entd_ok VV.out ⟨hr1, hr2⟩).2)
    obtain ⟨⟨z0, z1, z2⟩, hz⟩ : ∃ z, (ent v n).getD (0, 0, 0) = z := ⟨_, rfl⟩
    have ED := Lib.hid (show entd v n = (n, z1, z2) by
      unfold entd at EB ⊢
      cases he : ent v n with
      | none => rw [he] at hz; simp only [Option.getD_none, Prod.mk.injEq] at hz ⊢; exact ⟨trivial, hz.2.1, hz.2.2⟩
      | some y =>
        rw [he] at hz
        have := EB.out
        rw [he] at this
        simp only [Option.getD_some] at hz this ⊢
        rw [hz] at this ⊢
        simp only at this
        rw [this])
    rw [ED.out] at S1 NO E2
    have zb0 : 0 ≤ z1 := E2.out.b0
    have zb1 : z1 < 65536 := E2.out.b1
    have zc0 : 0 ≤ z2 := E2.out.c0
    have zc1 : z2 ≤ 16 := E2.out.c1
    have KA := Lib.hid (fun A1 c1 w1 (h : LkAt w1 w1.heap.size A1 v) => (show Calls Try.prog 34 #[.slice A1 v.length c1, .int .i64 n] w1 (fun e w' => e = .returned (.tuple #[.agg #[.int .i64 z0, .int .i64 z1, .int .i64 z2], .bool (ent v n).isSome]) ∧ Below w1.heap.size w1 w') from by
      have := KA.out A1 c1 w1 h
      unfold OutA at this
      rw [hz] at this
      exact this))
    have d1 := df (show ¬ n < 0 by omega)
    have d2 := df (show ¬ 250 < n by omega)
    have d3 : (ent v n).isSome = true ∨ ((ent v n).isSome = false ∧ v.length < 24) := by
      cases h : (ent v n).isSome with
      | true => exact Or.inl rfl
      | false => rw [h] at hr3; exact Or.inr ⟨rfl, by rcases hr3 with h3 | h3; cases h3; exact h3⟩
    clear hr3 hz E2 EB ED S0
    generalize (ent v n).isSome = fd at *
    rcases d3 with rfl | ⟨rfl, h24⟩
    · skip
      cases ok
      · by_cases h16 : z2 < 16
        · have d6 := df (show ¬ 16 < z2 + 1 by omega)
          as_aux_lemma =>
            have YE : nxt (n, z1, z2) 0 = (n, 2 * z1 % 65536, z2 + 1) := by
              show (n, (2 * z1 + 0) % 65536, min (z2 + 1) 16) = _
              rw [show min (z2 + 1) 16 = z2 + 1 by omega, Int.add_zero]
            have XO := Lib.hid (show Ok1 (n, 2 * z1 % 65536, z2 + 1) by rw [← YE]; exact NO.out 0 (Or.inl rfl))
            have SE := Lib.hid (show ∀ k, k = pos n (oth n v) → sen l n 0 = (oth n v).take k ++ [(n, 2 * z1 % 65536, z2 + 1)] ++ (oth n v).drop k from fun k hk => by rw [S1.out, YE]; exact IA.out (n, 2 * z1 % 65536, z2 + 1) rfl k hk)
            clear YE S1 IA NO
            go_enter Try.func14, Try.ntmps14
            go_wp2_with fail
            refine K.out.mono ?_
            rintro _ w1 ⟨A1, c1, rfl, hA1, hc1, hn1, hb⟩
            have B1 := Lib.hid hb
            have HA1 := Lib.hid hA1
            have hz1 := hb.size
            clear hb hA1 K hn1
            go_wp2_with fail
            refine (KA.out _ _ _ HA1.out).mono ?_
            rintro _ w2 ⟨rfl, hb⟩
            have HA2 := Lib.hid (HA1.out.next hb)
            have B2 := Lib.hid (B1.out.trans (hb.mono hz1))
            have hz2 := B2.out.size
            clear hb HA1 KA B1
            go_wp2_with fail
            refine (KF.out _ _ _ (HA2.out.next (alloc_below _ _))).mono ?_
            rintro _ w3 ⟨A3, c3, rfl, hA3, hc3, hn3, hb⟩
            have BX := Lib.hid (blk_below (blk_new w2 (bxL n (2 * z1 % 65536) (z2 + 1))) hb (by simp))
            have bx : w2.heap.size < w3.heap.size := blk_lt BX.out
            have B3 := Lib.hid ((B2.out.alloc hz2 (bxL n (2 * z1 % 65536) (z2 + 1))).trans (hb.mono (by simp; omega)))
            have HA3 := Lib.hid hA3
            have hz3 := B3.out.size
            have RL := oth_len v n
            have hso := Lib.hid (show Sor (oth n v) from List.Pairwise.filter _ VV.out.2.2)
            clear hb hA3 hn3 KF HA2 B2
            generalize oth n v = R at *
            have RL : R.length ≤ 24 := by omega
            go_wp2_with fail
            go_loopw [11, 13] (fun o i wr => ∃ k : Nat, i = .int .i64 k ∧ k ≤ R.length ∧ OwnL wr w3.heap.size o (R.take k) ∧ Hid (∀ p (hp : p < R.length), p < k → R[p].1 < n) ∧ Below w3.heap.size w3 wr) (fun _ i _ => R.length - (intOf i).toNat)
            case atStart => exact ⟨0, rfl, Nat.zero_le _, OwnF.nil _ _, Lib.hid (fun p hp h => by omega), Below.refl _ _⟩
            case round => as_aux_lemma =>
              obtain ⟨k, rfl, hk, ho, HP, hb⟩ := hrel
              have B := Lib.hid hb
              have hz := hb.size
              have O := Lib.hid ho
              by_cases hlt : k < R.length
              · obtain ⟨b, p, rfl, hbw, g0, g1, g2, g3, g4, g5⟩ := lk_cell (HA3.out.below hb) k hlt
                clear hb ho
                obtain ⟨⟨x0, x1, x2⟩, hx⟩ : ∃ x, R[k] = x := ⟨_, rfl⟩
                have HX := Lib.hid hx
                rw [hx] at g0 g1 g2 g3 g4 g5
                simp only at g0 g1 g2 g3 g4 g5
                clear hx
                by_cases hq : x0 < n
                · as_aux_lemma =>
                  have d8 := dt hq
                  have HP2 := Lib.hid (show ∀ p (hp : p < R.length), p < k + 1 → R[p].1 < n from fun q hq1 hq2 => by
                    rcases Nat.lt_or_ge q k with h | h
                    · exact HP.out q hq1 h
                    · obtain rfl : q = k := by omega
                      rw [HX.out]; exact hq)
                  obtain ⟨v', w', hap, ho', hbb⟩ := O.out.one eLk 22 (x0, x1, x2) #[.int .i64 x0, .int .i64 x1, .int .i64 x2] rfl ⟨g3, g4, g5⟩ (by rw [List.length_take]; omega) hz
                  have O2 := Lib.hid (show OwnL w' w3.heap.size v' (R.take (k + 1)) by rw [take_one R k hlt, HX.out]; exact ho')
                  have B2 := Lib.hid (B.out.trans hbb)
                  clear hq ho' hbb
                  go_wp2_with (at_builtin; refine Lib.wpList_append_run _ rfl _ _ _ _ rfl _ _ rfl rfl _ _ hap ?_)
                  go_roundw
                  case rel => exact ⟨k + 1, by go_num, hlt, O2.out, HP2, B2.out⟩
                  case measure => simp [intOf]; omega
                · as_aux_lemma =>
                  have d8 := df hq
                  have KP := Lib.hid (pos_of2 n R k hk HP.out (fun h => by rw [HX.out]; exact hq))
                  have SEk := Lib.hid (SE.out k KP.out)
                  have hck : ¬ c3 = k := by omega
                  clear hq HX HP KP SE
                  have c0 := blk_cell (blk_below BX.out B.out bx) 0 (v := .int .i64 n) rfl
                  have c1 := blk_cell (blk_below BX.out B.out bx) 1 (v := .int .i64 (2 * z1 % 65536)) rfl
                  have c2 := blk_cell (blk_below BX.out B.out bx) 2 (v := .int .i64 (z2 + 1)) rfl
                  obtain ⟨va, wa, hap1, hoa, hba⟩ := O.out.one eLk 22 (n, 2 * z1 % 65536, z2 + 1) #[.int .i64 n, .int .i64 (2 * z1 % 65536), .int .i64 (z2 + 1)] rfl (ok_i64 XO.out) (by rw [List.length_take]; omega) hz
                  obtain ⟨A4, c4, e4, _⟩ := hoa.form
                  have hl4 : (R.take k ++ [(n, 2 * z1 % 65536, z2 + 1)]).length = k + 1 := by rw [List.length_append, List.length_take, Nat.min_eq_left hk]; rfl
                  rw [hl4] at e4
                  subst e4
                  have OA := Lib.hid hoa
                  have BA := Lib.hid (B.out.trans hba)
                  have hza := BA.out.size
                  clear hoa hba hl4
                  have y1 : (k : Int) + 1 - 1 = (k : Int) := by omega
                  have y2 := i64_nat k (by omega)
                  have y3 : (0 : Int) ≤ (k : Int) := by omega
                  have y4 : (k : Int) ≤ (R.length : Int) := by omega
                  obtain ⟨vb, wb, hap2, hob, hbb, _⟩ := OA.out.app eLk (c := c3 - k) 22 (flat_drop ((HA3.out.below BA.out).mono BA.out.size) k) (by rw [List.length_append, List.length_take, List.length_drop]; simp; omega) hza
                  rw [List.length_drop] at hap2
                  simp only [Option.map_some, add_off] at hap2
                  rw [show fL.sz = 3 from rfl] at hap2
                  have OB := Lib.hid (show OwnL wb w3.heap.size vb (R.take k ++ [(n, 2 * z1 % 65536, z2 + 1)] ++ R.drop k) from hob)
                  have BB := Lib.hid (BA.out.trans hbb)
                  have RF := Lib.hid (show sen l n 0 = R.take k ++ [(n, 2 * z1 % 65536, z2 + 1)] ++ R.drop k by exact SEk.out)
                  clear hob hbb
                  go_upto_region 18 with (at_builtin; refine Lib.wpList_append_run _ rfl _ _ _ _ rfl _ _ rfl rfl _ _ hap1 ?_)
                  clear hap1
                  go_wp2_with (at_builtin; refine Lib.wpList_append_run _ rfl _ _ _ _ rfl _ _ rfl rfl _ _ hap2 ?_)
                  go_ret
                  exact outF_own RF.out OB.out (B3.out.trans (BB.out.mono hz3))
              · as_aux_lemma =>
                have KP := Lib.hid (pos_of2 n R k hk HP.out (fun h => absurd h hlt))
                have SEk := Lib.hid (SE.out k KP.out)
                have DR := Lib.hid (show R.drop k = [] from List.drop_eq_nil_of_le (by omega))
                clear hb ho HP KP SE
                have c0 := blk_cell (blk_below BX.out B.out bx) 0 (v := .int .i64 n) rfl
                have c1 := blk_cell (blk_below BX.out B.out bx) 1 (v := .int .i64 (2 * z1 % 65536)) rfl
                have c2 := blk_cell (blk_below BX.out B.out bx) 2 (v := .int .i64 (z2 + 1)) rfl
                obtain ⟨va, wa, hap1, hoa, hba⟩ := O.out.one eLk 22 (n, 2 * z1 % 65536, z2 + 1) #[.int .i64 n, .int .i64 (2 * z1 % 65536), .int .i64 (z2 + 1)] rfl (ok_i64 XO.out) (by rw [List.length_take]; omega) hz
                obtain ⟨A4, c4, e4, _⟩ := hoa.form
                have hl4 : (R.take k ++ [(n, 2 * z1 % 65536, z2 + 1)]).length = k + 1 := by rw [List.length_append, List.length_take, Nat.min_eq_left hk]; rfl
                rw [hl4] at e4
                subst e4
                have OA := Lib.hid hoa
                have BA := Lib.hid (B.out.trans hba)
                have hza := BA.out.size
                clear hoa hba hl4
                have y1 : (k : Int) + 1 - 1 = (k : Int) := by omega
                have y2 := i64_nat k (by omega)
                have y3 : (0 : Int) ≤ (k : Int) := by omega
                have y4 : (k : Int) ≤ (R.length : Int) := by omega
                by_cases hck : c3 = k
                · as_aux_lemma =>
                  obtain ⟨vb, wb, hap2, hob, hbb, _⟩ := OA.out.app eLk (c := 0) 22 (show FlAt fL wa wa.heap.size A3 (R.drop k) by rw [DR.out]; exact FlAt.nil _ _ _) (by rw [List.length_append, List.length_take, List.length_drop]; simp; omega) hza
                  rw [List.length_drop] at hap2
                  have OB := Lib.hid (show OwnL wb w3.heap.size vb (R.take k ++ [(n, 2 * z1 % 65536, z2 + 1)] ++ R.drop k) from hob)
                  have BB := Lib.hid (BA.out.trans hbb)
                  have RF := Lib.hid (show sen l n 0 = R.take k ++ [(n, 2 * z1 % 65536, z2 + 1)] ++ R.drop k by exact SEk.out)
                  clear hob hbb
                  go_upto_region 18 with (at_builtin; refine Lib.wpList_append_run _ rfl _ _ _ _ rfl _ _ rfl rfl _ _ hap1 ?_)
                  clear hap1
                  go_wp2_with (at_builtin; refine Lib.wpList_append_run _ rfl _ _ _ _ rfl _ _ rfl rfl _ _ hap2 ?_)
                  go_ret
                  exact outF_own RF.out OB.out (B3.out.trans (BB.out.mono hz3))
                · as_aux_lemma =>
                  obtain ⟨vb, wb, hap2, hob, hbb, _⟩ := OA.out.app eLk (c := c3 - k) 22 (show FlAt fL wa wa.heap.size (Option.map (fun x => x.add (k * 3)) A3) (R.drop k) by rw [DR.out]; exact FlAt.nil _ _ _) (by rw [List.length_append, List.length_take, List.length_drop]; simp; omega) hza
                  rw [List.length_drop] at hap2
                  have OB := Lib.hid (show OwnL wb w3.heap.size vb (R.take k ++ [(n, 2 * z1 % 65536, z2 + 1)] ++ R.drop k) from hob)
                  have BB := Lib.hid (BA.out.trans hbb)
                  have RF := Lib.hid (show sen l n 0 = R.take k ++ [(n, 2 * z1 % 65536, z2 + 1)] ++ R.drop k by exact SEk.out)
                  clear hob hbb
                  go_upto_region 18 with (at_builtin; refine Lib.wpList_append_run _ rfl _ _ _ _ rfl _ _ rfl rfl _ _ hap1 ?_)
                  clear hap1
                  go_wp2_with (at_builtin; refine Lib.wpList_append_run _ rfl _ _ _ _ rfl _ _ rfl rfl _ _ hap2 ?_)
                  go_ret
                  exact outF_own RF.out OB.out (B3.out.trans (BB.out.mono hz3))
        · have d6 := dt (show 16 < z2 + 1 by omega)
          as_aux_lemma =>
            have YE : nxt (n, z1, z2) 0 = (n, 2 * z1 % 65536, 16) := by
              show (n, (2 * z1 + 0) % 65536, min (z2 + 1) 16) = _
              rw [show min (z2 + 1) 16 = 16 by omega, Int.add_zero]
            have XO := Lib.hid (show Ok1 (n, 2 * z1 % 65536, 16) by rw [← YE]; exact NO.out 0 (Or.inl rfl))
            have SE := Lib.hid (show ∀ k, k = pos n (oth n v) → sen l n 0 = (oth n v).take k ++ [(n, 2 * z1 % 65536, 16)] ++ (oth n v).drop k from fun k hk => by rw [S1.out, YE]; exact IA.out (n, 2 * z1 % 65536, 16) rfl k hk)
            clear YE S1 IA NO
            go_enter Try.func14, Try.ntmps14
            go_wp2_with fail
            refine K.out.mono ?_
            rintro _ w1 ⟨A1, c1, rfl, hA1, hc1, hn1, hb⟩
            have B1 := Lib.hid hb
            have HA1 := Lib.hid hA1
            have hz1 := hb.size
            clear hb hA1 K hn1
            go_wp2_with fail
            refine (KA.out _ _ _ HA1.out).mono ?_
            rintro _ w2 ⟨rfl, hb⟩
            have HA2 := Lib.hid (HA1.out.next hb)
            have B2 := Lib.hid (B1.out.trans (hb.mono hz1))
            have hz2 := B2.out.size
            clear hb HA1 KA B1
            go_wp2_with fail
            refine (KF.out _ _ _ (HA2.out.next (alloc_below _ _))).mono ?_
            rintro _ w3 ⟨A3, c3, rfl, hA3, hc3, hn3, hb⟩
            have BX := Lib.hid (blk_below (blk_new w2 (bxL n (2 * z1 % 65536) (16))) hb (by simp))
            have bx : w2.heap.size < w3.heap.size := blk_lt BX.out
            have B3 := Lib.hid ((B2.out.alloc hz2 (bxL n (2 * z1 % 65536) (16))).trans (hb.mono (by simp; omega)))
            have HA3 := Lib.hid hA3
            have hz3 := B3.out.size
            have RL := oth_len v n
            have hso := Lib.hid (show Sor (oth n v) from List.Pairwise.filter _ VV.out.2.2)
            clear hb hA3 hn3 KF HA2 B2
            generalize oth n v = R at *
            have RL : R.length ≤ 24 := by omega
            go_wp2_with fail
            go_loopw [11, 13] (fun o i wr => ∃ k : Nat, i = .int .i64 k ∧ k ≤ R.length ∧ OwnL wr w3.heap.size o (R.take k) ∧ Hid (∀ p (hp : p < R.length), p < k → R[p].1 < n) ∧ Below w3.heap.size w3 wr) (fun _ i _ => R.length - (intOf i).toNat)
            case atStart => exact ⟨0, rfl, Nat.zero_le _, OwnF.nil _ _, Lib.hid (fun p hp h => by omega), Below.refl _ _⟩
            case round => as_aux_lemma =>
              obtain ⟨k, rfl, hk, ho, HP, hb⟩ := hrel
              have B := Lib.hid hb
              have hz := hb.size
              have O := Lib.hid ho
              by_cases hlt : k < R.length
              · obtain ⟨b, p, rfl, hbw, g0, g1, g2, g3, g4, g5⟩ := lk_cell (HA3.out.below hb) k hlt
                clear hb ho
                obtain ⟨⟨x0, x1, x2⟩, hx⟩ : ∃ x, R[k] = x := ⟨_, rfl⟩
                have HX := Lib.hid hx
                rw [hx] at g0 g1 g2 g3 g4 g5
                simp only at g0 g1 g2 g3 g4 g5
                clear hx
                by_cases hq : x0 < n
                · as_aux_lemma =>
                  have d8 := dt hq
                  have HP2 := Lib.hid (show ∀ p (hp : p < R.length), p < k + 1 → R[p].1 < n from fun q hq1 hq2 => by
                    rcases Nat.lt_or_ge q k with h | h
                    · exact HP.out q hq1 h
                    · obtain rfl : q = k := by omega
                      rw [HX.out]; exact hq)
                  obtain ⟨v', w', hap, ho', hbb⟩ := O.out.one eLk 22 (x0, x1, x2) #[.int .i64 x0, .int .i64 x1, .int .i64 x2] rfl ⟨g3, g4, g5⟩ (by rw [List.length_take]; omega) hz
                  have O2 := Lib.hid (show OwnL w' w3.heap.size v' (R.take (k + 1)) by rw [take_one R k hlt, HX.out]; exact ho')
                  have B2 := Lib.hid (B.out.trans hbb)
                  clear hq ho' hbb
                  go_wp2_with (at_builtin; refine Lib.wpList_append_run _ rfl _ _ _ _ rfl _ _ rfl rfl _ _ hap ?_)
                  go_roundw
                  case rel => exact ⟨k + 1, by go_num, hlt, O2.out, HP2, B2.out⟩
                  case measure => simp [intOf]; omega
                · as_aux_lemma =>
                  have d8 := df hq
                  have KP := Lib.hid (pos_of2 n R k hk HP.out (fun h => by rw [HX.out]; exact hq))
                  have SEk := Lib.hid (SE.out k KP.out)
                  have hck : ¬ c3 = k := by omega
                  clear hq HX HP KP SE
                  have c0 := blk_cell (blk_below BX.out B.out bx) 0 (v := .int .i64 n) rfl
                  have c1 := blk_cell (blk_below BX.out B.out bx) 1 (v := .int .i64 (2 * z1 % 65536)) rfl
                  have c2 := blk_cell (blk_below BX.out B.out bx) 2 (v := .int .i64 (16)) rfl
                  obtain ⟨va, wa, hap1, hoa, hba⟩ := O.out.one eLk 22 (n, 2 * z1 % 65536, 16) #[.int .i64 n, .int .i64 (2 * z1 % 65536), .int .i64 (16)] rfl (ok_i64 XO.out) (by rw [List.length_take]; omega) hz
                  obtain ⟨A4, c4, e4, _⟩ := hoa.form
                  have hl4 : (R.take k ++ [(n, 2 * z1 % 65536, 16)]).length = k + 1 := by rw [List.length_append, List.length_take, Nat.min_eq_left hk]; rfl
                  rw [hl4] at e4
                  subst e4
                  have OA := Lib.hid hoa
                  have BA := Lib.hid (B.out.trans hba)
                  have hza := BA.out.size
                  clear hoa hba hl4
                  have y1 : (k : Int) + 1 - 1 = (k : Int) := by omega
                  have y2 := i64_nat k (by omega)
                  have y3 : (0 : Int) ≤ (k : Int) := by omega
                  have y4 : (k : Int) ≤ (R.length : Int) := by omega
                  obtain ⟨vb, wb, hap2, hob, hbb, _⟩ := OA.out.app eLk (c := c3 - k) 22 (flat_drop ((HA3.out.below BA.out).mono BA.out.size) k) (by rw [List.length_append, List.length_take, List.length_drop]; simp; omega) hza
                  rw [List.length_drop] at hap2
                  simp only [Option.map_some, add_off] at hap2
                  rw [show fL.sz = 3 from rfl] at hap2
                  have OB := Lib.hid (show OwnL wb w3.heap.size vb (R.take k ++ [(n, 2 * z1 % 65536, 16)] ++ R.drop k) from hob)
                  have BB := Lib.hid (BA.out.trans hbb)
                  have RF := Lib.hid (show sen l n 0 = R.take k ++ [(n, 2 * z1 % 65536, 16)] ++ R.drop k by exact SEk.out)
                  clear hob hbb
                  go_upto_region 18 with (at_builtin; refine Lib.wpList_append_run _ rfl _ _ _ _ rfl _ _ rfl rfl _ _ hap1 ?_)
                  clear hap1
                  go_wp2_with (at_builtin; refine Lib.wpList_append_run _ rfl _ _ _ _ rfl _ _ rfl rfl _ _ hap2 ?_)
                  go_ret
                  exact outF_own RF.out OB.out (B3.out.trans (BB.out.mono hz3))
              · as_aux_lemma =>
                have KP := Lib.hid (pos_of2 n R k hk HP.out (fun h => absurd h hlt))
                have SEk := Lib.hid (SE.out k KP.out)
                have DR := Lib.hid (show R.drop k = [] from List.drop_eq_nil_of_le (by omega))
                clear hb ho HP KP SE
                have c0 := blk_cell (blk_below BX.out B.out bx) 0 (v := .int .i64 n) rfl
                have c1 := blk_cell (blk_below BX.out B.out bx) 1 (v := .int .i64 (2 * z1 % 65536)) rfl
                have c2 := blk_cell (blk_below BX.out B.out bx) 2 (v := .int .i64 (16)) rfl
                obtain ⟨va, wa, hap1, hoa, hba⟩ := O.out.one eLk 22 (n, 2 * z1 % 65536, 16) #[.int .i64 n, .int .i64 (2 * z1 % 65536), .int .i64 (16)] rfl (ok_i64 XO.out) (by rw [List.length_take]; omega) hz
                obtain ⟨A4, c4, e4, _⟩ := hoa.form
                have hl4 : (R.take k ++ [(n, 2 * z1 % 65536, 16)]).length = k + 1 := by rw [List.length_append, List.length_take, Nat.min_eq_left hk]; rfl
                rw [hl4] at e4
                subst e4
                have OA := Lib.hid hoa
                have BA := Lib.hid (B.out.trans hba)
                have hza := BA.out.size
                clear hoa hba hl4
                have y1 : (k : Int) + 1 - 1 = (k : Int) := by omega
                have y2 := i64_nat k (by omega)
                have y3 : (0 : Int) ≤ (k : Int) := by omega
                have y4 : (k : Int) ≤ (R.length : Int) := by omega
                by_cases hck : c3 = k
                · as_aux_lemma =>
                  obtain ⟨vb, wb, hap2, hob, hbb, _⟩ := OA.out.app eLk (c := 0) 22 (show FlAt fL wa wa.heap.size A3 (R.drop k) by rw [DR.out]; exact FlAt.nil _ _ _) (by rw [List.length_append, List.length_take, List.length_drop]; simp; omega) hza
                  rw [List.length_drop] at hap2
                  have OB := Lib.hid (show OwnL wb w3.heap.size vb (R.take k ++ [(n, 2 * z1 % 65536, 16)] ++ R.drop k) from hob)
                  have BB := Lib.hid (BA.out.trans hbb)
                  have RF := Lib.hid (show sen l n 0 = R.take k ++ [(n, 2 * z1 % 65536, 16)] ++ R.drop k by exact SEk.out)
                  clear hob hbb
                  go_upto_region 18 with (at_builtin; refine Lib.wpList_append_run _ rfl _ _ _ _ rfl _ _ rfl rfl _ _ hap1 ?_)
                  clear hap1
                  go_wp2_with (at_builtin; refine Lib.wpList_append_run _ rfl _ _ _ _ rfl _ _ rfl rfl _ _ hap2 ?_)
                  go_ret
                  exact outF_own RF.out OB.out (B3.out.trans (BB.out.mono hz3))
                · as_aux_lemma =>
                  obtain ⟨vb, wb, hap2, hob, hbb, _⟩ := OA.out.app eLk (c := c3 - k) 22 (show FlAt fL wa wa.heap.size (Option.map (fun x => x.add (k * 3)) A3) (R.drop k) by rw [DR.out]; exact FlAt.nil _ _ _) (by rw [List.length_append, List.length_take, List.length_drop]; simp; omega) hza
                  rw [List.length_drop] at hap2
                  have OB := Lib.hid (show OwnL wb w3.heap.size vb (R.take k ++ [(n, 2 * z1 % 65536, 16)] ++ R.drop k) from hob)
                  have BB := Lib.hid (BA.out.trans hbb)
                  have RF := Lib.hid (show sen l n 0 = R.take k ++ [(n, 2 * z1 % 65536, 16)] ++ R.drop k by exact SEk.out)
                  clear hob hbb
                  go_upto_region 18 with (at_builtin; refine Lib.wpList_append_run _ rfl _ _ _ _ rfl _ _ rfl rfl _ _ hap1 ?_)
                  clear hap1
                  go_wp2_with (at_builtin; refine Lib.wpList_append_run _ rfl _ _ _ _ rfl _ _ rfl rfl _ _ hap2 ?_)
                  go_ret
                  exact outF_own RF.out OB.out (B3.out.trans (BB.out.mono hz3))
      · by_cases h16 : z2 < 16
        · have d6 := df (show ¬ 16 < z2 + 1 by omega)
          as_aux_lemma =>
            have YE : nxt (n, z1, z2) 1 = (n, (2 * z1 + 1) % 65536, z2 + 1) := by
              show (n, (2 * z1 + 1) % 65536, min (z2 + 1) 16) = _
              rw [show min (z2 + 1) 16 = z2 + 1 by omega]
            have XO := Lib.hid (show Ok1 (n, (2 * z1 + 1) % 65536, z2 + 1) by rw [← YE]; exact NO.out 1 (Or.inr rfl))
            have SE := Lib.hid (show ∀ k, k = pos n (oth n v) → sen l n 1 = (oth n v).take k ++ [(n, (2 * z1 + 1) % 65536, z2 + 1)] ++ (oth n v).drop k from fun k hk => by rw [S1.out, YE]; exact IA.out (n, (2 * z1 + 1) % 65536, z2 + 1) rfl k hk)
            clear YE S1 IA NO
            go_enter Try.func14, Try.ntmps14
            go_wp2_with fail
            refine K.out.mono ?_
            rintro _ w1 ⟨A1, c1, rfl, hA1, hc1, hn1, hb⟩
            have B1 := Lib.hid hb
            have HA1 := Lib.hid hA1
            have hz1 := hb.size
            clear hb hA1 K hn1
            go_wp2_with fail
            refine (KA.out _ _ _ HA1.out).mono ?_
            rintro _ w2 ⟨rfl, hb⟩
            have HA2 := Lib.hid (HA1.out.next hb)
            have B2 := Lib.hid (B1.out.trans (hb.mono hz1))
            have hz2 := B2.out.size
            clear hb HA1 KA B1
            go_wp2_with fail
            refine (KF.out _ _ _ (HA2.out.next (alloc_below _ _))).mono ?_
            rintro _ w3 ⟨A3, c3, rfl, hA3, hc3, hn3, hb⟩
            have BX := Lib.hid (blk_below (blk_new w2 (bxL n ((2 * z1 + 1) % 65536) (z2 + 1))) hb (by simp))
            have bx : w2.heap.size < w3.heap.size := blk_lt BX.out
            have B3 := Lib.hid ((B2.out.alloc hz2 (bxL n ((2 * z1 + 1) % 65536) (z2 + 1))).trans (hb.mono (by simp; omega)))
            have HA3 := Lib.hid hA3
            have hz3 := B3.out.size
            have RL := oth_len v n
            have hso := Lib.hid (show Sor (oth n v) from List.Pairwise.filter _ VV.out.2.2)
            clear hb hA3 hn3 KF HA2 B2
            generalize oth n v = R at *
            have RL : R.length ≤ 24 := by omega
            go_wp2_with fail
            go_loopw [11, 13] (fun o i wr => ∃ k : Nat, i = .int .i64 k ∧ k ≤ R.length ∧ OwnL wr w3.heap.size o (R.take k) ∧ Hid (∀ p (hp : p < R.length), p < k → R[p].1 < n) ∧ Below w3.heap.size w3 wr) (fun _ i _ => R.length - (intOf i).toNat)
            case atStart => exact ⟨0, rfl, Nat.zero_le _, OwnF.nil _ _, Lib.hid (fun p hp h => by omega), Below.refl _ _⟩
            case round => as_aux_lemma =>
              obtain ⟨k, rfl, hk, ho, HP, hb⟩ := hrel
              have B := Lib.hid hb
              have hz := hb.size
              have O := Lib.hid ho
              by_cases hlt : k < R.length
              · obtain ⟨b, p, rfl, hbw, g0, g1, g2, g3, g4, g5⟩ := lk_cell (HA3.out.below hb) k hlt
                clear hb ho
                obtain ⟨⟨x0, x1, x2⟩, hx⟩ : ∃ x, R[k] = x := ⟨_, rfl⟩
                have HX := Lib.hid hx
                rw [hx] at g0 g1 g2 g3 g4 g5
                simp only at g0 g1 g2 g3 g4 g5
                clear hx
                by_cases hq : x0 < n
                · as_aux_lemma =>
                  have d8 := dt hq
                  have HP2 := Lib.hid (show ∀ p (hp : p < R.length), p < k + 1 → R[p].1 < n from fun q hq1 hq2 => by
                    rcases Nat.lt_or_ge q k with h | h
                    · exact HP.out q hq1 h
                    · obtain rfl : q = k := by omega
                      rw [HX.out]; exact hq)
                  obtain ⟨v', w', hap, ho', hbb⟩ := O.out.one eLk 22 (x0, x1, x2) #[.int .i64 x0, .int .i64 x1, .int .i64 x2] rfl ⟨g3, g4, g5⟩ (by rw [List.length_take]; omega) hz
                  have O2 := Lib.hid (show OwnL w' w3.heap.size v' (R.take (k + 1)) by rw [take_one R k hlt, HX.out]; exact ho')
                  have B2 := Lib.hid (B.out.trans hbb)
                  clear hq ho' hbb
                  go_wp2_with (at_builtin; refine Lib.wpList_append_run _ rfl _ _ _ _ rfl _ _ rfl rfl _ _ hap ?_)
                  go_roundw
                  case rel => exact ⟨k + 1, by go_num, hlt, O2.out, HP2, B2.out⟩
                  case measure => simp [intOf]; omega
                · as_aux_lemma =>
                  have d8 := df hq
                  have KP := Lib.hid (pos_of2 n R k hk HP.out (fun h => by rw [HX.out]; exact hq))
                  have SEk := Lib.hid (SE.out k KP.out)
                  have hck : ¬ c3 = k := by omega
                  clear hq HX HP KP SE
                  have c0 := blk_cell (blk_below BX.out B.out bx) 0 (v := .int .i64 n) rfl
                  have c1 := blk_cell (blk_below BX.out B.out bx) 1 (v := .int .i64 ((2 * z1 + 1) % 65536)) rfl
                  have c2 := blk_cell (blk_below BX.out B.out bx) 2 (v := .int .i64 (z2 + 1)) rfl
                  obtain ⟨va, wa, hap1, hoa, hba⟩ := O.out.one eLk 22 (n, (2 * z1 + 1) % 65536, z2 + 1) #[.int .i64 n, .int .i64 ((2 * z1 + 1) % 65536), .int .i64 (z2 + 1)] rfl (ok_i64 XO.out) (by rw [List.length_take]; omega) hz
                  obtain ⟨A4, c4, e4, _⟩ := hoa.form
                  have hl4 : (R.take k ++ [(n, (2 * z1 + 1) % 65536, z2 + 1)]).length = k + 1 := by rw [List.length_append, List.length_take, Nat.min_eq_left hk]; rfl
                  rw [hl4] at e4
                  subst e4
                  have OA := Lib.hid hoa
                  have BA := Lib.hid (B.out.trans hba)
                  have hza := BA.out.size
                  clear hoa hba hl4
                  have y1 : (k : Int) + 1 - 1 = (k : Int) := by omega
                  have y2 := i64_nat k (by omega)
                  have y3 : (0 : Int) ≤ (k : Int) := by omega
                  have y4 : (k : Int) ≤ (R.length : Int) := by omega
                  obtain ⟨vb, wb, hap2, hob, hbb, _⟩ := OA.out.app eLk (c := c3 - k) 22 (flat_drop ((HA3.out.below BA.out).mono BA.out.size) k) (by rw [List.length_append, List.length_take, List.length_drop]; simp; omega) hza
                  rw [List.length_drop] at hap2
                  simp only [Option.map_some, add_off] at hap2
                  rw [show fL.sz = 3 from rfl] at hap2
                  have OB := Lib.hid (show OwnL wb w3.heap.size vb (R.take k ++ [(n, (2 * z1 + 1) % 65536, z2 + 1)] ++ R.drop k) from hob)
                  have BB := Lib.hid (BA.out.trans hbb)
                  have RF := Lib.hid (show sen l n 1 = R.take k ++ [(n, (2 * z1 + 1) % 65536, z2 + 1)] ++ R.drop k by exact SEk.out)
                  clear hob hbb
                  go_upto_region 18 with (at_builtin; refine Lib.wpList_append_run _ rfl _ _ _ _ rfl _ _ rfl rfl _ _ hap1 ?_)
                  clear hap1
                  go_wp2_with (at_builtin; refine Lib.wpList_append_run _ rfl _ _ _ _ rfl _ _ rfl rfl _ _ hap2 ?_)
                  go_ret
                  exact outF_own RF.out OB.out (B3.out.trans (BB.out.mono hz3))
              · as_aux_lemma =>
                have KP := Lib.hid (pos_of2 n R k hk HP.out (fun h => absurd h hlt))
                have SEk := Lib.hid (SE.out k KP.out)
                have DR := Lib.hid (show R.drop k = [] from List.drop_eq_nil_of_le (by omega))
                clear hb ho HP KP SE
                have c0 := blk_cell (blk_below BX.out B.out bx) 0 (v := .int .i64 n) rfl
                have c1 := blk_cell (blk_below BX.out B.out bx) 1 (v := .int .i64 ((2 * z1 + 1) % 65536)) rfl
                have c2 := blk_cell (blk_below BX.out B.out bx) 2 (v := .int .i64 (z2 + 1)) rfl
                obtain ⟨va, wa, hap1, hoa, hba⟩ := O.out.one eLk 22 (n, (2 * z1 + 1) % 65536, z2 + 1) #[.int .i64 n, .int .i64 ((2 * z1 + 1) % 65536), .int .i64 (z2 + 1)] rfl (ok_i64 XO.out) (by rw [List.length_take]; omega) hz
                obtain ⟨A4, c4, e4, _⟩ := hoa.form
                have hl4 : (R.take k ++ [(n, (2 * z1 + 1) % 65536, z2 + 1)]).length = k + 1 := by rw [List.length_append, List.length_take, Nat.min_eq_left hk]; rfl
                rw [hl4] at e4
                subst e4
                have OA := Lib.hid hoa
                have BA := Lib.hid (B.out.trans hba)
                have hza := BA.out.size
                clear hoa hba hl4
                have y1 : (k : Int) + 1 - 1 = (k : Int) := by omega
                have y2 := i64_nat k (by omega)
                have y3 : (0 : Int) ≤ (k : Int) := by omega
                have y4 : (k : Int) ≤ (R.length : Int) := by omega
                by_cases hck : c3 = k
                · as_aux_lemma =>
                  obtain ⟨vb, wb, hap2, hob, hbb, _⟩ := OA.out.app eLk (c := 0) 22 (show FlAt fL wa wa.heap.size A3 (R.drop k) by rw [DR.out]; exact FlAt.nil _ _ _) (by rw [List.length_append, List.length_take, List.length_drop]; simp; omega) hza
                  rw [List.length_drop] at hap2
                  have OB := Lib.hid (show OwnL wb w3.heap.size vb (R.take k ++ [(n, (2 * z1 + 1) % 65536, z2 + 1)] ++ R.drop k) from hob)
                  have BB := Lib.hid (BA.out.trans hbb)
                  have RF := Lib.hid (show sen l n 1 = R.take k ++ [(n, (2 * z1 + 1) % 65536, z2 + 1)] ++ R.drop k by exact SEk.out)
                  clear hob hbb
                  go_upto_region 18 with (at_builtin; refine Lib.wpList_append_run _ rfl _ _ _ _ rfl _ _ rfl rfl _ _ hap1 ?_)
                  clear hap1
                  go_wp2_with (at_builtin; refine Lib.wpList_append_run _ rfl _ _ _ _ rfl _ _ rfl rfl _ _ hap2 ?_)
                  go_ret
                  exact outF_own RF.out OB.out (B3.out.trans (BB.out.mono hz3))
                · as_aux_lemma =>
                  obtain ⟨vb, wb, hap2, hob, hbb, _⟩ := OA.out.app eLk (c := c3 - k) 22 (show FlAt fL wa wa.heap.size (Option.map (fun x => x.add (k * 3)) A3) (R.drop k) by rw [DR.out]; exact FlAt.nil _ _ _) (by rw [List.length_append, List.length_take, List.length_drop]; simp; omega) hza
                  rw [List.length_drop] at hap2
                  have OB := Lib.hid (show OwnL wb w3.heap.size vb (R.take k ++ [(n, (2 * z1 + 1) % 65536, z2 + 1)] ++ R.drop k) from hob)
                  have BB := Lib.hid (BA.out.trans hbb)
                  have RF := Lib.hid (show sen l n 1 = R.take k ++ [(n, (2 * z1 + 1) % 65536, z2 + 1)] ++ R.drop k by exact SEk.out)
                  clear hob hbb
                  go_upto_region 18 with (at_builtin; refine Lib.wpList_append_run _ rfl _ _ _ _ rfl _ _ rfl rfl _ _ hap1 ?_)
                  clear hap1
                  go_wp2_with (at_builtin; refine Lib.wpList_append_run _ rfl _ _ _ _ rfl _ _ rfl rfl _ _ hap2 ?_)
                  go_ret
                  exact outF_own RF.out OB.out (B3.out.trans (BB.out.mono hz3))
        · have d6 := dt (show 16 < z2 + 1 by omega)
          as_aux_lemma =>
            have YE : nxt (n, z1, z2) 1 = (n, (2 * z1 + 1) % 65536, 16) := by
              show (n, (2 * z1 + 1) % 65536, min (z2 + 1) 16) = _
              rw [show min (z2 + 1) 16 = 16 by omega]
            have XO := Lib.hid (show Ok1 (n, (2 * z1 + 1) % 65536, 16) by rw [← YE]; exact NO.out 1 (Or.inr rfl))
            have SE := Lib.hid (show ∀ k, k = pos n (oth n v) → sen l n 1 = (oth n v).take k ++ [(n, (2 * z1 + 1) % 65536, 16)] ++ (oth n v).drop k from fun k hk => by rw [S1.out, YE]; exact IA.out (n, (2 * z1 + 1) % 65536, 16) rfl k hk)
            clear YE S1 IA NO
            go_enter Try.func14, Try.ntmps14
            go_wp2_with fail
            refine K.out.mono ?_
            rintro _ w1 ⟨A1, c1, rfl, hA1, hc1, hn1, hb⟩
            have B1 := Lib.hid hb
            have HA1 := Lib.hid hA1
            have hz1 := hb.size
            clear hb hA1 K hn1
            go_wp2_with fail
            refine (KA.out _ _ _ HA1.out).mono ?_
            rintro _ w2 ⟨rfl, hb⟩
            have HA2 := Lib.hid (HA1.out.next hb)
            have B2 := Lib.hid (B1.out.trans (hb.mono hz1))
            have hz2 := B2.out.size
            clear hb HA1 KA B1
            go_wp2_with fail
            refine (KF.out _ _ _ (HA2.out.next (alloc_below _ _))).mono ?_
            rintro _ w3 ⟨A3, c3, rfl, hA3, hc3, hn3, hb⟩
            have BX := Lib.hid (blk_below (blk_new w2 (bxL n ((2 * z1 + 1) % 65536) (16))) hb (by simp))
            have bx : w2.heap.size < w3.heap.size := blk_lt BX.out
            have B3 := Lib.hid ((B2.out.alloc hz2 (bxL n ((2 * z1 + 1) % 65536) (16))).trans (hb.mono (by simp; omega)))
            have HA3 := Lib.hid hA3
            have hz3 := B3.out.size
            have RL := oth_len v n
            have hso := Lib.hid (show Sor (oth n v) from List.Pairwise.filter _ VV.out.2.2)
            clear hb hA3 hn3 KF HA2 B2
            generalize oth n v = R at *
            have RL : R.length ≤ 24 := by omega
            go_wp2_with fail
            go_loopw [11, 13] (fun o i wr => ∃ k : Nat, i = .int .i64 k ∧ k ≤ R.length ∧ OwnL wr w3.heap.size o (R.take k) ∧ Hid (∀ p (hp : p < R.length), p < k → R[p].1 < n) ∧ Below w3.heap.size w3 wr) (fun _ i _ => R.length - (intOf i).toNat)
            case atStart => exact ⟨0, rfl, Nat.zero_le _, OwnF.nil _ _, Lib.hid (fun p hp h => by omega), Below.refl _ _⟩
            case round => as_aux_lemma =>
              obtain ⟨k, rfl, hk, ho, HP, hb⟩ := hrel
              have B := Lib.hid hb
              have hz := hb.size
              have O := Lib.hid ho
              by_cases hlt : k < R.length
              · obtain ⟨b, p, rfl, hbw, g0, g1, g2, g3, g4, g5⟩ := lk_cell (HA3.out.below hb) k hlt
                clear hb ho
                obtain ⟨⟨x0, x1, x2⟩, hx⟩ : ∃ x, R[k] = x := ⟨_, rfl⟩
                have HX := Lib.hid hx
                rw [hx] at g0 g1 g2 g3 g4 g5
                simp only at g0 g1 g2 g3 g4 g5
                clear hx
                by_cases hq : x0 < n
                · as_aux_lemma =>
                  have d8 := dt hq
                  have HP2 := Lib.hid (show ∀ p (hp : p < R.length), p < k + 1 → R[p].1 < n from fun q hq1 hq2 => by
                    rcases Nat.lt_or_ge q k with h | h
                    · exact HP.out q hq1 h
                    · obtain rfl : q = k := by omega
                      rw [HX.out]; exact hq)
                  obtain ⟨v', w', hap, ho', hbb⟩ := O.out.one eLk 22 (x0, x1, x2) #[.int .i64 x0, .int .i64 x1, .int .i64 x2] rfl ⟨g3, g4, g5⟩ (by rw [List.length_take]; omega) hz
                  have O2 := Lib.hid (show OwnL w' w3.heap.size v' (R.take (k + 1)) by rw [take_one R k hlt, HX.out]; exact ho')
                  have B2 := Lib.hid (B.out.trans hbb)
                  clear hq ho' hbb
                  go_wp2_with (at_builtin; refine Lib.wpList_append_run _ rfl _ _ _ _ rfl _ _ rfl rfl _ _ hap ?_)
                  go_roundw
                  case rel => exact ⟨k + 1, by go_num, hlt, O2.out, HP2, B2.out⟩
                  case measure => simp [intOf]; omega
                · as_aux_lemma =>
                  have d8 := df hq
                  have KP := Lib.hid (pos_of2 n R k hk HP.out (fun h => by rw [HX.out]; exact hq))
                  have SEk := Lib.hid (SE.out k KP.out)
                  have hck : ¬ c3 = k := by omega
                  clear hq HX HP KP SE
                  have c0 := blk_cell (blk_below BX.out B.out bx) 0 (v := .int .i64 n) rfl
                  have c1 := blk_cell (blk_below BX.out B.out bx) 1 (v := .int .i64 ((2 * z1 + 1) % 65536)) rfl
                  have c2 := blk_cell (blk_below BX.out B.out bx) 2 (v := .int .i64 (16)) rfl
                  obtain ⟨va, wa, hap1, hoa, hba⟩ := O.out.one eLk 22 (n, (2 * z1 + 1) % 65536, 16) #[.int .i64 n, .int .i64 ((2 * z1 + 1) % 65536), .int .i64 (16)] rfl (ok_i64 XO.out) (by rw [List.length_take]; omega) hz
                  obtain ⟨A4, c4, e4, _⟩ := hoa.form
                  have hl4 : (R.take k ++ [(n, (2 * z1 + 1) % 65536, 16)]).length = k + 1 := by rw [List.length_append, List.length_take, Nat.min_eq_left hk]; rfl
                  rw [hl4] at e4
                  subst e4
                  have OA := Lib.hid hoa
                  have BA := Lib.hid (B.out.trans hba)
                  have hza := BA.out.size
                  clear hoa hba hl4
                  have y1 : (k : Int) + 1 - 1 = (k : Int) := by omega
                  have y2 := i64_nat k (by omega)
                  have y3 : (0 : Int) ≤ (k : Int) := by omega
                  have y4 : (k : Int) ≤ (R.length : Int) := by omega
                  obtain ⟨vb, wb, hap2, hob, hbb, _⟩ := OA.out.app eLk (c := c3 - k) 22 (flat_drop ((HA3.out.below BA.out).mono BA.out.size) k) (by rw [List.length_append, List.length_take, List.length_drop]; simp; omega) hza
                  rw [List.length_drop] at hap2
                  simp only [Option.map_some, add_off] at hap2
                  rw [show fL.sz = 3 from rfl] at hap2
                  have OB := Lib.hid (show OwnL wb w3.heap.size vb (R.take k ++ [(n, (2 * z1 + 1) % 65536, 16)] ++ R.drop k) from hob)
                  have BB := Lib.hid (BA.out.trans hbb)
                  have RF := Lib.hid (show sen l n 1 = R.take k ++ [(n, (2 * z1 + 1) % 65536, 16)] ++ R.drop k by exact SEk.out)
                  clear hob hbb
                  go_upto_region 18 with (at_builtin; refine Lib.wpList_append_run _ rfl _ _ _ _ rfl _ _ rfl rfl _ _ hap1 ?_)
                  clear hap1
                  go_wp2_with (at_builtin; refine Lib.wpList_append_run _ rfl _ _ _ _ rfl _ _ rfl rfl _ _ hap2 ?_)
                  go_ret
                  exact outF_own RF.out OB.out (B3.out.trans (BB.out.mono hz3))
              · as_aux_lemma =>
                have KP := Lib.hid (pos_of2 n R k hk HP.out (fun h => absurd h hlt))
                have SEk := Lib.hid (SE.out k KP.out)
                have DR := Lib.hid (show R.drop k = [] from List.drop_eq_nil_of_le (by omega))
                clear hb ho HP KP SE
                have c0 := blk_cell (blk_below BX.out B.out bx) 0 (v := .int .i64 n) rfl
                have c1 := blk_cell (blk_below BX.out B.out bx) 1 (v := .int .i64 ((2 * z1 + 1) % 65536)) rfl
                have c2 := blk_cell (blk_below BX.out B.out bx) 2 (v := .int .i64 (16)) rfl
                obtain ⟨va, wa, hap1, hoa, hba⟩ := O.out.one eLk 22 (n, (2 * z1 + 1) % 65536, 16) #[.int .i64 n, .int .i64 ((2 * z1 + 1) % 65536), .int .i64 (16)] rfl (ok_i64 XO.out) (by rw [List.length_take]; omega) hz
                obtain ⟨A4, c4, e4, _⟩ := hoa.form
                have hl4 : (R.take k ++ [(n, (2 * z1 + 1) % 65536, 16)]).length = k + 1 := by rw [List.length_append, List.length_take, Nat.min_eq_left hk]; rfl
                rw [hl4] at e4
                subst e4
                have OA := Lib.hid hoa
                have BA := Lib.hid (B.out.trans hba)
                have hza := BA.out.size
                clear hoa hba hl4
                have y1 : (k : Int) + 1 - 1 = (k : Int) := by omega
                have y2 := i64_nat k (by omega)
                have y3 : (0 : Int) ≤ (k : Int) := by omega
                have y4 : (k : Int) ≤ (R.length : Int) := by omega
                by_cases hck : c3 = k
                · as_aux_lemma =>
                  obtain ⟨vb, wb, hap2, hob, hbb, _⟩ := OA.out.app eLk (c := 0) 22 (show FlAt fL wa wa.heap.size A3 (R.drop k) by rw [DR.out]; exact FlAt.nil _ _ _) (by rw [List.length_append, List.length_take, List.length_drop]; simp; omega) hza
                  rw [List.length_drop] at hap2
                  have OB := Lib.hid (show OwnL wb w3.heap.size vb (R.take k ++ [(n, (2 * z1 + 1) % 65536, 16)] ++ R.drop k) from hob)
                  have BB := Lib.hid (BA.out.trans hbb)
                  have RF := Lib.hid (show sen l n 1 = R.take k ++ [(n, (2 * z1 + 1) % 65536, 16)] ++ R.drop k by exact SEk.out)
                  clear hob hbb
                  go_upto_region 18 with (at_builtin; refine Lib.wpList_append_run _ rfl _ _ _ _ rfl _ _ rfl rfl _ _ hap1 ?_)
                  clear hap1
                  go_wp2_with (at_builtin; refine Lib.wpList_append_run _ rfl _ _ _ _ rfl _ _ rfl rfl _ _ hap2 ?_)
                  go_ret
                  exact outF_own RF.out OB.out (B3.out.trans (BB.out.mono hz3))
                · as_aux_lemma =>
                  obtain ⟨vb, wb, hap2, hob, hbb, _⟩ := OA.out.app eLk (c := c3 - k) 22 (show FlAt fL wa wa.heap.size (Option.map (fun x => x.add (k * 3)) A3) (R.drop k) by rw [DR.out]; exact FlAt.nil _ _ _) (by rw [List.length_append, List.length_take, List.length_drop]; simp; omega) hza
                  rw [List.length_drop] at hap2
                  have OB := Lib.hid (show OwnL wb w3.heap.size vb (R.take k ++ [(n, (2 * z1 + 1) % 65536, 16)] ++ R.drop k) from hob)
                  have BB := Lib.hid (BA.out.trans hbb)
                  have RF := Lib.hid (show sen l n 1 = R.take k ++ [(n, (2 * z1 + 1) % 65536, 16)] ++ R.drop k by exact SEk.out)
                  clear hob hbb
                  go_upto_region 18 with (at_builtin; refine Lib.wpList_append_run _ rfl _ _ _ _ rfl _ _ rfl rfl _ _ hap1 ?_)
                  clear hap1
                  go_wp2_with (at_builtin; refine Lib.wpList_append_run _ rfl _ _ _ _ rfl _ _ rfl rfl _ _ hap2 ?_)
                  go_ret
                  exact outF_own RF.out OB.out (B3.out.trans (BB.out.mono hz3))
    · have d5 := df (show ¬ 24 ≤ v.length by omega)
      cases ok
      · by_cases h16 : z2 < 16
        · have d6 := df (show ¬ 16 < z2 + 1 by omega)
          as_aux_lemma =>
            have YE : nxt (n, z1, z2) 0 = (n, 2 * z1 % 65536, z2 + 1) := by
              show (n, (2 * z1 + 0) % 65536, min (z2 + 1) 16) = _
              rw [show min (z2 + 1) 16 = z2 + 1 by omega, Int.add_zero]
            have XO := Lib.hid (show Ok1 (n, 2 * z1 % 65536, z2 + 1) by rw [← YE]; exact NO.out 0 (Or.inl rfl))
            have SE := Lib.hid (show ∀ k, k = pos n (oth n v) → sen l n 0 = (oth n v).take k ++ [(n, 2 * z1 % 65536, z2 + 1)] ++ (oth n v).drop k from fun k hk => by rw [S1.out, YE]; exact IA.out (n, 2 * z1 % 65536, z2 + 1) rfl k hk)
            clear YE S1 IA NO
            go_enter Try.func14, Try.ntmps14
            go_wp2_with fail
            refine K.out.mono ?_
            rintro _ w1 ⟨A1, c1, rfl, hA1, hc1, hn1, hb⟩
            have B1 := Lib.hid hb
            have HA1 := Lib.hid hA1
            have hz1 := hb.size
            clear hb hA1 K hn1
            go_wp2_with fail
            refine (KA.out _ _ _ HA1.out).mono ?_
            rintro _ w2 ⟨rfl, hb⟩
            have HA2 := Lib.hid (HA1.out.next hb)
            have B2 := Lib.hid (B1.out.trans (hb.mono hz1))
            have hz2 := B2.out.size
            clear hb HA1 KA B1
            go_wp2_with fail
            refine (KF.out _ _ _ (HA2.out.next (alloc_below _ _))).mono ?_
            rintro _ w3 ⟨A3, c3, rfl, hA3, hc3, hn3, hb⟩
            have BX := Lib.hid (blk_below (blk_new w2 (bxL n (2 * z1 % 65536) (z2 + 1))) hb (by simp))
            have bx : w2.heap.size < w3.heap.size := blk_lt BX.out
            have B3 := Lib.hid ((B2.out.alloc hz2 (bxL n (2 * z1 % 65536) (z2 + 1))).trans (hb.mono (by simp; omega)))
            have HA3 := Lib.hid hA3
            have hz3 := B3.out.size
            have RL := oth_len v n
            have hso := Lib.hid (show Sor (oth n v) from List.Pairwise.filter _ VV.out.2.2)
            clear hb hA3 hn3 KF HA2 B2
            generalize oth n v = R at *
            have RL : R.length ≤ 24 := by omega
            go_wp2_with fail
            go_loopw [11, 13] (fun o i wr => ∃ k : Nat, i = .int .i64 k ∧ k ≤ R.length ∧ OwnL wr w3.heap.size o (R.take k) ∧ Hid (∀ p (hp : p < R.length), p < k → R[p].1 < n) ∧ Below w3.heap.size w3 wr) (fun _ i _ => R.length - (intOf i).toNat)
            case atStart => exact ⟨0, rfl, Nat.zero_le _, OwnF.nil _ _, Lib.hid (fun p hp h => by omega), Below.refl _ _⟩
            case round => as_aux_lemma =>
              obtain ⟨k, rfl, hk, ho, HP, hb⟩ := hrel
              have B := Lib.hid hb
              have hz := hb.size
              have O := Lib.hid ho
              by_cases hlt : k < R.length
              · obtain ⟨b, p, rfl, hbw, g0, g1, g2, g3, g4, g5⟩ := lk_cell (HA3.out.below hb) k hlt
                clear hb ho
                obtain ⟨⟨x0, x1, x2⟩, hx⟩ : ∃ x, R[k] = x := ⟨_, rfl⟩
                have HX := Lib.hid hx
                rw [hx] at g0 g1 g2 g3 g4 g5
                simp only at g0 g1 g2 g3 g4 g5
                clear hx
                by_cases hq : x0 < n
                · as_aux_lemma =>
                  have d8 := dt hq
                  have HP2 := Lib.hid (show ∀ p (hp : p < R.length), p < k + 1 → R[p].1 < n from fun q hq1 hq2 => by
                    rcases Nat.lt_or_ge q k with h | h
                    · exact HP.out q hq1 h
                    · obtain rfl : q = k := by omega
                      rw [HX.out]; exact hq)
                  obtain ⟨v', w', hap, ho', hbb⟩ := O.out.one eLk 22 (x0, x1, x2) #[.int .i64 x0, .int .i64 x1, .int .i64 x2] rfl ⟨g3, g4, g5⟩ (by rw [List.length_take]; omega) hz
                  have O2 := Lib.hid (show OwnL w' w3.heap.size v' (R.take (k + 1)) by rw [take_one R k hlt, HX.out]; exact ho')
                  have B2 := Lib.hid (B.out.trans hbb)
                  clear hq ho' hbb
                  go_wp2_with (at_builtin; refine Lib.wpList_append_run _ rfl _ _ _ _ rfl _ _ rfl rfl _ _ hap ?_)
                  go_roundw
                  case rel => exact ⟨k + 1, by go_num, hlt, O2.out, HP2, B2.out⟩
                  case measure => simp [intOf]; omega
                · as_aux_lemma =>
                  have d8 := df hq
                  have KP := Lib.hid (pos_of2 n R k hk HP.out (fun h => by rw [HX.out]; exact hq))
                  have SEk := Lib.hid (SE.out k KP.out)
                  have hck : ¬ c3 = k := by omega
                  clear hq HX HP KP SE
                  have c0 := blk_cell (blk_below BX.out B.out bx) 0 (v := .int .i64 n) rfl
                  have c1 := blk_cell (blk_below BX.out B.out bx) 1 (v := .int .i64 (2 * z1 % 65536)) rfl
                  have c2 := blk_cell (blk_below BX.out B.out bx) 2 (v := .int .i64 (z2 + 1)) rfl
                  obtain ⟨va, wa, hap1, hoa, hba⟩ := O.out.one eLk 22 (n, 2 * z1 % 65536, z2 + 1) #[.int .i64 n, .int .i64 (2 * z1 % 65536), .int .i64 (z2 + 1)] rfl (ok_i64 XO.out) (by rw [List.length_take]; omega) hz
                  obtain ⟨A4, c4, e4, _⟩ := hoa.form
                  have hl4 : (R.take k ++ [(n, 2 * z1 % 65536, z2 + 1)]).length = k + 1 := by rw [List.length_append, List.length_take, Nat.min_eq_left hk]; rfl
                  rw [hl4] at e4
                  subst e4
                  have OA := Lib.hid hoa
                  have BA := Lib.hid (B.out.trans hba)
                  have hza := BA.out.size
                  clear hoa hba hl4
                  have y1 : (k : Int) + 1 - 1 = (k : Int) := by omega
                  have y2 := i64_nat k (by omega)
                  have y3 : (0 : Int) ≤ (k : Int) := by omega
                  have y4 : (k : Int) ≤ (R.length : Int) := by omega
                  obtain ⟨vb, wb, hap2, hob, hbb, _⟩ := OA.out.app eLk (c := c3 - k) 22 (flat_drop ((HA3.out.below BA.out).mono BA.out.size) k) (by rw [List.length_append, List.length_take, List.length_drop]; simp; omega) hza
                  rw [List.length_drop] at hap2
                  simp only [Option.map_some, add_off] at hap2
                  rw [show fL.sz = 3 from rfl] at hap2
                  have OB := Lib.hid (show OwnL wb w3.heap.size vb (R.take k ++ [(n, 2 * z1 % 65536, z2 + 1)] ++ R.drop k) from hob)
                  have BB := Lib.hid (BA.out.trans hbb)
                  have RF := Lib.hid (show sen l n 0 = R.take k ++ [(n, 2 * z1 % 65536, z2 + 1)] ++ R.drop k by exact SEk.out)
                  clear hob hbb
                  go_upto_region 18 with (at_builtin; refine Lib.wpList_append_run _ rfl _ _ _ _ rfl _ _ rfl rfl _ _ hap1 ?_)
                  clear hap1
                  go_wp2_with (at_builtin; refine Lib.wpList_append_run _ rfl _ _ _ _ rfl _ _ rfl rfl _ _ hap2 ?_)
                  go_ret
                  exact outF_own RF.out OB.out (B3.out.trans (BB.out.mono hz3))
              · as_aux_lemma =>
                have KP := Lib.hid (pos_of2 n R k hk HP.out (fun h => absurd h hlt))
                have SEk := Lib.hid (SE.out k KP.out)
                have DR := Lib.hid (show R.drop k = [] from List.drop_eq_nil_of_le (by omega))
                clear hb ho HP KP SE
                have c0 := blk_cell (blk_below BX.out B.out bx) 0 (v := .int .i64 n) rfl
                have c1 := blk_cell (blk_below BX.out B.out bx) 1 (v := .int .i64 (2 * z1 % 65536)) rfl
                have c2 := blk_cell (blk_below BX.out B.out bx) 2 (v := .int .i64 (z2 + 1)) rfl
                obtain ⟨va, wa, hap1, hoa, hba⟩ := O.out.one eLk 22 (n, 2 * z1 % 65536, z2 + 1) #[.int .i64 n, .int .i64 (2 * z1 % 65536), .int .i64 (z2 + 1)] rfl (ok_i64 XO.out) (by rw [List.length_take]; omega) hz
                obtain ⟨A4, c4, e4, _⟩ := hoa.form
                have hl4 : (R.take k ++ [(n, 2 * z1 % 65536, z2 + 1)]).length = k + 1 := by rw [List.length_append, List.length_take, Nat.min_eq_left hk]; rfl
                rw [hl4] at e4
                subst e4
                have OA := Lib.hid hoa
                have BA := Lib.hid (B.out.trans hba)
                have hza := BA.out.size
                clear hoa hba hl4
                have y1 : (k : Int) + 1 - 1 = (k : Int) := by omega
                have y2 := i64_nat k (by omega)
                have y3 : (0 : Int) ≤ (k : Int) := by omega
                have y4 : (k : Int) ≤ (R.length : Int) := by omega
                by_cases hck : c3 = k
                · as_aux_lemma =>
                  obtain ⟨vb, wb, hap2, hob, hbb, _⟩ := OA.out.app eLk (c := 0) 22 (show FlAt fL wa wa.heap.size A3 (R.drop k) by rw [DR.out]; exact FlAt.nil _ _ _) (by rw [List.length_append, List.length_take, List.length_drop]; simp; omega) hza
                  rw [List.length_drop] at hap2
                  have OB := Lib.hid (show OwnL wb w3.heap.size vb (R.take k ++ [(n, 2 * z1 % 65536, z2 + 1)] ++ R.drop k) from hob)
                  have BB := Lib.hid (BA.out.trans hbb)
                  have RF := Lib.hid (show sen l n 0 = R.take k ++ [(n, 2 * z1 % 65536, z2 + 1)] ++ R.drop k by exact SEk.out)
                  clear hob hbb
                  go_upto_region 18 with (at_builtin; refine Lib.wpList_append_run _ rfl _ _ _ _ rfl _ _ rfl rfl _ _ hap1 ?_)
                  clear hap1
                  go_wp2_with (at_builtin; refine Lib.wpList_append_run _ rfl _ _ _ _ rfl _ _ rfl rfl _ _ hap2 ?_)
                  go_ret
                  exact outF_own RF.out OB.out (B3.out.trans (BB.out.mono hz3))
                · as_aux_lemma =>
                  obtain ⟨vb, wb, hap2, hob, hbb, _⟩ := OA.out.app eLk (c := c3 - k) 22 (show FlAt fL wa wa.heap.size (Option.map (fun x => x.add (k * 3)) A3) (R.drop k) by rw [DR.out]; exact FlAt.nil _ _ _) (by rw [List.length_append, List.length_take, List.length_drop]; simp; omega) hza
                  rw [List.length_drop] at hap2
                  have OB := Lib.hid (show OwnL wb w3.heap.size vb (R.take k ++ [(n, 2 * z1 % 65536, z2 + 1)] ++ R.drop k) from hob)
                  have BB := Lib.hid (BA.out.trans hbb)
                  have RF := Lib.hid (show sen l n 0 = R.take k ++ [(n, 2 * z1 % 65536, z2 + 1)] ++ R.drop k by exact SEk.out)
                  clear hob hbb
                  go_upto_region 18 with (at_builtin; refine Lib.wpList_append_run _ rfl _ _ _ _ rfl _ _ rfl rfl _ _ hap1 ?_)
                  clear hap1
                  go_wp2_with (at_builtin; refine Lib.wpList_append_run _ rfl _ _ _ _ rfl _ _ rfl rfl _ _ hap2 ?_)
                  go_ret
                  exact outF_own RF.out OB.out (B3.out.trans (BB.out.mono hz3))
        · have d6 := dt (show 16 < z2 + 1 by omega)
          as_aux_lemma =>
            have YE : nxt (n, z1, z2) 0 = (n, 2 * z1 % 65536, 16) := by
              show (n, (2 * z1 + 0) % 65536, min (z2 + 1) 16) = _
              rw [show min (z2 + 1) 16 = 16 by omega, Int.add_zero]
            have XO := Lib.hid (show Ok1 (n, 2 * z1 % 65536, 16) by rw [← YE]; exact NO.out 0 (Or.inl rfl))
            have SE := Lib.hid (show ∀ k, k = pos n (oth n v) → sen l n 0 = (oth n v).take k ++ [(n, 2 * z1 % 65536, 16)] ++ (oth n v).drop k from fun k hk => by rw [S1.out, YE]; exact IA.out (n, 2 * z1 % 65536, 16) rfl k hk)
            clear YE S1 IA NO
            go_enter Try.func14, Try.ntmps14
            go_wp2_with fail
            refine K.out.mono ?_
            rintro _ w1 ⟨A1, c1, rfl, hA1, hc1, hn1, hb⟩
            have B1 := Lib.hid hb
            have HA1 := Lib.hid hA1
            have hz1 := hb.size
            clear hb hA1 K hn1
            go_wp2_with fail
            refine (KA.out _ _ _ HA1.out).mono ?_
            rintro _ w2 ⟨rfl, hb⟩
            have HA2 := Lib.hid (HA1.out.next hb)
            have B2 := Lib.hid (B1.out.trans (hb.mono hz1))
            have hz2 := B2.out.size
            clear hb HA1 KA B1
            go_wp2_with fail
            refine (KF.out _ _ _ (HA2.out.next (alloc_below _ _))).mono ?_
            rintro _ w3 ⟨A3, c3, rfl, hA3, hc3, hn3, hb⟩
            have BX := Lib.hid (blk_below (blk_new w2 (bxL n (2 * z1 % 65536) (16))) hb (by simp))
            have bx : w2.heap.size < w3.heap.size := blk_lt BX.out
            have B3 := Lib.hid ((B2.out.alloc hz2 (bxL n (2 * z1 % 65536) (16))).trans (hb.mono (by simp; omega)))
            have HA3 := Lib.hid hA3
            have hz3 := B3.out.size
            have RL := oth_len v n
            have hso := Lib.hid (show Sor (oth n v) from List.Pairwise.filter _ VV.out.2.2)
            clear hb hA3 hn3 KF HA2 B2
            generalize oth n v = R at *
            have RL : R.length ≤ 24 := by omega
            go_wp2_with fail
            go_loopw [11, 13] (fun o i wr => ∃ k : Nat, i = .int .i64 k ∧ k ≤ R.length ∧ OwnL wr w3.heap.size o (R.take k) ∧ Hid (∀ p (hp : p < R.length), p < k → R[p].1 < n) ∧ Below w3.heap.size w3 wr) (fun _ i _ => R.length - (intOf i).toNat)
            case atStart => exact ⟨0, rfl, Nat.zero_le _, OwnF.nil _ _, Lib.hid (fun p hp h => by omega), Below.refl _ _⟩
            case round => as_aux_lemma =>
              obtain ⟨k, rfl, hk, ho, HP, hb⟩ := hrel
              have B := Lib.hid hb
              have hz := hb.size
              have O := Lib.hid ho
              by_cases hlt : k < R.length
              · obtain ⟨b, p, rfl, hbw, g0, g1, g2, g3, g4, g5⟩ := lk_cell (HA3.out.below hb) k hlt
                clear hb ho
                obtain ⟨⟨x0, x1, x2⟩, hx⟩ : ∃ x, R[k] = x := ⟨_, rfl⟩
                have HX := Lib.hid hx
                rw [hx] at g0 g1 g2 g3 g4 g5
                simp only at g0 g1 g2 g3 g4 g5
                clear hx
                by_cases hq : x0 < n
                · as_aux_lemma =>
                  have d8 := dt hq
                  have HP2 := Lib.hid (show ∀ p (hp : p < R.length), p < k + 1 → R[p].1 < n from fun q hq1 hq2 => by
                    rcases Nat.lt_or_ge q k with h | h
                    · exact HP.out q hq1 h
                    · obtain rfl : q = k := by omega
                      rw [HX.out]; exact hq)
                  obtain ⟨v', w', hap, ho', hbb⟩ := O.out.one eLk 22 (x0, x1, x2) #[.int .i64 x0, .int .i64 x1, .int .i64 x2] rfl ⟨g3, g4, g5⟩ (by rw [List.length_take]; omega) hz
                  have O2 := Lib.hid (show OwnL w' w3.heap.size v' (R.take (k + 1)) by rw [take_one R k hlt, HX.out]; exact ho')
                  have B2 := Lib.hid (B.out.trans hbb)
                  clear hq ho' hbb
                  go_wp2_with (at_builtin; refine Lib.wpList_append_run _ rfl _ _ _ _ rfl _ _ rfl rfl _ _ hap ?_)
                  go_roundw
                  case rel => exact ⟨k + 1, by go_num, hlt, O2.out, HP2, B2.out⟩
                  case measure => simp [intOf]; omega
                · as_aux_lemma =>
                  have d8 := df hq
                  have KP := Lib.hid (pos_of2 n R k hk HP.out (fun h => by rw [HX.out]; exact hq))
                  have SEk := Lib.hid (SE.out k KP.out)
                  have hck : ¬ c3 = k := by omega
                  clear hq HX HP KP SE
                  have c0 := blk_cell (blk_below BX.out B.out bx) 0 (v := .int .i64 n) rfl
                  have c1 := blk_cell (blk_below BX.out B.out bx) 1 (v := .int .i64 (2 * z1 % 65536)) rfl
                  have c2 := blk_cell (blk_below BX.out B.out bx) 2 (v := .int .i64 (16)) rfl
                  obtain ⟨va, wa, hap1, hoa, hba⟩ := O.out.one eLk 22 (n, 2 * z1 % 65536, 16) #[.int .i64 n, .int .i64 (2 * z1 % 65536), .int .i64 (16)] rfl (ok_i64 XO.out) (by rw [List.length_take]; omega) hz
                  obtain ⟨A4, c4, e4, _⟩ := hoa.form
                  have hl4 : (R.take k ++ [(n, 2 * z1 % 65536, 16)]).length = k + 1 := by rw [List.length_append, List.length_take, Nat.min_eq_left hk]; rfl
                  rw [hl4] at e4
                  subst e4
                  have OA := Lib.hid hoa
                  have BA := Lib.hid (B.out.trans hba)
                  have hza := BA.out.size
                  clear hoa hba hl4
                  have y1 : (k : Int) + 1 - 1 = (k : Int) := by omega
                  have y2 := i64_nat k (by omega)
                  have y3 : (0 : Int) ≤ (k : Int) := by omega
                  have y4 : (k : Int) ≤ (R.length : Int) := by omega
                  obtain ⟨vb, wb, hap2, hob, hbb, _⟩ := OA.out.app eLk (c := c3 - k) 22 (flat_drop ((HA3.out.below BA.out).mono BA.out.size) k) (by rw [List.length_append, List.length_take, List.length_drop]; simp; omega) hza
                  rw [List.length_drop] at hap2
                  simp only [Option.map_some, add_off] at hap2
                  rw [show fL.sz = 3 from rfl] at hap2
                  have OB := Lib.hid (show OwnL wb w3.heap.size vb (R.take k ++ [(n, 2 * z1 % 65536, 16)] ++ R.drop k) from hob)
                  have BB := Lib.hid (BA.out.trans hbb)
                  have RF := Lib.hid (show sen l n 0 = R.take k ++ [(n, 2 * z1 % 65536, 16)] ++ R.drop k by exact SEk.out)
                  clear hob hbb
                  go_upto_region 18 with (at_builtin; refine Lib.wpList_append_run _ rfl _ _ _ _ rfl _ _ rfl rfl _ _ hap1 ?_)
                  clear hap1
                  go_wp2_with (at_builtin; refine Lib.wpList_append_run _ rfl _ _ _ _ rfl _ _ rfl rfl _ _ hap2 ?_)
                  go_ret
                  exact outF_own RF.out OB.out (B3.out.trans (BB.out.mono hz3))
              · as_aux_lemma =>
                have KP := Lib.hid (pos_of2 n R k hk HP.out (fun h => absurd h hlt))
                have SEk := Lib.hid (SE.out k KP.out)
                have DR := Lib.hid (show R.drop k = [] from List.drop_eq_nil_of_le (by omega))
                clear hb ho HP KP SE
                have c0 := blk_cell (blk_below BX.out B.out bx) 0 (v := .int .i64 n) rfl
                have c1 := blk_cell (blk_below BX.out B.out bx) 1 (v := .int .i64 (2 * z1 % 65536)) rfl
                have c2 := blk_cell (blk_below BX.out B.out bx) 2 (v := .int .i64 (16)) rfl
                obtain ⟨va, wa, hap1, hoa, hba⟩ := O.out.one eLk 22 (n, 2 * z1 % 65536, 16) #[.int .i64 n, .int .i64 (2 * z1 % 65536), .int .i64 (16)] rfl (ok_i64 XO.out) (by rw [List.length_take]; omega) hz
                obtain ⟨A4, c4, e4, _⟩ := hoa.form
                have hl4 : (R.take k ++ [(n, 2 * z1 % 65536, 16)]).length = k + 1 := by rw [List.length_append, List.length_take, Nat.min_eq_left hk]; rfl
                rw [hl4] at e4
                subst e4
                have OA := Lib.hid hoa
                have BA := Lib.hid (B.out.trans hba)
                have hza := BA.out.size
                clear hoa hba hl4
                have y1 : (k : Int) + 1 - 1 = (k : Int) := by omega
                have y2 := i64_nat k (by omega)
                have y3 : (0 : Int) ≤ (k : Int) := by omega
                have y4 : (k : Int) ≤ (R.length : Int) := by omega
                by_cases hck : c3 = k
                · as_aux_lemma =>
                  obtain ⟨vb, wb, hap2, hob, hbb, _⟩ := OA.out.app eLk (c := 0) 22 (show FlAt fL wa wa.heap.size A3 (R.drop k) by rw [DR.out]; exact FlAt.nil _ _ _) (by rw [List.length_append, List.length_take, List.length_drop]; simp; omega) hza
                  rw [List.length_drop] at hap2
                  have OB := Lib.hid (show OwnL wb w3.heap.size vb (R.take k ++ [(n, 2 * z1 % 65536, 16)] ++ R.drop k) from hob)
                  have BB := Lib.hid (BA.out.trans hbb)
                  have RF := Lib.hid (show sen l n 0 = R.take k ++ [(n, 2 * z1 % 65536, 16)] ++ R.drop k by exact SEk.out)
                  clear hob hbb
                  go_upto_region 18 with (at_builtin; refine Lib.wpList_append_run _ rfl _ _ _ _ rfl _ _ rfl rfl _ _ hap1 ?_)
                  clear hap1
                  go_wp2_with (at_builtin; refine Lib.wpList_append_run _ rfl _ _ _ _ rfl _ _ rfl rfl _ _ hap2 ?_)
                  go_ret
                  exact outF_own RF.out OB.out (B3.out.trans (BB.out.mono hz3))
                · as_aux_lemma =>
                  obtain ⟨vb, wb, hap2, hob, hbb, _⟩ := OA.out.app eLk (c := c3 - k) 22 (show FlAt fL wa wa.heap.size (Option.map (fun x => x.add (k * 3)) A3) (R.drop k) by rw [DR.out]; exact FlAt.nil _ _ _) (by rw [List.length_append, List.length_take, List.length_drop]; simp; omega) hza
                  rw [List.length_drop] at hap2
                  have OB := Lib.hid (show OwnL wb w3.heap.size vb (R.take k ++ [(n, 2 * z1 % 65536, 16)] ++ R.drop k) from hob)
                  have BB := Lib.hid (BA.out.trans hbb)
                  have RF := Lib.hid (show sen l n 0 = R.take k ++ [(n, 2 * z1 % 65536, 16)] ++ R.drop k by exact SEk.out)
                  clear hob hbb
                  go_upto_region 18 with (at_builtin; refine Lib.wpList_append_run _ rfl _ _ _ _ rfl _ _ rfl rfl _ _ hap1 ?_)
                  clear hap1
                  go_wp2_with (at_builtin; refine Lib.wpList_append_run _ rfl _ _ _ _ rfl _ _ rfl rfl _ _ hap2 ?_)
                  go_ret
                  exact outF_own RF.out OB.out (B3.out.trans (BB.out.mono hz3))
      · by_cases h16 : z2 < 16
        · have d6 := df (show ¬ 16 < z2 + 1 by omega)
          as_aux_lemma =>
            have YE : nxt (n, z1, z2) 1 = (n, (2 * z1 + 1) % 65536, z2 + 1) := by
              show (n, (2 * z1 + 1) % 65536, min (z2 + 1) 16) = _
              rw [show min (z2 + 1) 16 = z2 + 1 by omega]
            have XO := Lib.hid (show Ok1 (n, (2 * z1 + 1) % 65536, z2 + 1) by rw [← YE]; exact NO.out 1 (Or.inr rfl))
            have SE := Lib.hid (show ∀ k, k = pos n (oth n v) → sen l n 1 = (oth n v).take k ++ [(n, (2 * z1 + 1) % 65536, z2 + 1)] ++ (oth n v).drop k from fun k hk => by rw [S1.out, YE]; exact IA.out (n, (2 * z1 + 1) % 65536, z2 + 1) rfl k hk)
            clear YE S1 IA NO
            go_enter Try.func14, Try.ntmps14
            go_wp2_with fail
            refine K.out.mono ?_
            rintro _ w1 ⟨A1, c1, rfl, hA1, hc1, hn1, hb⟩
            have B1 := Lib.hid hb
            have HA1 := Lib.hid hA1
            have hz1 := hb.size
            clear hb hA1 K hn1
            go_wp2_with fail
            refine (KA.out _ _ _ HA1.out).mono ?_
            rintro _ w2 ⟨rfl, hb⟩
            have HA2 := Lib.hid (HA1.out.next hb)
            have B2 := Lib.hid (B1.out.trans (hb.mono hz1))
            have hz2 := B2.out.size
            clear hb HA1 KA B1
            go_wp2_with fail
            refine (KF.out _ _ _ (HA2.out.next (alloc_below _ _))).mono ?_
            rintro _ w3 ⟨A3, c3, rfl, hA3, hc3, hn3, hb⟩
            have BX := Lib.hid (blk_below (blk_new w2 (bxL n ((2 * z1 + 1) % 65536) (z2 + 1))) hb (by simp))
            have bx : w2.heap.size < w3.heap.size := blk_lt BX.out
            have B3 := Lib.hid ((B2.out.alloc hz2 (bxL n ((2 * z1 + 1) % 65536) (z2 + 1))).trans (hb.mono (by simp; omega)))
            have HA3 := Lib.hid hA3
            have hz3 := B3.out.size
            have RL := oth_len v n
            have hso := Lib.hid (show Sor (oth n v) from List.Pairwise.filter _ VV.out.2.2)
            clear hb hA3 hn3 KF HA2 B2
            generalize oth n v = R at *
            have RL : R.length ≤ 24 := by omega
            go_wp2_with fail
            go_loopw [11, 13] (fun o i wr => ∃ k : Nat, i = .int .i64 k ∧ k ≤ R.length ∧ OwnL wr w3.heap.size o (R.take k) ∧ Hid (∀ p (hp : p < R.length), p < k → R[p].1 < n) ∧ Below w3.heap.size w3 wr) (fun _ i _ => R.length - (intOf i).toNat)
            case atStart => exact ⟨0, rfl, Nat.zero_le _, OwnF.nil _ _, Lib.hid (fun p hp h => by omega), Below.refl _ _⟩
            case round => as_aux_lemma =>
              obtain ⟨k, rfl, hk, ho, HP, hb⟩ := hrel
              have B := Lib.hid hb
              have hz := hb.size
              have O := Lib.hid ho
              by_cases hlt : k < R.length
              · obtain ⟨b, p, rfl, hbw, g0, g1, g2, g3, g4, g5⟩ := lk_cell (HA3.out.below hb) k hlt
                clear hb ho
                obtain ⟨⟨x0, x1, x2⟩, hx⟩ : ∃ x, R[k] = x := ⟨_, rfl⟩
                have HX := Lib.hid hx
                rw [hx] at g0 g1 g2 g3 g4 g5
                simp only at g0 g1 g2 g3 g4 g5
                clear hx
                by_cases hq : x0 < n
                · as_aux_lemma =>
                  have d8 := dt hq
                  have HP2 := Lib.hid (show ∀ p (hp : p < R.length), p < k + 1 → R[p].1 < n from fun q hq1 hq2 => by
                    rcases Nat.lt_or_ge q k with h | h
                    · exact HP.out q hq1 h
                    · obtain rfl : q = k := by omega
                      rw [HX.out]; exact hq)
                  obtain ⟨v', w', hap, ho', hbb⟩ := O.out.one eLk 22 (x0, x1, x2) #[.int .i64 x0, .int .i64 x1, .int .i64 x2] rfl ⟨g3, g4, g5⟩ (by rw [List.length_take]; omega) hz
                  have O2 := Lib.hid (show OwnL w' w3.heap.size v' (R.take (k + 1)) by rw [take_one R k hlt, HX.out]; exact ho')
                  have B2 := Lib.hid (B.out.trans hbb)
                  clear hq ho' hbb
                  go_wp2_with (at_builtin; refine Lib.wpList_append_run _ rfl _ _ _ _ rfl _ _ rfl rfl _ _ hap ?_)
                  go_roundw
                  case rel => exact ⟨k + 1, by go_num, hlt, O2.out, HP2, B2.out⟩
                  case measure => simp [intOf]; omega
                · as_aux_lemma =>
                  have d8 := df hq
                  have KP := Lib.hid (pos_of2 n R k hk HP.out (fun h => by rw [HX.out]; exact hq))
                  have SEk := Lib.hid (SE.out k KP.out)
                  have hck : ¬ c3 = k := by omega
                  clear hq HX HP KP SE
                  have c0 := blk_cell (blk_below BX.out B.out bx) 0 (v := .int .i64 n) rfl
                  have c1 := blk_cell (blk_below BX.out B.out bx) 1 (v := .int .i64 ((2 * z1 + 1) % 65536)) rfl
                  have c2 := blk_cell (blk_below BX.out B.out bx) 2 (v := .int .i64 (z2 + 1)) rfl
                  obtain ⟨va, wa, hap1, hoa, hba⟩ := O.out.one eLk 22 (n, (2 * z1 + 1) % 65536, z2 + 1) #[.int .i64 n, .int .i64 ((2 * z1 + 1) % 65536), .int .i64 (z2 + 1)] rfl (ok_i64 XO.out) (by rw [List.length_take]; omega) hz
                  obtain ⟨A4, c4, e4, _⟩ := hoa.form
                  have hl4 : (R.take k ++ [(n, (2 * z1 + 1) % 65536, z2 + 1)]).length = k + 1 := by rw [List.length_append, List.length_take, Nat.min_eq_left hk]; rfl
                  rw [hl4] at e4
                  subst e4
                  have OA := Lib.hid hoa
                  have BA := Lib.hid (B.out.trans hba)
                  have hza := BA.out.size
                  clear hoa hba hl4
                  have y1 : (k : Int) + 1 - 1 = (k : Int) := by omega
                  have y2 := i64_nat k (by omega)
                  have y3 : (0 : Int) ≤ (k : Int) := by omega
                  have y4 : (k : Int) ≤ (R.length : Int) := by omega
                  obtain ⟨vb, wb, hap2, hob, hbb, _⟩ := OA.out.app eLk (c := c3 - k) 22 (flat_drop ((HA3.out.below BA.out).mono BA.out.size) k) (by rw [List.length_append, List.length_take, List.length_drop]; simp; omega) hza
                  rw [List.length_drop] at hap2
                  simp only [Option.map_some, add_off] at hap2
                  rw [show fL.sz = 3 from rfl] at hap2
                  have OB := Lib.hid (show OwnL wb w3.heap.size vb (R.take k ++ [(n, (2 * z1 + 1) % 65536, z2 + 1)] ++ R.drop k) from hob)
                  have BB := Lib.hid (BA.out.trans hbb)
                  have RF := Lib.hid (show sen l n 1 = R.take k ++ [(n, (2 * z1 + 1) % 65536, z2 + 1)] ++ R.drop k by exact SEk.out)
                  clear hob hbb
                  go_upto_region 18 with (at_builtin; refine Lib.wpList_append_run _ rfl _ _ _ _ rfl _ _ rfl rfl _ _ hap1 ?_)
                  clear hap1
                  go_wp2_with (at_builtin; refine Lib.wpList_append_run _ rfl _ _ _ _ rfl _ _ rfl rfl _ _ hap2 ?_)
                  go_ret
                  exact outF_own RF.out OB.out (B3.out.trans (BB.out.mono hz3))
              · as_aux_lemma =>
                have KP := Lib.hid (pos_of2 n R k hk HP.out (fun h => absurd h hlt))
                have SEk := Lib.hid (SE.out k KP.out)
                have DR := Lib.hid (show R.drop k = [] from List.drop_eq_nil_of_le (by omega))
                clear hb ho HP KP SE
                have c0 := blk_cell (blk_below BX.out B.out bx) 0 (v := .int .i64 n) rfl
                have c1 := blk_cell (blk_below BX.out B.out bx) 1 (v := .int .i64 ((2 * z1 + 1) % 65536)) rfl
                have c2 := blk_cell (blk_below BX.out B.out bx) 2 (v := .int .i64 (z2 + 1)) rfl
                obtain ⟨va, wa, hap1, hoa, hba⟩ := O.out.one eLk 22 (n, (2 * z1 + 1) % 65536, z2 + 1) #[.int .i64 n, .int .i64 ((2 * z1 + 1) % 65536), .int .i64 (z2 + 1)] rfl (ok_i64 XO.out) (by rw [List.length_take]; omega) hz
                obtain ⟨A4, c4, e4, _⟩ := hoa.form
                have hl4 : (R.take k ++ [(n, (2 * z1 + 1) % 65536, z2 + 1)]).length = k + 1 := by rw [List.length_append, List.length_take, Nat.min_eq_left hk]; rfl
                rw [hl4] at e4
                subst e4
                have OA := Lib.hid hoa
                have BA := Lib.hid (B.out.trans hba)
                have hza := BA.out.size
                clear hoa hba hl4
                have y1 : (k : Int) + 1 - 1 = (k : Int) := by omega
                have y2 := i64_nat k (by omega)
                have y3 : (0 : Int) ≤ (k : Int) := by omega
                have y4 : (k : Int) ≤ (R.length : Int) := by omega
                by_cases hck : c3 = k
                · as_aux_lemma =>
                  obtain ⟨vb, wb, hap2, hob, hbb, _⟩ := OA.out.app eLk (c := 0) 22 (show FlAt fL wa wa.heap.size A3 (R.drop k) by rw [DR.out]; exact FlAt.nil _ _ _) (by rw [List.length_append, List.length_take, List.length_drop]; simp; omega) hza
                  rw [List.length_drop] at hap2
                  have OB := Lib.hid (show OwnL wb w3.heap.size vb (R.take k ++ [(n, (2 * z1 + 1) % 65536, z2 + 1)] ++ R.drop k) from hob)
                  have BB := Lib.hid (BA.out.trans hbb)
                  have RF := Lib.hid (show sen l n 1 = R.take k ++ [(n, (2 * z1 + 1) % 65536, z2 + 1)] ++ R.drop k by exact SEk.out)
                  clear hob hbb
                  go_upto_region 18 with (at_builtin; refine Lib.wpList_append_run _ rfl _ _ _ _ rfl _ _ rfl rfl _ _ hap1 ?_)
                  clear hap1
                  go_wp2_with (at_builtin; refine Lib.wpList_append_run _ rfl _ _ _ _ rfl _ _ rfl rfl _ _ hap2 ?_)
                  go_ret
                  exact outF_own RF.out OB.out (B3.out.trans (BB.out.mono hz3))
                · as_aux_lemma =>
                  obtain ⟨vb, wb, hap2, hob, hbb, _⟩ := OA.out.app eLk (c := c3 - k) 22 (show FlAt fL wa wa.heap.size (Option.map (fun x => x.add (k * 3)) A3) (R.drop k) by rw [DR.out]; exact FlAt.nil _ _ _) (by rw [List.length_append, List.length_take, List.length_drop]; simp; omega) hza
                  rw [List.length_drop] at hap2
                  have OB := Lib.hid (show OwnL wb w3.heap.size vb (R.take k ++ [(n, (2 * z1 + 1) % 65536, z2 + 1)] ++ R.drop k) from hob)
                  have BB := Lib.hid (BA.out.trans hbb)
                  have RF := Lib.hid (show sen l n 1 = R.take k ++ [(n, (2 * z1 + 1) % 65536, z2 + 1)] ++ R.drop k by exact SEk.out)
                  clear hob hbb
                  go_upto_region 18 with (at_builtin; refine Lib.wpList_append_run _ rfl _ _ _ _ rfl _ _ rfl rfl _ _ hap1 ?_)
                  clear hap1
                  go_wp2_with (at_builtin; refine Lib.wpList_append_run _ rfl _ _ _ _ rfl _ _ rfl rfl _ _ hap2 ?_)
                  go_ret
                  exact outF_own RF.out OB.out (B3.out.trans (BB.out.mono hz3))
        · have d6 := dt (show 16 < z2 + 1 by omega)
          as_aux_lemma =>
            have YE : nxt (n, z1, z2) 1 = (n, (2 * z1 + 1) % 65536, 16) := by
              show (n, (2 * z1 + 1) % 65536, min (z2 + 1) 16) = _
              rw [show min (z2 + 1) 16 = 16 by omega]
            have XO := Lib.hid (show Ok1 (n, (2 * z1 + 1) % 65536, 16) by rw [← YE]; exact NO.out 1 (Or.inr rfl))
            have SE := Lib.hid (show ∀ k, k = pos n (oth n v) → sen l n 1 = (oth n v).take k ++ [(n, (2 * z1 + 1) % 65536, 16)] ++ (oth n v).drop k from fun k hk => by rw [S1.out, YE]; exact IA.out (n, (2 * z1 + 1) % 65536, 16) rfl k hk)
            clear YE S1 IA NO
            go_enter Try.func14, Try.ntmps14
            go_wp2_with fail
            refine K.out.mono ?_
            rintro _ w1 ⟨A1, c1, rfl, hA1, hc1, hn1, hb⟩
            have B1 := Lib.hid hb
            have HA1 := Lib.hid hA1
            have hz1 := hb.size
            clear hb hA1 K hn1
            go_wp2_with fail
            refine (KA.out _ _ _ HA1.out).mono ?_
            rintro _ w2 ⟨rfl, hb⟩
            have HA2 := Lib.hid (HA1.out.next hb)
            have B2 := Lib.hid (B1.out.trans (hb.mono hz1))
            have hz2 := B2.out.size
            clear hb HA1 KA B1
            go_wp2_with fail
            refine (KF.out _ _ _ (HA2.out.next (alloc_below _ _))).mono ?_
            rintro _ w3 ⟨A3, c3, rfl, hA3, hc3, hn3, hb⟩
            have BX := Lib.hid (blk_below (blk_new w2 (bxL n ((2 * z1 + 1) % 65536) (16))) hb (by simp))
            have bx : w2.heap.size < w3.heap.size := blk_lt BX.out
            have B3 := Lib.hid ((B2.out.alloc hz2 (bxL n ((2 * z1 + 1) % 65536) (16))).trans (hb.mono (by simp; omega)))
            have HA3 := Lib.hid hA3
            have hz3 := B3.out.size
            have RL := oth_len v n
            have hso := Lib.hid (show Sor (oth n v) from List.Pairwise.filter _ VV.out.2.2)
            clear hb hA3 hn3 KF HA2 B2
            generalize oth n v = R at *
            have RL : R.length ≤ 24 := by omega
            go_wp2_with fail
            go_loopw [11, 13] (fun o i wr => ∃ k : Nat, i = .int .i64 k ∧ k ≤ R.length ∧ OwnL wr w3.heap.size o (R.take k) ∧ Hid (∀ p (hp : p < R.length), p < k → R[p].1 < n) ∧ Below w3.heap.size w3 wr) (fun _ i _ => R.length - (intOf i).toNat)
            case atStart => exact ⟨0, rfl, Nat.zero_le _, OwnF.nil _ _, Lib.hid (fun p hp h => by omega), Below.refl _ _⟩
            case round => as_aux_lemma =>
              obtain ⟨k, rfl, hk, ho, HP, hb⟩ := hrel
              have B := Lib.hid hb
              have hz := hb.size
              have O := Lib.hid ho
              by_cases hlt : k < R.length
              · obtain ⟨b, p, rfl, hbw, g0, g1, g2, g3, g4, g5⟩ := lk_cell (HA3.out.below hb) k hlt
                clear hb ho
                obtain ⟨⟨x0, x1, x2⟩, hx⟩ : ∃ x, R[k] = x := ⟨_, rfl⟩
                have HX := Lib.hid hx
                rw [hx] at g0 g1 g2 g3 g4 g5
                simp only at g0 g1 g2 g3 g4 g5
                clear hx
                by_cases hq : x0 < n
                · as_aux_lemma =>
                  have d8 := dt hq
                  have HP2 := Lib.hid (show ∀ p (hp : p < R.length), p < k + 1 → R[p].1 < n from fun q hq1 hq2 => by
                    rcases Nat.lt_or_ge q k with h | h
                    · exact HP.out q hq1 h
                    · obtain rfl : q = k := by omega
                      rw [HX.out]; exact hq)
                  obtain ⟨v', w', hap, ho', hbb⟩ := O.out.one eLk 22 (x0, x1, x2) #[.int .i64 x0, .int .i64 x1, .int .i64 x2] rfl ⟨g3, g4, g5⟩ (by rw [List.length_take]; omega) hz
                  have O2 := Lib.hid (show OwnL w' w3.heap.size v' (R.take (k + 1)) by rw [take_one R k hlt, HX.out]; exact ho')
                  have B2 := Lib.hid (B.out.trans hbb)
                  clear hq ho' hbb
                  go_wp2_with (at_builtin; refine Lib.wpList_append_run _ rfl _ _ _ _ rfl _ _ rfl rfl _ _ hap ?_)
                  go_roundw
                  case rel => exact ⟨k + 1, by go_num, hlt, O2.out, HP2, B2.out⟩
                  case measure => simp [intOf]; omega
                · as_aux_lemma =>
                  have d8 := df hq
                  have KP := Lib.hid (pos_of2 n R k hk HP.out (fun h => by rw [HX.out]; exact hq))
                  have SEk := Lib.hid (SE.out k KP.out)
                  have hck : ¬ c3 = k := by omega
                  clear hq HX HP KP SE
                  have c0 := blk_cell (blk_below BX.out B.out bx) 0 (v := .int .i64 n) rfl
                  have c1 := blk_cell (blk_below BX.out B.out bx) 1 (v := .int .i64 ((2 * z1 + 1) % 65536)) rfl
                  have c2 := blk_cell (blk_below BX.out B.out bx) 2 (v := .int .i64 (16)) rfl
                  obtain ⟨va, wa, hap1, hoa, hba⟩ := O.out.one eLk 22 (n, (2 * z1 + 1) % 65536, 16) #[.int .i64 n, .int .i64 ((2 * z1 + 1) % 65536), .int .i64 (16)] rfl (ok_i64 XO.out) (by rw [List.length_take]; omega) hz
                  obtain ⟨A4, c4, e4, _⟩ := hoa.form
                  have hl4 : (R.take k ++ [(n, (2 * z1 + 1) % 65536, 16)]).length = k + 1 := by rw [List.length_append, List.length_take, Nat.min_eq_left hk]; rfl
                  rw [hl4] at e4
                  subst e4
                  have OA := Lib.hid hoa
                  have BA := Lib.hid (B.out.trans hba)
                  have hza := BA.out.size
                  clear hoa hba hl4
                  have y1 : (k : Int) + 1 - 1 = (k : Int) := by omega
                  have y2 := i64_nat k (by omega)
                  have y3 : (0 : Int) ≤ (k : Int) := by omega
                  have y4 : (k : Int) ≤ (R.length : Int) := by omega
                  obtain ⟨vb, wb, hap2, hob, hbb, _⟩ := OA.out.app eLk (c := c3 - k) 22 (flat_drop ((HA3.out.below BA.out).mono BA.out.size) k) (by rw [List.length_append, List.length_take, List.length_drop]; simp; omega) hza
                  rw [List.length_drop] at hap2
                  simp only [Option.map_some, add_off] at hap2
                  rw [show fL.sz = 3 from rfl] at hap2
                  have OB := Lib.hid (show OwnL wb w3.heap.size vb (R.take k ++ [(n, (2 * z1 + 1) % 65536, 16)] ++ R.drop k) from hob)
                  have BB := Lib.hid (BA.out.trans hbb)
                  have RF := Lib.hid (show sen l n 1 = R.take k ++ [(n, (2 * z1 + 1) % 65536, 16)] ++ R.drop k by exact SEk.out)
                  clear hob hbb
                  go_upto_region 18 with (at_builtin; refine Lib.wpList_append_run _ rfl _ _ _ _ rfl _ _ rfl rfl _ _ hap1 ?_)
                  clear hap1
                  go_wp2_with (at_builtin; refine Lib.wpList_append_run _ rfl _ _ _ _ rfl _ _ rfl rfl _ _ hap2 ?_)
                  go_ret
                  exact outF_own RF.out OB.out (B3.out.trans (BB.out.mono hz3))
              · as_aux_lemma =>
                have KP := Lib.hid (pos_of2 n R k hk HP.out (fun h => absurd h hlt))
                have SEk := Lib.hid (SE.out k KP.out)
                have DR := Lib.hid (show R.drop k = [] from List.drop_eq_nil_of_le (by omega))
                clear hb ho HP KP SE
                have c0 := blk_cell (blk_below BX.out B.out bx) 0 (v := .int .i64 n) rfl
                have c1 := blk_cell (blk_below BX.out B.out bx) 1 (v := .int .i64 ((2 * z1 + 1) % 65536)) rfl
                have c2 := blk_cell (blk_below BX.out B.out bx) 2 (v := .int .i64 (16)) rfl
                obtain ⟨va, wa, hap1, hoa, hba⟩ := O.out.one eLk 22 (n, (2 * z1 + 1) % 65536, 16) #[.int .i64 n, .int .i64 ((2 * z1 + 1) % 65536), .int .i64 (16)] rfl (ok_i64 XO.out) (by rw [List.length_take]; omega) hz
                obtain ⟨A4, c4, e4, _⟩ := hoa.form
                have hl4 : (R.take k ++ [(n, (2 * z1 + 1) % 65536, 16)]).length = k + 1 := by rw [List.length_append, List.length_take, Nat.min_eq_left hk]; rfl
                rw [hl4] at e4
                subst e4
                have OA := Lib.hid hoa
                have BA := Lib.hid (B.out.trans hba)
                have hza := BA.out.size
                clear hoa hba hl4
                have y1 : (k : Int) + 1 - 1 = (k : Int) := by omega
                have y2 := i64_nat k (by omega)
                have y3 : (0 : Int) ≤ (k : Int) := by omega
                have y4 : (k : Int) ≤ (R.length : Int) := by omega
                by_cases hck : c3 = k
                · as_aux_lemma =>
                  obtain ⟨vb, wb, hap2, hob, hbb, _⟩ := OA.out.app eLk (c := 0) 22 (show FlAt fL wa wa.heap.size A3 (R.drop k) by rw [DR.out]; exact FlAt.nil _ _ _) (by rw [List.length_append, List.length_take, List.length_drop]; simp; omega) hza
                  rw [List.length_drop] at hap2
                  have OB := Lib.hid (show OwnL wb w3.heap.size vb (R.take k ++ [(n, (2 * z1 + 1) % 65536, 16)] ++ R.drop k) from hob)
                  have BB := Lib.hid (BA.out.trans hbb)
                  have RF := Lib.hid (show sen l n 1 = R.take k ++ [(n, (2 * z1 + 1) % 65536, 16)] ++ R.drop k by exact SEk.out)
                  clear hob hbb
                  go_upto_region 18 with (at_builtin; refine Lib.wpList_append_run _ rfl _ _ _ _ rfl _ _ rfl rfl _ _ hap1 ?_)
                  clear hap1
                  go_wp2_with (at_builtin; refine Lib.wpList_append_run _ rfl _ _ _ _ rfl _ _ rfl rfl _ _ hap2 ?_)
                  go_ret
                  exact outF_own RF.out OB.out (B3.out.trans (BB.out.mono hz3))
                · as_aux_lemma =>
                  obtain ⟨vb, wb, hap2, hob, hbb, _⟩ := OA.out.app eLk (c := c3 - k) 22 (show FlAt fL wa wa.heap.size (Option.map (fun x => x.add (k * 3)) A3) (R.drop k) by rw [DR.out]; exact FlAt.nil _ _ _) (by rw [List.length_append, List.length_take, List.length_drop]; simp; omega) hza
                  rw [List.length_drop] at hap2
                  have OB := Lib.hid (show OwnL wb w3.heap.size vb (R.take k ++ [(n, (2 * z1 + 1) % 65536, 16)] ++ R.drop k) from hob)
                  have BB := Lib.hid (BA.out.trans hbb)
                  have RF := Lib.hid (show sen l n 1 = R.take k ++ [(n, (2 * z1 + 1) % 65536, 16)] ++ R.drop k by exact SEk.out)
                  clear hob hbb
                  go_upto_region 18 with (at_builtin; refine Lib.wpList_append_run _ rfl _ _ _ _ rfl _ _ rfl rfl _ _ hap1 ?_)
                  clear hap1
                  go_wp2_with (at_builtin; refine Lib.wpList_append_run _ rfl _ _ _ _ rfl _ _ rfl rfl _ _ hap2 ?_)
                  go_ret
                  exact outF_own RF.out OB.out (B3.out.trans (BB.out.mono hz3))
  · have R := Lib.hid (S0.out hr (if ok then 1 else 0))
    clear S1 S0 KF
    have hr2 : n < 0 ∨ 250 < n ∨ ((ent v n).isSome = false ∧ v.length = 24) := by
      unfold Room at hr
      cases h : (ent v n).isSome with
      | true => rw [h] at hr; simp at hr; omega
      | false =>
        have h24 := VV.out.1
        rw [h] at hr
        rcases Int.lt_or_le n 0 with h1 | h1
        · exact Or.inl h1
        · rcases Int.lt_or_le 250 n with h2 | h2
          · exact Or.inr (Or.inl h2)
          · refine Or.inr (Or.inr ⟨rfl, ?_⟩)
            have : ¬ v.length < 24 := fun h3 => hr ⟨⟨h1, h2⟩, Or.inr h3⟩
            omega
    have KA := Lib.hid (fun A1 c1 w1 (h : LkAt w1 w1.heap.size A1 v) => (show Calls Try.prog 34 #[.slice A1 v.length c1, .int .i64 n] w1 (fun e w' => ∃ x0 x1 x2 : Int, e = .returned (.tuple #[.agg #[.int .i64 x0, .int .i64 x1, .int .i64 x2], .bool (ent v n).isSome]) ∧ Below w1.heap.size w1 w') from (KA.out A1 c1 w1 h).mono fun e w' h2 => ⟨_, _, _, h2⟩))
    generalize hfd : (ent v n).isSome = fd at *
    clear hr hfd
    generalize sen l n (if ok then 1 else 0) = F at *
    go_enter Try.func14, Try.ntmps14
    go_wp2_with fail
    refine K.out.mono ?_
    rintro _ w1 ⟨A1, c1, rfl, hA1, hc1, hn1, hb⟩
    have B1 := Lib.hid hb
    have HA1 := Lib.hid hA1
    have HN := Lib.hid hn1
    have hz1 := hb.size
    clear hb hA1 K hn1
    go_wp2_with fail
    refine (KA.out _ _ _ HA1.out).mono ?_
    rintro _ w2 ⟨x0, x1, x2, rfl, hb⟩
    have HA2 := Lib.hid (HA1.out.next hb)
    have B2 := Lib.hid (B1.out.trans (hb.mono hz1))
    have hz2 := B2.out.size
    clear hb HA1 KA
    rcases hr2 with h | h | ⟨h, h2e⟩
    · have d1 := dt h
      go_wp2_with fail
      go_ret
      exact outF R.out (by rw [R.out]) (HA2.out.next (alloc_below _ _)) hc1 HN.out (B2.out.alloc hz2 _)
    · have d1 := df (show ¬ n < 0 by omega)
      have d2 := dt h
      go_wp2_with fail
      go_ret
      exact outF R.out (by rw [R.out]) (HA2.out.next (alloc_below _ _)) hc1 HN.out (B2.out.alloc hz2 _)
    · subst h
      have h2 : 24 ≤ v.length := Nat.le_of_eq h2e.symm
      clear h2e
      by_cases h3 : n < 0
      · have d1 := dt h3
        go_wp2_with fail
        go_ret
        exact outF R.out (by rw [R.out]) (HA2.out.next (alloc_below _ _)) hc1 HN.out (B2.out.alloc hz2 _)
      · have d1 := df h3
        by_cases h4 : 250 < n
        · have d2 := dt h4
          go_wp2_with fail
          go_ret
          exact outF R.out (by rw [R.out]) (HA2.out.next (alloc_below _ _)) hc1 HN.out (B2.out.alloc hz2 _)
        · have d2 := df h4
          have d3 := dt (show (24 : Int) ≤ (v.length : Int) by omega)
          have d4 := dt (show 24 ≤ v.length by omega)
          clear h2
          go_wp2_with fail
          go_ret
          exact outF R.out (by rw [R.out]) (HA2.out.next (alloc_below _ _)) hc1 HN.out (B2.out.alloc hz2 _)
end
end Go.Proofs.Ythfkmmgckiijcaa.Lnk
