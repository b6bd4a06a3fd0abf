/- Contract of a round, on the reference's side; Round, on both sides. -/
import Derived.Test.YtjhnilfnnongeaaAdH
set_option linter.unusedVariables false
namespace Go.Proofs.Ytjhnilfnnongeaa.Adr
open Go.RowKit

theorem lst_take (l : List Clm) (c : Clm) (m : Nat) (h : m < l.length) : lst (l.take (m + 1)) c = (lst (l.take m) c && !(decide (l[m].2.1 = c.2.1) && decide (l[m].1 < c.1))) := by
  rw [take_one l m h]
  unfold lst
  rw [List.all_append]
  simp

set_option maxRecDepth 100000 in
set_option maxHeartbeats 8000000 in
theorem rround_any (A : Option Addr) (c : Nat) (l : List Clm) (w : World) (hl : l.length ≤ 100000) (hT : ∀ c ∈ l, 0 ≤ c.2.2 ∧ c.2.2 ≤ 1000000) (hA : ClAt w w.heap.size A l) :
    Calls Try.prog 30 #[.slice A l.length c] w (OutRd w l) := by
  have HA := Lib.hid hA
  have HT := Lib.hid hT
  obtain ⟨v, w2, hap, hv, hb, _⟩ := (OwnF.lit (F := fC) (T := 40) w w.heap.size [] #[] (Nat.le_refl _) (by unfold maxLen; simp) rfl (by simp)).app eClm (c := c) 29 ((hA.below (alloc_below _ _))) (by simpa using (show l.length ≤ 100000000 by omega)) (by simp)
  have O2 := Lib.hid (show OwnC w2 w.heap.size v l from hv)
  have B2 := Lib.hid ((alloc_below w (.cells #[] 40)).trans hb)
  clear hv hb hA hT
  simp only [List.length_nil] at hap
  go_enter Try.func30, Try.ntmps30
  go_wp2_with (at_builtin; refine Lib.wpList_append_run _ rfl _ _ _ _ rfl _ _ rfl rfl _ _ hap ?_)
  clear hap
  go_loopw [5, 6] (fun n i wr => ∃ k : Nat, i = .int .i64 k ∧ n = .int .i64 (nck l k : Nat) ∧ k ≤ l.length ∧ OwnC wr w.heap.size v (mix l k) ∧ Below w.heap.size w wr) (fun _ i _ => l.length - (intOf i).toNat)
  case atStart => exact ⟨0, rfl, rfl, Nat.zero_le _, by rw [mix_zero]; exact O2.out, B2.out⟩
  case round =>
    obtain ⟨k, rfl, rfl, hk, ho, hb⟩ := hrel
    have B := Lib.hid hb
    have hz := hb.size
    have O := Lib.hid ho
    by_cases hlt : k < l.length
    · obtain ⟨b, p, rfl, hbw, _⟩ := cl_cell (HA.out.below hb) k hlt
      obtain ⟨w9, rfl⟩ : ∃ w9, w9 = wr := ⟨wr, rfl⟩
      clear hb ho
      go_wp2_with fail
      go_loopw [7, 8] (fun s i wr => ∃ m : Nat, i = .int .i64 m ∧ s = .bool (lst (l.take m) l[k]) ∧ m ≤ l.length ∧ Below w9.heap.size w9 wr) (fun _ i _ => l.length - (intOf i).toNat)
      case atStart => exact ⟨0, rfl, rfl, Nat.zero_le _, Below.refl _ _⟩
      case round =>
        obtain ⟨m, rfl, rfl, hm, hb⟩ := hrel
        have B9 := Lib.hid hb
        have hz9 := hb.size
        have BW := Lib.hid (B.out.trans (hb.mono hz))
        obtain ⟨b', p', hA', _, g0, g1, g2, g3, g4, g5⟩ := cl_cell (HA.out.below BW.out) k hlt
        simp only [Option.some.injEq, Addr.mk.injEq, and_true] at hA'
        obtain ⟨rfl, rfl⟩ := hA'
        by_cases hlm : m < l.length
        · obtain ⟨b', p', hA', _, f0, f1, f2, f3, f4, f5⟩ := cl_cell (HA.out.below BW.out) m hlm
          simp only [Option.some.injEq, Addr.mk.injEq, and_true] at hA'
          obtain ⟨rfl, rfl⟩ := hA'
          have LT := Lib.hid (lst_take l l[k] m hlm)
          clear hb
          obtain ⟨y, hy⟩ : ∃ y, y = lst (l.take m) l[k] := ⟨_, rfl⟩
          rw [← hy]
          rw [← hy] at LT
          clear hy
          by_cases h1 : l[m].2.1 = l[k].2.1
          · by_cases h2 : l[m].1 < l[k].1
            · have R := Lib.hid (show lst (l.take (m + 1)) l[k] = false by rw [LT.out, dt h1, dt h2]; simp)
              rw [h1] at f1
              have d2 := dt h2
              clear h1 h2 LT g2 f2 g3 g4 g5 f3 f4 f5
              obtain ⟨S, hS⟩ : ∃ S : Value → Prop, S = fun x => x = .bool (lst (l.take (m + 1)) l[k]) := ⟨_, rfl⟩
              have HS := Lib.hid (show S (.bool false) by rw [hS]; show Value.bool false = _; rw [R.out])
              have HS2 := Lib.hid (show ∀ x, S x → x = .bool (lst (l.take (m + 1)) l[k]) by rw [hS]; exact fun x h => h)
              clear hS
              go_wp2_with fail
              go_quiet (fail)
              go_wp2_with fail
              go_roundw
              case rel => exact ⟨m + 1, by go_num, HS2.out _ HS.out, hlm, below_drewN B9.out _⟩
              case measure => simp [intOf]; omega
            · have R := Lib.hid (show y = lst (l.take (m + 1)) l[k] by rw [LT.out, dt h1, df h2]; simp)
              rw [h1] at f1
              have d2 := df h2
              clear h1 h2 LT g2 f2 g3 g4 g5 f3 f4 f5
              go_wp2_with fail
              go_quiet (fail)
              go_wp2_with fail
              go_roundw
              case rel => exact ⟨m + 1, by go_num, by rw [R.out], hlm, below_drewN B9.out _⟩
              case measure => simp [intOf]; omega
          · have R := Lib.hid (show y = lst (l.take (m + 1)) l[k] by rw [LT.out, df h1]; simp)
            have n1 : (l[m].2.1 == l[k].2.1) = false := by simpa using h1
            have d2 := df h1
            clear h1 LT g2 f2 g3 g4 g5 f3 f4 f5
            go_wp2_with fail
            go_quiet (fail)
            go_wp2_with fail
            go_roundw
            case rel => exact ⟨m + 1, by go_num, by rw [R.out], hlm, below_drewN B9.out _⟩
            case measure => simp [intOf]; omega
        · obtain rfl : m = l.length := by omega
          rw [List.take_length]
          obtain ⟨t0, t1⟩ := HT.out l[k] (List.getElem_mem _)
          have ho := O.out.below hb
          obtain ⟨g, cap, rfl, hg1, hg2⟩ := ho.at (fun e => by have := mix_len l k; rw [e] at this; simp at this; omega)
          have ML1 : (mix l k).length ≤ l.length := Nat.le_of_eq (mix_len l k)
          have ML2 : l.length ≤ (mix l k).length := Nat.le_of_eq (mix_len l k).symm
          have MG := Lib.hid (mix_get l k hlt)
          have MS := Lib.hid (mix_set l k hlt)
          have MM := Lib.hid (mix_same l k hlt)
          have NS := Lib.hid (nck_same l k hlt)
          have NM := Lib.hid (nck_more l k hlt)
          have NL := nck_le l k
          have SP := Lib.hid (show lst l l[k] = false → stp l l[k] = (l[k].1, pk l[k].1 (l[k].2.2 + 1), l[k].2.2 + 1) from fun h => by unfold stp; rw [if_neg (by rw [h]; decide)])
          have O1 := Lib.hid ho
          clear hb
          cases hs : lst l l[k] with
          | true =>
            have E1 := Lib.hid (MM.out hs)
            have E2 := Lib.hid (NS.out hs)
            have R1 := Lib.hid (show OwnC wr w.heap.size (.slice (some ⟨g, 0, none⟩) (mix l k).length cap) (mix l (k + 1)) by rw [E1.out]; exact O1.out)
            clear ho hs MS MM NS NM SP MG
            generalize l[k].1 = e at *
            generalize l[k].2.1 = a at *
            generalize l[k].2.2 = t at *
            go_wp2_with fail
            go_roundw
            case rel => exact ⟨k + 1, by go_num, by rw [E2.out], hlt, R1.out, BW.out⟩
            case measure => simp [intOf]; omega
          | false =>
            have E2 := Lib.hid (NM.out hs)
            have SP := Lib.hid (SP.out hs)
            rw [SP.out] at MS
            have hkm : k < (mix l k).length := by omega
            have O1 := Lib.hid (show OwnC wr w.heap.size (.slice (some ⟨g, 0, none⟩) (mix l k).length cap) (mix l k) from O1.out)
            have r1 : wr.cell? ⟨g, k * 3 + 2, none⟩ = some (.int .i64 l[k].2.2) := by rw [oc2 O1.out k hkm, MG.out]
            have r1f := O1.out.fr (k * 3 + 2)
            have O3 := Lib.hid (show OwnC (wr.setCell ⟨g, k * 3 + 2, none⟩ (.int .i64 (l[k].2.2 + 1))) w.heap.size (.slice (some ⟨g, 0, none⟩) (mix l k).length cap) ((mix l k).set k (l[k].1, l[k].2.1, l[k].2.2 + 1)) from
              by have := op2 O1.out k hkm (l[k].2.2 + 1) (by unfold I64; omega); rw [MG.out] at this; exact this)
            have B3 := Lib.hid (show Below w.heap.size w (wr.setCell ⟨g, k * 3 + 2, none⟩ (.int .i64 (l[k].2.2 + 1))) from BW.out.setCell (by show w.heap.size ≤ g; omega) _)
            obtain ⟨w3, hw3⟩ : ∃ w3, w3 = wr.setCell ⟨g, k * 3 + 2, none⟩ (.int .i64 (l[k].2.2 + 1)) := ⟨_, rfl⟩
            have W3 := Lib.hid hw3.symm
            have x0 : w3.cell? ⟨b, p + k * 3, none⟩ = some (.int .u64 l[k].1) := by rw [hw3, World.cell?_setCell_other _ _ _ _ (by simp only [ne_eq, Addr.mk.injEq, not_and]; intro h; omega)]; exact g0
            have x2 : w3.cell? ⟨b, p + k * 3 + 2, none⟩ = some (.int .i64 l[k].2.2) := by rw [hw3, World.cell?_setCell_other _ _ _ _ (by simp only [ne_eq, Addr.mk.injEq, not_and]; intro h; omega)]; exact g2
            rw [← hw3] at O3 B3
            have hz4 := B3.out.size
            have hgw : g < w3.heap.size := by rw [hw3]; simp; omega
            clear hw3
            obtain ⟨l3, hl3⟩ : ∃ l3, l3 = (mix l k).set k (l[k].1, l[k].2.1, l[k].2.2 + 1) := ⟨_, rfl⟩
            have hl3n : l3.length = (mix l k).length := by rw [hl3, List.length_set]
            have hkm3 : k < l3.length := by omega
            have hl3k : l3[k] = (l[k].1, l[k].2.1, l[k].2.2 + 1) := by
              have : l3[k]? = some (l[k].1, l[k].2.1, l[k].2.2 + 1) := by rw [hl3, List.getElem?_set_self hkm]
              exact (List.getElem?_eq_some_iff.1 this).2
            have L3 := Lib.hid (show l3.set k (l[k].1, pk l[k].1 (l[k].2.2 + 1), l[k].2.2 + 1) = mix l (k + 1) by rw [hl3, List.set_set]; exact MS.out)
            rw [← hl3, ← hl3n] at O3
            have L3K := Lib.hid hl3k
            have PK := Lib.hid (fun w => rpick_any l[k].1 (l[k].2.2 + 1) w g3 (by unfold I64; omega))
            have PR := pk_range l[k].1 (l[k].2.2 + 1)
            have CS := Lib.hid (fun w' (h : Below w3.heap.size w3 w') => And.intro ((h.cell (p := ⟨b, p + k * 3, none⟩) (by show b < w3.heap.size; omega)).trans x0) ((h.cell (p := ⟨b, p + k * 3 + 2, none⟩) (by show b < w3.heap.size; omega)).trans x2))
            have CT := Lib.hid (fun w' (h : Below w3.heap.size w3 w') (q : Int) => (show (w'.setCell ⟨g, k * 3 + 1, none⟩ (.int .i64 q)).cell? ⟨b, p + k * 3, none⟩ = some (.int .u64 l[k].1) ∧ (w'.setCell ⟨g, k * 3 + 1, none⟩ (.int .i64 q)).cell? ⟨b, p + k * 3 + 2, none⟩ = some (.int .i64 l[k].2.2) from by
              obtain ⟨h1, h2⟩ := CS.out w' h
              constructor
              · rw [World.cell?_setCell_other _ _ _ _ (by simp only [ne_eq, Addr.mk.injEq, not_and]; intro h; omega)]; exact h1
              · rw [World.cell?_setCell_other _ _ _ _ (by simp only [ne_eq, Addr.mk.injEq, not_and]; intro h; omega)]; exact h2))
            have C1 := Lib.hid (fun w' (h : Below w3.heap.size w3 w') => And.intro (show w'.cell? ⟨g, k * 3 + 1, none⟩ = some (.int .i64 l[k].2.1) by
              rw [oc1 (O3.out.below h) k hkm3, L3K.out]) ((O3.out.below h).fr (k * 3 + 1)))
            have O4 := Lib.hid (fun w' (h : Below w3.heap.size w3 w') => (show OwnC (w'.setCell ⟨g, k * 3 + 1, none⟩ (.int .i64 (pk l[k].1 (l[k].2.2 + 1)))) w.heap.size (.slice (some ⟨g, 0, none⟩) l3.length cap) (mix l (k + 1)) by
              have h2 := op1 (O3.out.below h) k hkm3 (pk l[k].1 (l[k].2.2 + 1)) (by unfold I64; omega)
              rw [L3K.out, L3.out] at h2
              exact h2))
            have i1 : IntKind.i64.wrap (l[k].2.2 + 1) = l[k].2.2 + 1 := IntWalk.i64_in _ ⟨by omega, by omega⟩
            clear ho hs MM NS NM SP MG MS hl3 hl3k O1 L3 L3K x0 x2
            generalize l[k].1 = e at *
            generalize l[k].2.1 = a at *
            generalize l[k].2.2 = t at *
            generalize pk e (t + 1) = q at *
            have HN := Lib.hid hl3n
            clear hl3n
            go_wp2_with fail
            rw [W3.out]
            have Z0 : Below w3.heap.size w3 w3.drew := (Below.refl _ _).drew
            go_region_held3 (fun w' => w'.cell? ⟨b, p + k * 3, none⟩ = some (.int .u64 e) ∧ w'.cell? ⟨b, p + k * 3 + 2, none⟩ = some (.int .i64 t))
              (first | exact CS.out _ Z1 | exact CS.out _ Z0 | exact CT.out _ Z1 _ | fail)
              (first
              | (go_at_call 14; refine (PK.out _).mono ?_; rintro _ wa ⟨rfl, hb⟩; have Z1 := Z0.trans (hb.mono Z0.size); clear hb; have k1 := (C1.out _ Z1).1; have k1f := (C1.out _ Z1).2) | fail)
            clear i1
            all_goals
              go_wp2_with fail
              go_roundw
            case rel => exact ⟨k + 1, by go_num, by rw [E2.out]; go_num, hlt, (by rw [← HN.out]; exact O4.out _ Z1), (B3.out.trans (Z1.mono hz4)).setCell (by show w.heap.size ≤ g; omega) _⟩
            case measure => simp [intOf]; omega
    · obtain rfl : k = l.length := by omega
      rw [mix_all] at O
      clear hb ho
      go_wp2_with fail
      go_ret2
      exact ⟨_, by rw [nck_all]; rfl, O.out.down (by omega), B.out⟩
end Go.Proofs.Ytjhnilfnnongeaa.Adr
