/- Contract of the reference's Check. -/
import Derived.Test.YtjhnilfnnongeaaAdC
set_option linter.unusedVariables false
namespace Go.Proofs.Ytjhnilfnnongeaa.Adr
open Go.RowKit

theorem not_in_take (l : List Clm) (k : Nat) (e : Int) (h : ∀ j (hj : j < l.length), j < k → l[j].1 ≠ e) : e ∉ (l.take k).map Prod.fst := by
  intro hm
  obtain ⟨c, hc, rfl⟩ := List.mem_map.1 hm
  obtain ⟨j, hj, rfl⟩ := List.getElem_of_mem hc
  have hj' := hj
  rw [List.length_take] at hj'
  rw [List.getElem_take] at h
  exact h j (by omega) (by omega) rfl
theorem in_take (l : List Clm) (k j : Nat) (hj : j < l.length) (h : j < k) : l[j].1 ∈ (l.take k).map Prod.fst := by
  refine List.mem_map.2 ⟨l[j], List.mem_iff_getElem.2 ⟨j, by rw [List.length_take]; omega, ?_⟩, rfl⟩
  rw [List.getElem_take]

set_option maxRecDepth 100000 in
set_option maxHeartbeats 4000000 in
theorem rcheck_any (A : Option Addr) (c : Nat) (l : List Clm) (w : World) (hl : l.length ≤ 9223372036854775807) (hA : ClAt w w.heap.size A l) :
    Calls Try.prog 18 #[.slice A l.length c] w (OutI w (chk l)) := by
  have HA := Lib.hid hA
  clear hA
  by_cases h24 : 24 < l.length
  · have R := Lib.hid (show chk l = 3 from if_pos h24)
    go_enter Try.func18, Try.ntmps18
    go_wp2_with fail
    go_ret
    exact outI R.out.symm (Below.refl _ _)
  have CK := Lib.hid (show chk l = chkG [] l from if_neg h24)
  go_enter Try.func18, Try.ntmps18
  go_wp2_with fail
  go_loopw [3] (fun i wr => ∃ k : Nat, i = .int .i64 k ∧ k ≤ l.length ∧ chk l = chkG ((l.take k).map Prod.fst) (l.drop k) ∧ Below w.heap.size w wr) (fun i _ => l.length - (intOf i).toNat)
  case atStart => exact ⟨0, rfl, Nat.zero_le _, by rw [CK.out]; rfl, Below.refl _ _⟩
  case round =>
    obtain ⟨k, rfl, hk, hal, hb⟩ := hrel
    have B := Lib.hid hb
    have hz := hb.size
    by_cases hlt : k < l.length
    · have AL := Lib.hid (show chk l = chkG ((l.take k).map Prod.fst) (l[k] :: l.drop (k + 1)) by rw [← drop_one l k hlt]; exact hal)
      have MT := Lib.hid (map_take_one l k hlt)
      have NT := Lib.hid (not_in_take l k)
      have IT := Lib.hid (in_take l k)
      clear hal hb
      go_wp2_with fail
      go_loopw [4] (fun i ws => ∃ m : Nat, i = .int .i64 m ∧ m ≤ k ∧ (∀ j (hj : j < l.length), j < m → l[j].1 ≠ l[k].1) ∧ Below w.heap.size w ws) (fun i _ => k - (intOf i).toNat)
      case atStart => exact ⟨0, rfl, Nat.zero_le _, fun j hj h => absurd h (by omega), B.out⟩
      case round =>
        obtain ⟨m, rfl, hmk, hne, hb⟩ := hrel
        have B := Lib.hid hb
        have hz := hb.size
        have NE := Lib.hid hne
        clear hne
        by_cases hlm : m < k
        · obtain ⟨b, p, rfl, hbw, g0, g1, g2, g3, g4, g5⟩ := cl_cell (HA.out.below hb) k hlt
          obtain ⟨b', p', hA', _, f0, f1, f2, f3, f4, f5⟩ := cl_cell (HA.out.below hb) m (by omega)
          simp only [Option.some.injEq, Addr.mk.injEq, and_true] at hA'
          obtain ⟨rfl, rfl⟩ := hA'
          have IN := Lib.hid (IT.out m (by omega) hlm)
          by_cases hx : l[m].1 = l[k].1
          · have R := Lib.hid (show chk l = 9 by rw [AL.out, chkG_cons, if_pos (by rw [← hx]; exact IN.out)])
            rw [hx] at f0
            clear hx hb NE AL IN MT g1 g2 f1 f2 f3 f4 f5
            generalize l[k].1 = e at *
            go_wp2_with fail
            go_quiet (fail)
            go_wp2_with fail
            go_ret
            exact outI R.out.symm (below_drewN B.out _)
          · have N2 := Lib.hid (show ∀ j (hj : j < l.length), j < m + 1 → l[j].1 ≠ l[k].1 from fun j hj h => by
              rcases Nat.lt_or_ge j m with h1 | h1
              · exact NE.out j hj h1
              · obtain rfl : j = m := by omega
                exact hx)
            have n1 : (l[m].1 == l[k].1) = false := by simpa using hx
            have n2 : decide (l[m].1 = l[k].1) = false := df hx
            clear hx hb NE IN g1 g2 f1 f2
            go_wp2_with fail
            go_quiet (fail)
            go_wp2_with fail
            go_roundw
            case rel => exact ⟨m + 1, by go_num, hlm, N2.out, below_drewN B.out _⟩
            case measure => simp [intOf]; omega
        · obtain rfl : m = k := by omega
          obtain ⟨b, p, rfl, hbw, g0, g1, g2, g3, g4, g5⟩ := cl_cell (HA.out.below hb) m hlt
          have NI := Lib.hid (NT.out l[m].1 NE.out)
          have e0 : l[m] = (l[m].1, l[m].2.1, l[m].2.2) := rfl
          rw [e0] at AL
          clear e0 NE hb NT IT
          generalize l[m].1 = e at *
          generalize l[m].2.1 = a at *
          generalize l[m].2.2 = t at *
          generalize (l.take m).map Prod.fst = s at *
          have AL2 := Lib.hid (show chk l = if bad (e, a, t) then 2 else chkG (s ++ [e]) (l.drop (m + 1)) by rw [AL.out, chkG_cons, if_neg NI.out])
          have CS := Lib.hid (fun w' (h : Below wr.heap.size wr w') => And.intro ((h.cell (p := ⟨b, p + m * 3, none⟩) (by show b < wr.heap.size; omega)).trans g0) (And.intro ((h.cell (p := ⟨b, p + m * 3 + 1, none⟩) (by show b < wr.heap.size; omega)).trans g1) ((h.cell (p := ⟨b, p + m * 3 + 2, none⟩) (by show b < wr.heap.size; omega)).trans g2)))
          by_cases t1 : t < 0
          · have R := Lib.hid (show chk l = 2 by rw [AL2.out, if_pos (bad_t (Or.inl t1))])
            have d1 := dt t1
            go_wp2_with fail
            go_quiet (fail)
            go_wp2_with fail
            go_ret
            exact outI R.out.symm (below_drewN B.out _)
          · have d1 := df t1
            by_cases t2 : 100000 < t
            · have R := Lib.hid (show chk l = 2 by rw [AL2.out, if_pos (bad_t (Or.inr (Or.inl t2)))])
              have d2 := dt t2
              go_wp2_with fail
              go_quiet (fail)
              go_wp2_with fail
              go_ret
              exact outI R.out.symm (below_drewN B.out _)
            · have d2 := df t2
              have PK := Lib.hid (fun w => rpick_any e t w g3 g5)
              obtain ⟨q, hq⟩ : ∃ q, q = pk e t := ⟨_, rfl⟩
              rw [← hq] at PK
              have HQ := Lib.hid hq
              clear hq g0 g1 g2
              by_cases h3 : a = q
              · have R := Lib.hid (show chk l = chkG ((l.take (m + 1)).map Prod.fst) (l.drop (m + 1)) by rw [AL2.out, if_neg (by rw [bad_f (by omega) (by omega) (h3.trans HQ.out)]; decide), MT.out])
                have n1 : (a != q) = false := by simpa using h3
                have n2 : decide (a = q) = true := dt h3
                clear h3
                go_wp2_with fail
                have Z0 : Below wr.heap.size wr wr.drew := (Below.refl _ _).drew
                go_region_held3 (fun w' => w'.cell? ⟨b, p + m * 3, none⟩ = some (.int .u64 e) ∧ w'.cell? ⟨b, p + m * 3 + 1, none⟩ = some (.int .i64 a) ∧ w'.cell? ⟨b, p + m * 3 + 2, none⟩ = some (.int .i64 t))
                  (first | exact CS.out _ Z1 | exact CS.out _ Z0 | fail)
                  (first
                  | (go_at_call 14; refine (PK.out _).mono ?_; rintro _ wa ⟨rfl, hb⟩; have Z1 := Z0.trans (hb.mono Z0.size); clear hb) | fail)
                all_goals
                  go_wp2_with fail
                  go_roundw
                case rel => exact ⟨m + 1, by go_num, hlt, R.out, B.out.trans (Z1.mono hz)⟩
                case measure => simp [intOf]; omega
              · have R := Lib.hid (show chk l = 2 by rw [AL2.out, if_pos (bad_t (Or.inr (Or.inr (by rw [← HQ.out]; exact h3))))])
                have n1 : (a != q) = true := by simpa using h3
                have n2 : decide (a = q) = false := df h3
                clear h3
                go_wp2_with fail
                have Z0 : Below wr.heap.size wr wr.drew := (Below.refl _ _).drew
                go_region_held3 (fun w' => w'.cell? ⟨b, p + m * 3, none⟩ = some (.int .u64 e) ∧ w'.cell? ⟨b, p + m * 3 + 1, none⟩ = some (.int .i64 a) ∧ w'.cell? ⟨b, p + m * 3 + 2, none⟩ = some (.int .i64 t))
                  (first | exact CS.out _ Z1 | exact CS.out _ Z0 | fail)
                  (first
                  | (go_at_call 14; refine (PK.out _).mono ?_; rintro _ wa ⟨rfl, hb⟩; have Z1 := Z0.trans (hb.mono Z0.size); clear hb) | fail)
                all_goals
                  go_wp2_with fail
                  go_ret
                  exact outI R.out.symm (B.out.trans (Z1.mono hz))
    · rw [List.drop_eq_nil_of_le (by omega)] at hal
      have R := Lib.hid (show chk l = 0 by rw [hal]; rfl)
      clear hal hb
      go_wp2_with fail
      go_ret
      exact outI R.out.symm B.out
end Go.Proofs.Ytjhnilfnnongeaa.Adr
