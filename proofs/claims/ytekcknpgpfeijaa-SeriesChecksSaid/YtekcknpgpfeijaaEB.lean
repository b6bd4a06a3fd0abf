/- Contracts of the reference's read, At, Sum, Same and of both Checks. -/
import Derived.Test.YtekcknpgpfeijaaEA
set_option linter.unusedVariables false
namespace Go.Proofs.Ytekcknpgpfeijaa.Series
open Go.RowKit

set_option maxRecDepth 100000 in
set_option maxHeartbeats 1000000 in
theorem read_any (A : Option Addr) (c : Nat) (l : List Int) (w : World) (hl : l.length ≤ 9223372036854775807) (hA : NsAt w w.heap.size A l) :
    Calls Try.prog 34 #[.slice A l.length c] w (OutL w (rd l)) := by
  have HA := Lib.hid hA
  clear hA
  by_cases h96 : l.length ≤ 96
  · have R := Lib.hid (rd_short h96)
    have d1 := dt (show (l.length : Int) ≤ 96 by omega)
    go_enter Try.func34, Try.ntmps34
    go_wp2_with fail
    go_loopw [3, 4] (fun v i wr => ∃ k : Nat, i = .int .i64 (k : Int) ∧ k ≤ l.length ∧ OwnN wr w.heap.size v ((l.take k).map sat) ∧ Below w.heap.size w wr) (fun _ i _ => l.length - (intOf i).toNat)
    case atStart => exact ⟨0, rfl, Nat.zero_le _, World.ownsRow_nil _ _ _ _, Below.refl _ _⟩
    case round =>
      obtain ⟨k, rfl, hk, hown, hb⟩ := hrel
      have O := Lib.hid hown
      have B := Lib.hid hb
      have hz := hb.size
      by_cases hlt : k < l.length
      · obtain ⟨b, p, rfl, g1, g2⟩ := (HA.out.below hb) k hlt
        have ST := Lib.hid (show (l.take (k + 1)).map sat = (l.take k).map sat ++ [sat l[k]] by rw [List.take_succ_eq_append_getElem hlt, List.map_append]; rfl)
        generalize l[k] = x at *
        obtain ⟨v', w', hap, hown', hbb⟩ := app_one (sat x) 22 hown (by simp; omega) hz
        have O' := Lib.hid (show OwnN w' w.heap.size v' ((l.take (k + 1)).map sat) by rw [ST.out]; exact hown')
        have B' := Lib.hid (B.out.trans hbb)
        clear hown hb hown' hbb
        go_wp2_with fail
        refine (rsat_any _ _).mono ?_
        rintro e w2 ⟨rfl, rfl⟩
        go_wp2_with (at_builtin; refine Lib.wpList_append_run _ rfl _ _ _ _ rfl _ _ rfl rfl _ _ hap ?_)
        go_roundw
        case rel => exact ⟨k + 1, by go_num, hlt, O'.out, B'.out⟩
        case measure => simp [intOf]; omega
      · have E := Lib.hid (show rd l = (l.take k).map sat by rw [R.out, List.take_of_length_le (by omega)])
        clear hown hb
        go_wp2_with fail
        go_ret
        exact outL_own E.out O.out B.out
  · have R := Lib.hid (rd_long h96)
    have d1 := df (show ¬ (l.length : Int) ≤ 96 by omega)
    go_enter Try.func34, Try.ntmps34
    go_wp2_with fail
    go_loop [3, 4] (fun v i => v = .slice none 0 0 ∧ i = .int .i64 0) (fun _ i => 0)
    case atStart => exact ⟨rfl, rfl⟩
    case round =>
      obtain ⟨rfl, rfl⟩ := hrel
      go_wp2_with fail
      go_ret
      exact outL R.out (by rw [R.out]; rfl) (NsAt.nil _ _ _) (Below.refl _ _)

set_option maxRecDepth 100000 in
set_option maxHeartbeats 1000000 in
theorem rat_any (A : Option Addr) (c : Nat) (l : List Int) (i : Int) (w : World) (hl : l.length ≤ 9223372036854775807) (hA : NsAt w w.heap.size A l) :
    Calls Try.prog 15 #[.slice A l.length c, .int .i64 i] w (OutI w (atL (rd l) i)) := by
  have HA := Lib.hid hA
  clear hA
  have L := rd_len l
  by_cases h1 : i < 0
  · have E := Lib.hid (atL_neg (rd l) i h1).symm
    go_enter Try.func15, Try.ntmps15
    go_wp2_with fail
    refine (read_any A c l w hl HA.out).mono ?_
    rintro e w1 ⟨A1, c1, rfl, hs, hb⟩
    have B := Lib.hid hb
    clear hs hb
    go_wp2_with fail
    go_ret
    exact outI E.out B.out
  · have d1 := df h1
    by_cases h2 : i < (rd l).length
    · obtain ⟨k, rfl⟩ : ∃ k : Nat, i = k := ⟨i.toNat, by omega⟩
      have hk2 : k < (rd l).length := by omega
      have E := Lib.hid (atL_get (rd l) k hk2).symm
      have d2 := df (show ¬ ((rd l).length : Int) ≤ (k : Int) by omega)
      have RD := Lib.hid (read_any A c l w hl HA.out)
      generalize rd l = m at *
      go_enter Try.func15, Try.ntmps15
      go_wp2_with fail
      refine RD.out.mono ?_
      rintro e w1 ⟨A1, c1, rfl, hs, hb⟩
      have B := Lib.hid hb
      obtain ⟨b, p, rfl, g1, g2⟩ := hs k hk2
      generalize m[k] = x at *
      clear hs hb
      go_wp2_with fail
      go_ret
      exact outI E.out B.out
    · have E := Lib.hid (atL_out (rd l) i (by omega)).symm
      have d2 := dt (show ((rd l).length : Int) ≤ i by omega)
      have RD := Lib.hid (read_any A c l w hl HA.out)
      generalize rd l = m at *
      go_enter Try.func15, Try.ntmps15
      go_wp2_with fail
      refine RD.out.mono ?_
      rintro e w1 ⟨A1, c1, rfl, hs, hb⟩
      have B := Lib.hid hb
      clear hs hb
      go_wp2_with fail
      go_ret
      exact outI E.out B.out

set_option maxRecDepth 100000 in
set_option maxHeartbeats 1000000 in
theorem rsum_any (A : Option Addr) (c : Nat) (l : List Int) (f t : Int) (w : World) (hl : l.length ≤ 9223372036854775807) (hA : NsAt w w.heap.size A l) :
    Calls Try.prog 17 #[.slice A l.length c, .int .i64 f, .int .i64 t] w (OutI w (sat (psum (rd l) f t))) := by
  have RD := Lib.hid (read_any A c l w hl hA)
  have L := rd_len l
  have LIM := Lib.hid (lim_rd l)
  generalize rd l = m at *
  clear hA
  go_enter Try.func17, Try.ntmps17
  go_wp2_with fail
  refine RD.out.mono ?_
  rintro e w1 ⟨A1, c1, rfl, hs, hb⟩
  have B := Lib.hid hb
  have S := Lib.hid hs
  clear hs hb
  go_wp2_with fail
  go_loop [8, 9] (fun s i => ∃ k : Nat, i = .int .i64 (k : Int) ∧ k ≤ m.length ∧ s = .int .i64 (psum (m.take k) f t)) (fun _ i => m.length - (intOf i).toNat)
  case atStart => exact ⟨0, rfl, Nat.zero_le _, val_int (psum_none f t m).symm⟩
  case round =>
    obtain ⟨k, rfl, hk, rfl⟩ := hrel
    by_cases hlt : k < m.length
    · obtain ⟨b, p, rfl, g1, g2⟩ := S.out k hlt
      have ST := psum_step m k hlt f t
      have LT : ∀ x ∈ m.take k, x ∈ m := fun x hx => List.mem_of_mem_take hx
      have b1 := psum_bd (m := m.take k) (fun x hx => LIM.out x (LT x hx)) (by rw [List.length_take]; omega) f t
      have b2 := LIM.out m[k] (List.getElem_mem _)
      generalize m[k] = x at *
      generalize psum (m.take k) f t = q at *
      generalize hr : psum (m.take (k + 1)) f t = r at *
      have HR := Lib.hid hr
      clear hr LT
      by_cases h1 : f ≤ k
      · by_cases h2 : (k : Int) < t
        · rw [if_pos ⟨h1, h2⟩] at ST
          have E := Lib.hid ST
          have d1 := dt h1
          have d2 := dt h2
          clear ST h1 h2
          go_wp2_with fail
          go_round
          case rel => exact ⟨k + 1, by go_num, hlt, val_int (by rw [HR.out, E.out])⟩
          case measure => simp [intOf]; omega
        · rw [if_neg (fun h => h2 h.2)] at ST
          have E := Lib.hid ST
          have d1 := dt h1
          have d2 := df h2
          clear ST h1 h2
          go_wp2_with fail
          go_round
          case rel => exact ⟨k + 1, by go_num, hlt, val_int (by rw [HR.out, E.out]; omega)⟩
          case measure => simp [intOf]; omega
      · rw [if_neg (fun h => h1 h.1)] at ST
        have E := Lib.hid ST
        have d1 := df h1
        clear ST h1
        go_wp2_with fail
        go_round
        case rel => exact ⟨k + 1, by go_num, hlt, val_int (by rw [HR.out, E.out]; omega)⟩
        case measure => simp [intOf]; omega
    · have E := Lib.hid (show m.take k = m from List.take_of_length_le (by omega))
      go_wp2_with (go_at_call 35; refine (rsat_any _ _).mono ?_; rintro e w2 ⟨rfl, rfl⟩)
      go_ret
      exact outI (by rw [E.out]) B.out

set_option maxRecDepth 100000 in
set_option maxHeartbeats 1000000 in
theorem same_any (A A2 : Option Addr) (c c2 : Nat) (l : List Int) (w : World) (hl : l.length ≤ 1000000) (hA : NsAt w w.heap.size A l) (hA2 : NsAt w w.heap.size A2 l) :
    Calls Try.prog 18 #[.slice A l.length c, .slice A2 l.length c2] w (OutB w true) := by
  have HA := Lib.hid hA
  have HA2 := Lib.hid hA2
  clear hA hA2
  have d0 : ((l.length : Int) != (l.length : Int)) = false := by simp
  go_enter Try.func18, Try.ntmps18
  go_wp2_with fail
  go_loopw [5] (fun i wr => ∃ k : Nat, i = .int .i64 (k : Int) ∧ k ≤ l.length ∧ Below w.heap.size w wr) (fun i _ => l.length - (intOf i).toNat)
  case atStart => exact ⟨0, rfl, Nat.zero_le _, Below.refl _ _⟩
  case round =>
    obtain ⟨k, rfl, hk, hb⟩ := hrel
    have B := Lib.hid hb
    by_cases hlt : k < l.length
    · obtain ⟨b, p, rfl, g1, g2⟩ := (HA.out.below hb) k hlt
      obtain ⟨b2, p2, rfl, g3, g4⟩ := (HA2.out.below hb) k hlt
      generalize l[k] = x at *
      have d1 : (x != x) = false := by simp
      clear hb
      go_wp2_with fail
      go_quiet (fail)
      go_wp2_with fail
      go_roundw
      case rel => exact ⟨k + 1, by go_num, hlt, below_drewN B.out _⟩
      case measure => simp [intOf]; omega
    · go_wp2_with fail
      go_ret
      exact outB rfl B.out

section
variable (A : Option Addr) (c : Nat) (l : List Int) (lo hi n : Int) (w : World)
set_option maxRecDepth 100000 in
set_option maxHeartbeats 1000000 in
theorem check_any (hl : l.length ≤ 9223372036854775807) (hA : NsAt w w.heap.size A l) :
    Calls Try.prog 11 #[.slice A l.length c, .int .i64 lo, .int .i64 hi, .int .i64 n] w fun e w' => e = .returned (.int .i64 (chk l lo hi n)) ∧ w = w' := by
  have HA := Lib.hid hA
  clear hA
  by_cases h1 : (l.length : Int) = n
  · subst h1
    by_cases h2 : (96 : Int) < (l.length : Int)
    · have E := Lib.hid (show (3 : Int) = chk l lo hi l.length by unfold chk; rw [if_pos (Or.inr h2)])
      have d0 : ((l.length : Int) != (l.length : Int)) = false := by simp
      have d1 := dt h2
      go_enter Try.func11, Try.ntmps11
      go_wp2_with fail
      go_ret
      exact ⟨ret_int E.out, rfl⟩
    · have E := Lib.hid (show chk l lo hi l.length = if ∀ x ∈ l, lo ≤ x ∧ x ≤ hi then 0 else 2 by unfold chk; rw [if_neg (by omega)])
      have d0 : ((l.length : Int) != (l.length : Int)) = false := by simp
      have d1 := df h2
      go_enter Try.func11, Try.ntmps11
      go_wp2_with fail
      go_loop [21] (fun i => ∃ k : Nat, i = .int .i64 (k : Int) ∧ k ≤ l.length ∧ ∀ x ∈ l.take k, lo ≤ x ∧ x ≤ hi) (fun i => l.length - (intOf i).toNat)
      case atStart => exact ⟨0, rfl, Nat.zero_le _, by simp⟩
      case round =>
        obtain ⟨k, rfl, hk, hall⟩ := hrel
        have HL := Lib.hid hall
        clear hall
        by_cases hlt : k < l.length
        · obtain ⟨b, p, rfl, g1, g2⟩ := HA.out k hlt
          by_cases g3 : l[k] < lo
          · have E2 := Lib.hid (show (2 : Int) = chk l lo hi l.length by rw [E.out, if_neg (fun h => by have := h l[k] (List.getElem_mem _); omega)])
            generalize l[k] = x at *
            have d2 := dt g3
            go_wp2_with fail
            go_ret
            exact ⟨ret_int E2.out, rfl⟩
          · have d2 := df g3
            by_cases g4 : hi < l[k]
            · have E2 := Lib.hid (show (2 : Int) = chk l lo hi l.length by rw [E.out, if_neg (fun h => by have := h l[k] (List.getElem_mem _); omega)])
              generalize l[k] = x at *
              have d3 := dt g4
              go_wp2_with fail
              go_ret
              exact ⟨ret_int E2.out, rfl⟩
            · have HS := Lib.hid (show ∀ x ∈ l.take (k + 1), lo ≤ x ∧ x ≤ hi by
                rw [List.take_succ_eq_append_getElem hlt]
                intro x hx
                rcases List.mem_append.1 hx with h | h
                · exact HL.out x h
                · obtain rfl := List.mem_singleton.1 h; omega)
              have d3 := df g4
              generalize l[k] = x at *
              go_wp2_with fail
              go_round
              case rel => exact ⟨k + 1, by go_num, hlt, HS.out⟩
              case measure => simp [intOf]; omega
        · have E2 := Lib.hid (show (0 : Int) = chk l lo hi l.length by rw [E.out, if_pos (by have := HL.out; rwa [List.take_of_length_le (by omega)] at this)])
          go_wp2_with fail
          go_ret
          exact ⟨ret_int E2.out, rfl⟩
  · have E := Lib.hid (show (3 : Int) = chk l lo hi n by unfold chk; rw [if_pos (Or.inl h1)])
    have d0 : ((l.length : Int) != n) = true := by simpa using h1
    go_enter Try.func11, Try.ntmps11
    go_wp2_with fail
    go_ret
    exact ⟨ret_int E.out, rfl⟩

set_option maxRecDepth 100000 in
set_option maxHeartbeats 1000000 in
theorem rcheck_any (hl : l.length ≤ 9223372036854775807) (hA : NsAt w w.heap.size A l) :
    Calls Try.prog 12 #[.slice A l.length c, .int .i64 lo, .int .i64 hi, .int .i64 n] w fun e w' => e = .returned (.int .i64 (chk l lo hi n)) ∧ w = w' := by
  have HA := Lib.hid hA
  clear hA
  by_cases h1 : (l.length : Int) = n
  · subst h1
    by_cases h2 : (96 : Int) < (l.length : Int)
    · have E := Lib.hid (show (3 : Int) = chk l lo hi l.length by unfold chk; rw [if_pos (Or.inr h2)])
      have d0 : ((l.length : Int) != (l.length : Int)) = false := by simp
      have d1 := dt h2
      go_enter Try.func12, Try.ntmps12
      go_wp2_with fail
      go_ret
      exact ⟨ret_int E.out, rfl⟩
    · have E := Lib.hid (show chk l lo hi l.length = if ∀ x ∈ l, lo ≤ x ∧ x ≤ hi then 0 else 2 by unfold chk; rw [if_neg (by omega)])
      have d0 : ((l.length : Int) != (l.length : Int)) = false := by simp
      have d1 := df h2
      go_enter Try.func12, Try.ntmps12
      go_wp2_with fail
      go_loop [9] (fun i => ∃ k : Nat, i = .int .i64 (k : Int) ∧ k ≤ l.length ∧ ∀ x ∈ l.take k, lo ≤ x ∧ x ≤ hi) (fun i => l.length - (intOf i).toNat)
      case atStart => exact ⟨0, rfl, Nat.zero_le _, by simp⟩
      case round =>
        obtain ⟨k, rfl, hk, hall⟩ := hrel
        have HL := Lib.hid hall
        clear hall
        by_cases hlt : k < l.length
        · obtain ⟨b, p, rfl, g1, g2⟩ := HA.out k hlt
          by_cases g3 : l[k] < lo
          · have E2 := Lib.hid (show (2 : Int) = chk l lo hi l.length by rw [E.out, if_neg (fun h => by have := h l[k] (List.getElem_mem _); omega)])
            generalize l[k] = x at *
            have d2 := dt g3
            go_wp2_with fail
            go_ret
            exact ⟨ret_int E2.out, rfl⟩
          · have d2 := df g3
            by_cases g4 : hi < l[k]
            · have E2 := Lib.hid (show (2 : Int) = chk l lo hi l.length by rw [E.out, if_neg (fun h => by have := h l[k] (List.getElem_mem _); omega)])
              generalize l[k] = x at *
              have d3 := dt g4
              go_wp2_with fail
              go_ret
              exact ⟨ret_int E2.out, rfl⟩
            · have HS := Lib.hid (show ∀ x ∈ l.take (k + 1), lo ≤ x ∧ x ≤ hi by
                rw [List.take_succ_eq_append_getElem hlt]
                intro x hx
                rcases List.mem_append.1 hx with h | h
                · exact HL.out x h
                · obtain rfl := List.mem_singleton.1 h; omega)
              have d3 := df g4
              generalize l[k] = x at *
              go_wp2_with fail
              go_round
              case rel => exact ⟨k + 1, by go_num, hlt, HS.out⟩
              case measure => simp [intOf]; omega
        · have E2 := Lib.hid (show (0 : Int) = chk l lo hi l.length by rw [E.out, if_pos (by have := HL.out; rwa [List.take_of_length_le (by omega)] at this)])
          go_wp2_with fail
          go_ret
          exact ⟨ret_int E2.out, rfl⟩
  · have E := Lib.hid (show (3 : Int) = chk l lo hi n by unfold chk; rw [if_pos (Or.inl h1)])
    have d0 : ((l.length : Int) != n) = true := by simpa using h1
    go_enter Try.func12, Try.ntmps12
    go_wp2_with fail
    go_ret
    exact ⟨ret_int E.out, rfl⟩
end
end Go.Proofs.Ytekcknpgpfeijaa.Series
