/- Points in memory; contracts of both Holds. -/
import Derived.Test.YtekcknpgpfeijaaEE
set_option linter.unusedVariables false
namespace Go.Proofs.Ytekcknpgpfeijaa.Series
open Go.RowKit Go.Shelf

/-- The slice with this address reads as these points. -/
def PtAt (w : World) (B : Nat) (A : Option Addr) (l : List Pt) : Prop :=
  ∀ i, i < l.length → ∃ b p, A = some ⟨b, p, none⟩ ∧ b < B ∧ w.cell? ⟨b, p + i * 2, none⟩ = some (.int .i64 (ptN l i).1) ∧ w.cell? ⟨b, p + i * 2 + 1, none⟩ = some (.int .i64 (ptN l i).2)
theorem PtAt.below {w w' : World} {B : Nat} {A : Option Addr} {l : List Pt} (h : PtAt w B A l) (hb : Below B w w') : PtAt w' B A l := fun i hi => by
  obtain ⟨b, p, h1, h2, h3, h4⟩ := h i hi
  exact ⟨b, p, h1, h2, (hb.cell (p := ⟨b, p + i * 2, none⟩) h2).trans h3, (hb.cell (p := ⟨b, p + i * 2 + 1, none⟩) h2).trans h4⟩
theorem PtAt.mono {w : World} {B B' : Nat} {A : Option Addr} {l : List Pt} (h : PtAt w B A l) (hB : B ≤ B') : PtAt w B' A l := fun i hi => by
  obtain ⟨b, p, h1, h2, h3⟩ := h i hi
  exact ⟨b, p, h1, by omega, h3⟩
theorem PtAt.next {w w' : World} {A : Option Addr} {l : List Pt} (h : PtAt w w.heap.size A l) (hb : Below w.heap.size w w') : PtAt w' w'.heap.size A l := (h.below hb).mono hb.size
/-- A list and an error are handed back. -/
def OutP (w : World) (code : Int) (l : List Int) (e : Ending) (w' : World) : Prop := ∃ A c, e = .returned (.tuple #[.slice A l.length c, .int .i64 code]) ∧ NsAt w' w'.heap.size A l ∧ Below w.heap.size w w'
theorem outP {w w' : World} {l k : List Int} {A : Option Addr} {n c : Nat} {a b : Int} (h : l = k) (hn : n = l.length) (hab : a = b) (ho : NsAt w' w'.heap.size A k) (hb : Below w.heap.size w w') : OutP w a l (.returned (.tuple #[.slice A n c, .int .i64 b])) w' := by subst h hn hab; exact ⟨A, c, rfl, ho, hb⟩
theorem outP_own {w w' : World} {l k : List Int} {v : Value} {B : Nat} {a b : Int} (h : l = k) (hab : a = b) (ho : OwnN w' B v k) (hb : Below w.heap.size w w') : OutP w a l (.returned (.tuple #[v, .int .i64 b])) w' := by
  subst h hab
  obtain ⟨A, c, rfl, h⟩ := own_ns ho
  exact ⟨A, c, rfl, h, hb⟩
theorem outP_err {w w' : World} {l : List Int} {a b : Int} (hl : l = []) (hab : a = b) (hb : Below w.heap.size w w') : OutP w a l (.returned (.tuple #[.slice none 0 0, .int .i64 b])) w' := outP hl (by rw [hl]; rfl) hab (NsAt.nil _ _ _) hb
theorem hoR_err {l : List Pt} {n : Int} (h : hoE l n ≠ 0) : hoR l n = [] := by unfold hoR; rw [if_neg h]
theorem hoE_lim {l : List Pt} {n : Int} (h : n < 0 ∨ 96 < n ∨ 256 < l.length) : hoE l n = 3 := by unfold hoE; rw [if_pos h]
theorem hoE_ord {l : List Pt} {n : Int} (h : ¬ (n < 0 ∨ 96 < n ∨ 256 < l.length)) (k : Nat) (hk : k + 1 < l.length) (hle : ¬ (ptN l k).1 < (ptN l (k + 1)).1) : hoE l n = 14 := by
  unfold hoE; rw [if_neg h, if_neg (fun hA => hle (hA k hk))]
theorem hoE_ok {l : List Pt} {n : Int} (h : ¬ (n < 0 ∨ 96 < n ∨ 256 < l.length)) (hA : Asc l) : hoE l n = 0 := by unfold hoE; rw [if_neg h, if_pos hA]

set_option maxRecDepth 100000 in
set_option maxHeartbeats 4000000 in
theorem shold_any (A : Option Addr) (c : Nat) (l : List Pt) (n : Int) (w : World) (hl : l.length ≤ 9223372036854775807) (hA : PtAt w w.heap.size A l) :
    Calls Try.prog 23 #[.slice A l.length c, .int .i64 n] w (OutP w (hoE l n) (hoR l n)) := by
  have HA := Lib.hid hA
  clear hA
  by_cases h1 : n < 0
  · have E := Lib.hid (hoE_lim (l := l) (n := n) (Or.inl h1))
    have R := Lib.hid (hoR_err (l := l) (n := n) (by rw [E.out]; omega))
    have d1 := dt h1
    go_enter Try.func23, Try.ntmps23
    go_wp2_with fail
    go_ret2
    exact outP_err R.out E.out (Below.refl _ _)
  have d1 := df h1
  by_cases h2 : 96 < n
  · have E := Lib.hid (hoE_lim (l := l) (n := n) (Or.inr (Or.inl h2)))
    have R := Lib.hid (hoR_err (l := l) (n := n) (by rw [E.out]; omega))
    have d2 := dt h2
    go_enter Try.func23, Try.ntmps23
    go_wp2_with fail
    go_ret2
    exact outP_err R.out E.out (Below.refl _ _)
  have d2 := df h2
  by_cases h3 : 256 < l.length
  · have E := Lib.hid (hoE_lim (l := l) (n := n) (Or.inr (Or.inr h3)))
    have R := Lib.hid (hoR_err (l := l) (n := n) (by rw [E.out]; omega))
    have d3 := dt (show (256 : Int) < (l.length : Int) by omega)
    go_enter Try.func23, Try.ntmps23
    go_wp2_with fail
    go_ret2
    exact outP_err R.out E.out (Below.refl _ _)
  have d3 := df (show ¬ (256 : Int) < (l.length : Int) by omega)
  have NL : ¬ (n < 0 ∨ 96 < n ∨ 256 < l.length) := by omega
  obtain ⟨m, rfl⟩ : ∃ m : Nat, n = m := ⟨n.toNat, by omega⟩
  have hm96 : m ≤ 96 := by omega
  have hl256 : l.length ≤ 256 := by omega
  have NL := Lib.hid NL
  go_enter Try.func23, Try.ntmps23
  go_wp2_with fail
  clear d1 d2 d3 h1 h2 h3
  go_loopw [6] (fun i wr => ∃ k : Nat, i = .int .i64 ((k : Int) + 1) ∧ k ≤ l.length ∧ (∀ j, j + 1 < k + 1 → j + 1 < l.length → (ptN l j).1 < (ptN l (j + 1)).1) ∧ Below w.heap.size w wr) (fun i _ => l.length + 1 - (intOf i).toNat)
  case atStart => exact ⟨0, rfl, Nat.zero_le _, fun j hj => by omega, Below.refl _ _⟩
  case round =>
    obtain ⟨k, rfl, hk, hasc, hb⟩ := hrel
    have B := Lib.hid hb
    have AS := Lib.hid hasc
    clear hb hasc
    by_cases hlt : k + 1 < l.length
    · obtain ⟨b, p, rfl, g1, g2, _⟩ := (HA.out.below B.out) k (by omega)
      obtain ⟨b2, p2, hA2, g3, g4, _⟩ := (HA.out.below B.out) (k + 1) hlt
      cases hA2
      have i1 : (k : Int) + 1 < (l.length : Int) := by omega
      have i2 : (k : Int) + 1 - 1 = (k : Int) := by omega
      have i3 : (0 : Int) ≤ (k : Int) + 1 := by omega
      have i4 : ((k : Int) + 1).toNat = k + 1 := by omega
      have i5 : (k : Int) < (l.length : Int) := by omega
      by_cases hle : (ptN l k).1 < (ptN l (k + 1)).1
      · have AS2 := Lib.hid (show ∀ j, j + 1 < k + 1 + 1 → j + 1 < l.length → (ptN l j).1 < (ptN l (j + 1)).1 from fun j h1 h2 => by
          by_cases e : j = k
          · subst e; exact hle
          · exact AS.out j (by omega) h2)
        have dd := df (show ¬ (ptN l (k + 1)).1 ≤ (ptN l k).1 by omega)
        generalize (ptN l k).1 = x at *
        generalize (ptN l (k + 1)).1 = y at *
        clear hle
        go_wp2_with fail
        go_quiet (fail)
        go_wp2_with fail
        go_roundw
        case rel => exact ⟨k + 1, by go_num, by omega, AS2.out, below_drewN B.out _⟩
        case measure => simp [intOf]; omega
      · have E := Lib.hid (hoE_ord (n := (m : Int)) NL.out k hlt hle)
        have R := Lib.hid (hoR_err (l := l) (n := (m : Int)) (by rw [E.out]; omega))
        have dd := dt (show (ptN l (k + 1)).1 ≤ (ptN l k).1 by omega)
        generalize (ptN l k).1 = x at *
        generalize (ptN l (k + 1)).1 = y at *
        clear hle
        go_wp2_with fail
        go_quiet (fail)
        go_wp2_with fail
        go_ret2
        exact outP_err R.out E.out (below_drewN B.out _)
    · have AL : Asc l := fun j hj => AS.out j (by omega) hj
      have E := Lib.hid (hoE_ok (n := (m : Int)) NL.out AL)
      have AL := Lib.hid AL
      have R := Lib.hid (show hoR l (m : Int) = hoL l m by unfold hoR; rw [if_pos E.out]; rfl)
      obtain ⟨w1, hmk, R1, hw1⟩ := make_nums wr m (by omega)
      have B1 := Lib.hid (show Below w.heap.size w w1 by rw [hw1]; exact B.out.alloc B.out.size _)
      have RW := Lib.hid R1
      have zr := B.out.size
      have GE := Lib.hid (show w.heap.size ≤ wr.heap.size from zr)
      clear hw1 R1
      go_wp2_with fail
      clear hmk
      generalize wr.heap.size = g at *
      go_loopw [8, 9, 44] (fun v x i wt => ∃ s q : Nat, i = .int .i64 (s : Int) ∧ x = .int .i64 (q : Int) ∧ v = .int .i64 (vc l q) ∧ s ≤ m ∧ q ≤ l.length ∧ (q = 0 ∨ (ptN l (q - 1)).1 ≤ s) ∧ RowN wt g m (fun i => if i < s then hvN l i l.length else 0) ∧ Below w.heap.size w wt) (fun _ _ i _ => m - (intOf i).toNat)
      case atStart => exact ⟨0, 0, rfl, rfl, rfl, Nat.zero_le _, Nat.zero_le _, Or.inl rfl, RW.out.same (fun i _ => by simp), B1.out⟩
      case round =>
        obtain ⟨s, q, rfl, rfl, rfl, hs, hq, hq0, hrow, hb⟩ := hrel
        have RW2 := Lib.hid hrow
        have B2 := Lib.hid hb
        have P2 := Lib.hid (HA.out.below hb)
        have Q0 := Lib.hid hq0
        clear hrow hb hq0
        by_cases hsm : s < m
        · have ds := dt (show s < m from hsm)
          have ds2 := dt (show (s : Int) < (m : Int) by omega)
          go_wp2_with fail
          go_loop [8, 9] (fun v x => ∃ q : Nat, x = .int .i64 (q : Int) ∧ v = .int .i64 (vc l q) ∧ q ≤ l.length ∧ (q = 0 ∨ (ptN l (q - 1)).1 ≤ s)) (fun _ x => l.length - (intOf x).toNat)
          case atStart => exact ⟨q, rfl, rfl, hq, Q0.out⟩
          case round =>
            obtain ⟨q, rfl, rfl, hq, hq0⟩ := hrel
            have Q1 := Lib.hid hq0
            clear hq0
            by_cases hql : q < l.length
            · obtain ⟨b, p, rfl, g1, g2, g3⟩ := P2.out q hql
              by_cases hle : (ptN l q).1 ≤ s
              · have V := Lib.hid (vc_succ l q)
                have dd := dt hle
                have HLE := Lib.hid hle
                clear hle
                generalize (ptN l q).2 = y at *
                generalize hx : (ptN l q).1 = x at *
                have HX := Lib.hid hx
                clear hx
                go_wp2_with (go_at_call 33; refine (nsat_any _ _).mono ?_; rintro e w3 ⟨rfl, rfl⟩)
                go_round
                case rel => exact ⟨q + 1, by go_num, val_int V.out.symm, hql, Or.inr (by have := HLE.out; have := HX.out; simp only [Nat.add_sub_cancel]; omega)⟩
                case measure => simp [intOf]; omega
              · have V := Lib.hid (hv_end AL.out s q hq Q1.out (Or.inr (by omega)))
                have dd := df hle
                generalize (ptN l q).2 = y at *
                generalize hx : (ptN l q).1 = x at *
                have fr := RW2.out.frozen s
                have ce := RW2.out.cell hsm
                have SP := Lib.hid (RW2.out.put s (vc l q))
                clear hx hle
                go_wp2_with fail
                go_roundw
                case rel => exact ⟨s + 1, q, by go_num, rfl, rfl, hsm, hq, by have := Q1.out; omega, SP.out.same (fun i hi => by
                  by_cases e1 : i = s
                  · subst e1; rw [if_pos rfl, if_pos (by omega), V.out]
                  · rw [if_neg e1]
                    by_cases e2 : i < s
                    · rw [if_pos e2, if_pos (by omega)]
                    · rw [if_neg e2, if_neg (by omega)]), B2.out.setCell GE.out _⟩
                case measure => simp [intOf]; omega
            · obtain rfl : q = l.length := by omega
              have V := Lib.hid (hv_end AL.out s l.length hq Q1.out (Or.inl rfl))
              have fr := RW2.out.frozen s
              have ce := RW2.out.cell hsm
              have SP := Lib.hid (RW2.out.put s (vc l l.length))
              go_wp2_with fail
              go_roundw
              case rel => exact ⟨s + 1, l.length, by go_num, rfl, rfl, hsm, hq, by have := Q1.out; omega, SP.out.same (fun i hi => by
                by_cases e1 : i = s
                · subst e1; rw [if_pos rfl, if_pos (by omega), V.out]
                · rw [if_neg e1]
                  by_cases e2 : i < s
                  · rw [if_pos e2, if_pos (by omega)]
                  · rw [if_neg e2, if_neg (by omega)]), B2.out.setCell GE.out _⟩
              case measure => simp [intOf]; omega
        · obtain rfl : s = m := by omega
          have RR := Lib.hid (row_ns (RW2.out.same (f' := fun i : Nat => hvN l i l.length) (fun i hi => if_pos hi)))
          go_wp2_with fail
          go_ret2
          exact outP (k := (List.range s).map fun i : Nat => hvN l i l.length) R.out (by rw [R.out]; simp [hoL]) E.out RR.out B2.out
end Go.Proofs.Ytekcknpgpfeijaa.Series
