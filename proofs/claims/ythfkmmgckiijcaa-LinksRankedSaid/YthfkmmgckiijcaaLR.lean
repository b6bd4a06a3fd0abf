/- The reference: Best; equal tables and equal lists. -/
import Derived.Test.YthfkmmgckiijcaaLQ
set_option linter.unusedVariables false
namespace Go.Proofs.Ythfkmmgckiijcaa.Lnk
open Go.RowKit

/-- The neighbors with this cost. -/
def wth (l : List Lk) (q : Int) (ns : List Int) : List Int := ns.filter fun n => decide (cost l n = q)
/-- Those of the first k costs. -/
def bk (l : List Lk) : Nat → List Int
  | 0 => []
  | k + 1 => bk l k ++ wth l ((10 + k : Nat) : Int) (nodes l)
theorem bk_eq (l : List Lk) : ∀ k, ((List.range' 10 k).flatMap fun (c : Nat) => (nodes l).filter fun n => decide (cost l n = (c : Int))) = bk l k
  | 0 => rfl
  | k + 1 => by
    rw [List.range'_concat, List.flatMap_append, bk_eq l k]
    show bk l k ++ _ = bk l k ++ wth l ((10 + k : Nat) : Int) (nodes l)
    unfold wth
    simp
theorem bst_bk (l : List Lk) : bst l = bk l 151 := bk_eq l 151
theorem nodes_len (l : List Lk) : (nodes l).length = (vl l).length := by unfold nodes; rw [List.length_map]
theorem bk_len (l : List Lk) : ∀ k, (bk l k).length ≤ k * 24
  | 0 => by simp [bk]
  | k + 1 => by
    have h1 := bk_len l k
    have h2 : (wth l ((10 + k : Nat) : Int) (nodes l)).length ≤ (nodes l).length := List.length_filter_le _ _
    have h3 := nodes_len l
    have h4 := vl_len l
    unfold bk
    rw [List.length_append]
    omega
theorem wth_yes (l : List Lk) (q : Int) (ns : List Int) (i : Nat) (h : i < ns.length) (hc : cost l ns[i] = q) : wth l q (ns.take (i + 1)) = wth l q (ns.take i) ++ [ns[i]] := by
  unfold wth; rw [take_one ns i h, List.filter_append]; simp [hc]
theorem wth_no (l : List Lk) (q : Int) (ns : List Int) (i : Nat) (h : i < ns.length) (hc : cost l ns[i] ≠ q) : wth l q (ns.take (i + 1)) = wth l q (ns.take i) := by
  unfold wth; rw [take_one ns i h, List.filter_append]; simp [hc]
theorem wth_len (l : List Lk) (q : Int) (ns : List Int) : (wth l q ns).length ≤ ns.length := List.length_filter_le _ _
theorem cost_vl (l : List Lk) (n : Int) : cost (vl l) n = cost l n := by unfold cost; rw [vl_vl]

set_option maxRecDepth 100000 in
set_option maxHeartbeats 2000000 in
theorem rbest_any (A : Option Addr) (c : Nat) (l : List Lk) (w : World) (hl : l.length ≤ 9223372036854775807) (hA : LkAt w w.heap.size A l) : Calls Try.prog 23 #[.slice A l.length c] w (OutF fI w (bst l)) := by
  have K := Lib.hid (rvalid_any A c l w hl hA)
  have V24 := vl_len l
  have NM := Lib.hid (show nodes l = (vl l).map Prod.fst from rfl)
  have CO := Lib.hid (fun n => cost_vl l n)
  have BK := Lib.hid (bst_bk l)
  have BL := Lib.hid (bk_len l)
  have BS := Lib.hid (fun k => (show bk l (k + 1) = bk l k ++ wth l ((10 + k : Nat) : Int) (nodes l) from rfl))
  have B0 := Lib.hid (show bk l 0 = [] from rfl)
  have WY := Lib.hid (wth_yes l)
  have WN := Lib.hid (wth_no l)
  have WL := Lib.hid (wth_len l)
  have W0 := Lib.hid (fun q => (show wth l q [] = [] from rfl))
  clear hA
  generalize hv : vl l = v at *
  generalize hns : nodes l = ns at *
  generalize bst l = F at *
  have nl : ns.length = v.length := by rw [NM.out, List.length_map]
  have NL := Lib.hid nl
  clear nl hv hns
  go_enter Try.func23, Try.ntmps23
  go_wp2_with fail
  refine K.out.mono ?_
  rintro _ w1 ⟨A1, c1, rfl, hA1, _, _, hb⟩
  have B1 := Lib.hid hb
  have HA1 := Lib.hid hA1
  have hz1 := hb.size
  clear hb hA1 K
  go_wp2_with fail
  go_loopw [4, 5, 6] (fun o q i wr => ∃ k : Nat, q = .int .i64 ((10 + k : Nat) : Int) ∧ k ≤ 151 ∧ OwnF fI 3 wr w1.heap.size o (bk l k) ∧ Below w1.heap.size w1 wr) (fun _ q _ _ => 161 - (intOf q).toNat)
  case atStart => exact ⟨0, rfl, by omega, by rw [B0.out]; exact OwnF.nil _ _, Below.refl _ _⟩
  case round =>
    obtain ⟨k, rfl, hk, ho, hb⟩ := hrel
    have B := Lib.hid hb
    have O := Lib.hid ho
    clear hb ho
    by_cases hk1 : k < 151
    · have dk := dt (show ((10 + k : Nat) : Int) ≤ 160 by omega)
      obtain ⟨y, hy⟩ : ∃ y : Nat, y = 10 + k := ⟨_, rfl⟩
      rw [← hy] at dk ⊢
      have y1 : y ≤ 160 := by omega
      have BSk := Lib.hid (BS.out k)
      rw [← hy] at BSk
      have HY := Lib.hid hy
      clear hy
      go_wp2_with fail
      go_loopw [4, 6] (fun o i wx => ∃ j : Nat, i = .int .i64 j ∧ j ≤ v.length ∧ OwnF fI 3 wx w1.heap.size o (bk l k ++ wth l (y : Int) (ns.take j)) ∧ Below w1.heap.size w1 wx) (fun _ i _ => v.length - (intOf i).toNat)
      case atStart => exact ⟨0, rfl, Nat.zero_le _, by rw [List.take_zero, W0.out, List.append_nil]; exact O.out, B.out⟩
      case round =>
        clear O B
        obtain ⟨j, rfl, hj, ho, hb⟩ := hrel
        have B := Lib.hid hb
        have hz := hb.size
        have O := Lib.hid ho
        by_cases hlt : j < v.length
        · obtain ⟨b, p, rfl, hbw, g0, g1, g2, g3, g4, g5⟩ := lk_cell (HA1.out.below hb) j hlt
          have hj2 : j < ns.length := by rw [NL.out]; exact hlt
          have EN := Lib.hid (show ns[j] = v[j].1 by simp [NM.out])
          have YY := Lib.hid (WY.out (y : Int) ns j hj2)
          have YN := Lib.hid (WN.out (y : Int) ns j hj2)
          rw [EN.out] at YY YN
          have KC := Lib.hid (fun wz (h : Below w1.heap.size w1 wz) => (show Calls Try.prog 18 #[.slice (some ⟨b, p, none⟩) v.length c1, .int .i64 v[j].1] wz (OutI wz (cost l v[j].1)) from by
            have := rcost_any (some ⟨b, p, none⟩) c1 v v[j].1 wz (by omega) ((HA1.out.below h).mono h.size)
            have e : cost v v[j].1 = cost l v[j].1 := CO.out _
            rw [e] at this
            exact this))
          clear hb ho hj2 EN
          generalize cost l v[j].1 = q at *
          generalize v[j].1 = x0 at *
          clear g1 g2 g4 g5
          by_cases hq : q = (y : Int)
          · have R := Lib.hid (YY.out hq)
            have d1 : (q == (y : Int)) = true := by simpa using hq
            have QE := Lib.hid hq
            have K3 := Lib.hid (KC.out _ B.out)
            clear YY YN hq KC
            go_wp2_with fail
            refine K3.out.mono ?_
            rintro _ w3 ⟨rfl, hb⟩
            have B3 := Lib.hid (B.out.trans (hb.mono hz))
            have hz3 := B3.out.size
            have c0 := (hb.cell (p := ⟨b, p + j * 3, none⟩) (Nat.lt_of_lt_of_le hbw hz)).trans g0
            obtain ⟨v', w', hap, ho', hbb⟩ := (O.out.below hb).one eInt 33 x0 #[.int .i64 x0] rfl g3 (by rw [List.length_append]; have := BL.out k; have := WL.out (y : Int) (ns.take j); rw [List.length_take] at this; omega) hz3
            have O3 := Lib.hid (show OwnF fI 3 w' w1.heap.size v' (bk l k ++ wth l (y : Int) (ns.take (j + 1))) by rw [R.out, ← List.append_assoc]; exact ho')
            have B4 := Lib.hid (B3.out.trans hbb)
            clear hb ho' hbb
            go_wp2_with (at_builtin; refine Lib.wpList_append_run _ rfl _ _ _ _ rfl _ _ rfl rfl _ _ hap ?_)
            go_roundw
            case rel => exact ⟨j + 1, by go_num, hlt, O3.out, B4.out⟩
            case measure => simp [intOf]; omega
          · have R := Lib.hid (YN.out hq)
            have d1 : (q == (y : Int)) = false := by simpa using hq
            have K3 := Lib.hid (KC.out _ B.out)
            clear YY YN hq KC
            go_wp2_with fail
            refine K3.out.mono ?_
            rintro _ w3 ⟨rfl, hb⟩
            have B3 := Lib.hid (B.out.trans (hb.mono hz))
            have O3 := Lib.hid (show OwnF fI 3 w3 w1.heap.size _ (bk l k ++ wth l (y : Int) (ns.take (j + 1))) by rw [R.out]; exact O.out.below hb)
            clear hb
            go_wp2_with fail
            go_roundw
            case rel => exact ⟨j + 1, by go_num, hlt, O3.out, B3.out⟩
            case measure => simp [intOf]; omega
        · have O3 := Lib.hid (show OwnF fI 3 _ w1.heap.size _ (bk l (k + 1)) by
            have e : ns.take j = ns := List.take_of_length_le (by have := NL.out; omega)
            have := O.out
            rw [e, ← BSk.out] at this
            exact this)
          have hyk : y = 10 + k := HY.out
          have HK := Lib.hid (show (y : Int) + 1 = ((10 + (k + 1) : Nat) : Int) by omega)
          clear hb ho hyk
          go_wp2_with fail
          go_roundw
          case rel => exact ⟨k + 1, by rw [← HK.out], by omega, O3.out, B.out⟩
          case measure => have := HY.out; simp [intOf]; omega
    · have R := Lib.hid (show F = bk l k by rw [BK.out, show k = 151 by omega])
      have dk := df (show ¬ ((10 + k : Nat) : Int) ≤ 160 by omega)
      obtain ⟨y, hy⟩ : ∃ y : Nat, y = 10 + k := ⟨_, rfl⟩
      rw [← hy] at dk ⊢
      clear hy
      go_wp2_with fail
      go_ret
      exact outF_own R.out O.out (B1.out.trans (B.out.mono hz1))

set_option maxRecDepth 100000 in
set_option maxHeartbeats 2000000 in
theorem rsame_any (A1 A2 : Option Addr) (c1 c2 : Nat) (l : List Lk) (w : World) (hl : l.length ≤ 1000000) (h1 : FlAt fL w w.heap.size A1 l) (h2 : FlAt fL w w.heap.size A2 l) : Calls Try.prog 12 #[.slice A1 l.length c1, .slice A2 l.length c2] w (OutB w true) := by
  have H1 := Lib.hid h1
  have H2 := Lib.hid h2
  clear h1 h2
  go_enter Try.func12, Try.ntmps12
  go_wp2_with fail
  go_loopw [5] (fun i wr => ∃ k : Nat, i = .int .i64 k ∧ k ≤ l.length ∧ Below w.heap.size w wr) (fun i _ => l.length - (intOf i).toNat)
  case atStart => exact ⟨0, rfl, Nat.zero_le _, Below.refl _ _⟩
  case round =>
    obtain ⟨k, rfl, hk, hb⟩ := hrel
    have B := Lib.hid hb
    by_cases hlt : k < l.length
    · obtain ⟨b, p, rfl, _, g0, g1, g2, _⟩ := lk_cell (H1.out.below hb) k hlt
      obtain ⟨b', p', rfl, _, g3, g4, g5, _⟩ := lk_cell (H2.out.below hb) k hlt
      clear hb
      generalize l[k].1 = x0 at *
      generalize l[k].2.1 = x1 at *
      generalize l[k].2.2 = x2 at *
      go_wp2_with fail
      go_quiet (fail)
      go_wp2_with fail
      go_roundw
      case rel => exact ⟨k + 1, by go_num, hlt, below_drewN B.out _⟩
      case measure => simp [intOf]; omega
    · clear hb
      go_wp2_with fail
      go_ret
      exact outB rfl B.out
set_option maxRecDepth 100000 in
set_option maxHeartbeats 2000000 in
theorem rsameI_any (A1 A2 : Option Addr) (c1 c2 : Nat) (l : List Int) (w : World) (hl : l.length ≤ 1000000) (h1 : FlAt fI w w.heap.size A1 l) (h2 : FlAt fI w w.heap.size A2 l) : Calls Try.prog 21 #[.slice A1 l.length c1, .slice A2 l.length c2] w (OutB w true) := by
  have H1 := Lib.hid h1
  have H2 := Lib.hid h2
  clear h1 h2
  go_enter Try.func21, Try.ntmps21
  go_wp2_with fail
  go_loopw [5] (fun i wr => ∃ k : Nat, i = .int .i64 k ∧ k ≤ l.length ∧ Below w.heap.size w wr) (fun i _ => l.length - (intOf i).toNat)
  case atStart => exact ⟨0, rfl, Nat.zero_le _, Below.refl _ _⟩
  case round =>
    obtain ⟨k, rfl, hk, hb⟩ := hrel
    have B := Lib.hid hb
    by_cases hlt : k < l.length
    · obtain ⟨b, p, rfl, _, g0, _⟩ := fI_cell (H1.out.below hb) k hlt
      obtain ⟨b', p', rfl, _, g1, _⟩ := fI_cell (H2.out.below hb) k hlt
      clear hb
      generalize l[k] = x0 at *
      go_wp2_with fail
      go_quiet (fail)
      go_wp2_with fail
      go_roundw
      case rel => exact ⟨k + 1, by go_num, hlt, below_drewN B.out _⟩
      case measure => simp [intOf]; omega
    · clear hb
      go_wp2_with fail
      go_ret
      exact outB rfl B.out
end Go.Proofs.Ythfkmmgckiijcaa.Lnk
