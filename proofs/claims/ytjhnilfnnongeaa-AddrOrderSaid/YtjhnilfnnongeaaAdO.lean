/- AddrOrder walked. -/
import Derived.Test.YtjhnilfnnongeaaAdN
set_option linter.unusedVariables false
namespace Go.Proofs.Ytjhnilfnnongeaa.Adr
open Go.RowKit

/-! The order does not matter. -/
theorem lst_mem {l m : List Clm} (h : ∀ c, c ∈ l ↔ c ∈ m) (c : Clm) : lst l c = lst m c := by
  rw [Bool.eq_iff_iff, lst_iff, lst_iff]
  exact ⟨fun g d hd => g d ((h d).2 hd), fun g d hd => g d ((h d).1 hd)⟩
theorem stp_mem {l m : List Clm} (h : ∀ c, c ∈ l ↔ c ∈ m) (c : Clm) : stp l c = stp m c := by unfold stp; rw [lst_mem h]
theorem rnd_mem {l m : List Clm} (h : ∀ c, c ∈ l ↔ c ∈ m) : ∀ c, c ∈ rnd l ↔ c ∈ rnd m := by
  intro c
  unfold rnd
  rw [List.mem_map, List.mem_map]
  exact ⟨fun ⟨d, hd, e⟩ => ⟨d, (h d).1 hd, by rw [← e, stp_mem h]⟩, fun ⟨d, hd, e⟩ => ⟨d, (h d).2 hd, by rw [← e, stp_mem h]⟩⟩
theorem itR_mem (n : Nat) : ∀ {l m : List Clm}, (∀ c, c ∈ l ↔ c ∈ m) → ∀ c, c ∈ itR n l ↔ c ∈ itR n m := by
  induction n with
  | zero => exact fun h => h
  | succ n ih => exact fun h => ih (rnd_mem h)
/-- The list turned round and rotated. -/
def ro (l : List Clm) (by_ k : Nat) : Nat := (2 * l.length - 1 - k + by_) % l.length
def rot (l : List Clm) (by_ k : Nat) : List Clm := (List.range k).map fun i => l.getD (ro l by_ i) (0, 0, 0)
theorem rot_one (l : List Clm) (b k : Nat) : rot l b (k + 1) = rot l b k ++ [l.getD (ro l b k) (0, 0, 0)] := by
  unfold rot; rw [List.range_succ, List.map_append]; rfl
theorem ro_lt (l : List Clm) (b k : Nat) (h : k < l.length) : ro l b k < l.length := Nat.mod_lt _ (by omega)
theorem rot_len (l : List Clm) (b k : Nat) : (rot l b k).length = k := by unfold rot; simp
theorem rot_at (l : List Clm) (b k i : Nat) (h : i < k) (hk : k ≤ l.length) : (rot l b k)[i]'(by rw [rot_len]; exact h) = l[ro l b i]'(ro_lt l b i (by omega)) := by
  unfold rot
  rw [List.getElem_map, List.getElem_range, List.getD_eq_getElem?_getD, List.getElem?_eq_getElem (ro_lt l b i (by omega))]
  rfl
theorem ro_inj (l : List Clm) (b i j : Nat) (hi : i < l.length) (hj : j < l.length) (h : ro l b i = ro l b j) : i = j := by
  unfold ro at h
  generalize l.length = n at *
  have key : ∀ x y : Nat, x ≤ y → y - x < n → x % n = y % n → x = y := fun x y hxy hd he => by
    have : (y - x) % n = 0 := by
      have := (Nat.sub_mod_eq_zero_of_mod_eq he.symm)
      exact this
    rw [Nat.mod_eq_of_lt hd] at this
    omega
  rcases Nat.le_total i j with h1 | h1
  · have := key (2 * n - 1 - j + b) (2 * n - 1 - i + b) (by omega) (by omega) h.symm
    omega
  · have := key (2 * n - 1 - i + b) (2 * n - 1 - j + b) (by omega) (by omega) h
    omega
/-- Each place comes up. -/
theorem ro_onto (l : List Clm) (b q : Nat) (hq : q < l.length) : ∃ i, i < l.length ∧ ro l b i = q := by
  refine ⟨(2 * l.length - 1 - q + b) % l.length, Nat.mod_lt _ (by omega), ?_⟩
  unfold ro
  generalize l.length = n at *
  have hd := Nat.div_add_mod (2 * n - 1 - q + b) n
  generalize (2 * n - 1 - q + b) / n = k at hd
  have hm : (2 * n - 1 - q + b) % n < n := Nat.mod_lt _ (by omega)
  generalize (2 * n - 1 - q + b) % n = r at *
  have e : 2 * n - 1 - r + b = q + n * k := by
    omega
  rw [e, Nat.add_mul_mod_self_left, Nat.mod_eq_of_lt hq]
theorem rot_mem (l : List Clm) (b : Nat) (c : Clm) : c ∈ l ↔ c ∈ rot l b l.length := by
  constructor
  · intro h
    obtain ⟨q, hq, rfl⟩ := List.getElem_of_mem h
    obtain ⟨i, hi, e⟩ := ro_onto l b q hq
    have := rot_at l b l.length i hi (Nat.le_refl _)
    simp only [e] at this
    rw [← this]; exact List.getElem_mem _
  · intro h
    obtain ⟨i, hi, rfl⟩ := List.getElem_of_mem h
    rw [rot_len] at hi
    rw [rot_at l b l.length i hi (Nat.le_refl _)]
    exact List.getElem_mem _
theorem rot_chk {l : List Clm} (h : chk l = 0) (b : Nat) : chk (rot l b l.length) = 0 := by
  rw [chk_zero] at h ⊢
  refine ⟨by rw [rot_len]; exact h.1, fun c hc => h.2.1 c ((rot_mem l b c).2 hc), ?_⟩
  rw [List.nodup_iff_pairwise_ne, List.pairwise_iff_getElem]
  intro i j hi hj hij he
  rw [List.getElem_map, List.getElem_map] at he
  have hi2 : i < l.length := by simpa [rot_len] using hi
  have hj2 : j < l.length := by simpa [rot_len] using hj
  rw [rot_at l b l.length i hi2 (Nat.le_refl _), rot_at l b l.length j hj2 (Nat.le_refl _)] at he
  have g := (List.getElem_inj (xs := l.map Prod.fst) (i := ro l b i) (j := ro l b j) (h₀ := by simp; exact ro_lt l b i hi2) (h₁ := by simp; exact ro_lt l b j hj2) h.2.2).1 (by simpa using he)
  have := ro_inj l b i j hi2 hj2 g
  omega
theorem stl_one {l m : List Clm} (h : chk l = 0) (hm : chk m = 0) (hlm : ∀ c, c ∈ l ↔ c ∈ m) (i k : Nat) (hi : i < (stl l).length) (hk : k < (stl m).length) (he : (stl l)[i].1 = (stl m)[k].1) : (stl l)[i] = (stl m)[k] := by
  have h1 : (stl m)[k] ∈ stl l := by
    have h2 := (itR_mem 700 hlm (stl m)[k]).2 (by rw [← stl_yes hm]; exact List.getElem_mem _)
    rw [stl_yes h]; exact h2
  obtain ⟨j, hj, e⟩ := List.getElem_of_mem h1
  rw [← e] at he ⊢
  have hL : (stl l).length = l.length := stl_len
  have e1 := (stl_get h i hi (by omega)).1
  have e2 := (stl_get h j hj (by omega)).1
  have g := (List.getElem_inj (xs := l.map Prod.fst) (i := i) (j := j) (h₀ := by simp; omega) (h₁ := by simp; omega) ((chk_zero l).1 h).2.2).1 (by simp; omega)
  subst g
  rfl

set_option maxRecDepth 100000 in
set_option maxHeartbeats 8000000 in
theorem law_order (w : World) (A : Option Addr) (c : Nat) (l : List Clm) (y : Int) (hy : 0 ≤ y ∧ y ≤ 255) (hl : l.length ≤ 9223372036854775807) (hA : ClAt w w.heap.size A l) :
    Calls Try.prog 9 #[.slice A l.length c, .int .u8 y] w (OutB w true) := by
  have HA := Lib.hid hA
  clear hA
  by_cases h30 : 30 < l.length
  · have d := dt h30
    go_enter Try.func9, Try.ntmps9
    go_wp2_with fail
    refine (awake_any _).mono ?_
    rintro _ w1 ⟨rfl, hb⟩
    have B1 := Lib.hid hb
    clear hb
    go_wp2_with fail
    go_ret
    exact outB rfl B1.out
  have d := df h30
  have C2 := Lib.hid (fun w hA => rcheck_any A c l w hl hA)
  by_cases h0 : chk l = 0
  · rw [h0] at C2
    obtain ⟨q, rfl⟩ : ∃ q : Nat, y = q := ⟨y.toNat, by omega⟩
    have RC := rot_chk h0 q
    have SO := Lib.hid (fun i k hi hk he => stl_one h0 RC (rot_mem l q) i k hi hk he)
    have L1 := Lib.hid (show (stl l).length = l.length from stl_len)
    have L2 := Lib.hid (show (stl (rot l q l.length)).length = l.length by rw [stl_len, rot_len])
    have K1 := Lib.hid (fun w hA => asettle_any A c l w (by omega) hA)
    have K2 := Lib.hid (fun A c w hA => asettle_any A c (rot l q l.length) w (by rw [rot_len]; omega) hA)
    have RO := Lib.hid (fun k => rot_one l q k)
    have RL := Lib.hid (fun k => rot_len l q k)
    have RT := Lib.hid (fun k h => ro_lt l q k h)
    have RI := Lib.hid (fun (k : Nat) (h : k < l.length) => (show (2 * (l.length : Int) - 1 - (k : Int) + (q : Int)) % (l.length : Int) = ((ro l q k : Nat) : Int) by
      have e : 2 * (l.length : Int) - 1 - (k : Int) + (q : Int) = ((2 * l.length - 1 - k + q : Nat) : Int) := by omega
      rw [e]; exact (Int.natCast_emod _ _).symm))
    have hq : (q : Int) ≤ 255 := hy.2
    clear h0 RC hy
    go_enter Try.func9, Try.ntmps9
    go_wp2_with fail
    refine (C2.out _ HA.out).mono ?_
    rintro _ w1 ⟨rfl, hb⟩
    have B1 := Lib.hid hb
    clear hb
    go_wp2_with fail
    go_loopw [6, 7] (fun v i wr => ∃ k : Nat, i = .int .i64 k ∧ k ≤ l.length ∧ OwnC wr w1.heap.size v (rot l q k) ∧ Below w1.heap.size w1 wr) (fun _ i _ => l.length - (intOf i).toNat)
    case atStart => exact ⟨0, rfl, Nat.zero_le _, OwnF.nil _ _, Below.refl _ _⟩
    case round =>
      obtain ⟨k, rfl, hk, ho, hb⟩ := hrel
      have B := Lib.hid hb
      have hz := hb.size
      have O := Lib.hid ho
      by_cases hlt : k < l.length
      · have hr := RI.out k hlt
        have hrl := RT.out k hlt
        have R1 := Lib.hid (RO.out k)
        have RK := RL.out k
        obtain ⟨r, hrr⟩ : ∃ r, r = ro l q k := ⟨_, rfl⟩
        rw [← hrr] at hr hrl R1
        obtain ⟨b, p, rfl, hbw, g0, g1, g2, g3, g4, g5⟩ := cl_cell ((HA.out.next B1.out).below hb) r hrl
        rw [List.getD_eq_getElem?_getD, List.getElem?_eq_getElem hrl, Option.getD_some, show l[r] = (l[r].1, l[r].2.1, l[r].2.2) from rfl] at R1
        clear hb ho hrr
        generalize l[r].1 = e at *
        generalize l[r].2.1 = a at *
        generalize l[r].2.2 = t at *
        obtain ⟨v', w', hap, ho', hbb⟩ := O.out.one eClm 29 (e, a, t) #[.int .u64 e, .int .i64 a, .int .i64 t] rfl ⟨g3, g4, g5⟩ (by omega) hz
        have O' := Lib.hid (show OwnC w' w1.heap.size v' (rot l q (k + 1)) by rw [R1.out]; exact ho')
        have B' := Lib.hid (B.out.trans hbb)
        clear ho' hbb RK
        have i2 : (r : Int) < (l.length : Int) := by omega
        go_wp2_with (at_builtin; refine Lib.wpList_append_run _ rfl _ _ _ _ rfl _ _ rfl rfl _ _ hap ?_)
        go_roundw
        case rel => exact ⟨k + 1, by go_num, hlt, O'.out, B'.out⟩
        case measure => simp [intOf]; omega
      · obtain rfl : k = l.length := by omega
        obtain ⟨A2, c2, rfl, hcl, _⟩ := ho.read
        have M := Lib.hid hcl
        clear hb ho hcl
        have BW := Lib.hid (B1.out.trans (B.out.mono B1.out.size))
        generalize rot l q l.length = m at *
        go_wp2_with fail
        refine (K1.out _ (HA.out.next BW.out)).mono ?_
        rintro _ w3 ⟨A3, c3, rfl, hs, _, _, hb⟩
        have B3 := Lib.hid (BW.out.trans (hb.mono BW.out.size))
        have S3 := Lib.hid hs
        have M := Lib.hid (M.out.next hb)
        clear hb hs
        go_wp2_with fail
        refine (K2.out _ _ _ M.out).mono ?_
        rintro _ w4 ⟨A4, c4, rfl, hs, _, _, hb⟩
        have B4 := Lib.hid (B3.out.trans (hb.mono B3.out.size))
        have S4 := Lib.hid hs
        have S3 := Lib.hid (S3.out.next hb)
        clear hb hs
        generalize stl l = x at *
        generalize stl m = z at *
        have e1 : ((x.length : Int) != (l.length : Int)) = false := by rw [L1.out]; simp
        have e2 : ((x.length : Int) == (l.length : Int)) = true := by rw [L1.out]; simp
        have e3 : decide (x.length = l.length) = true := dt L1.out
        have f1 : ((z.length : Int) != (l.length : Int)) = false := by rw [L2.out]; simp
        have f2 : ((z.length : Int) == (l.length : Int)) = true := by rw [L2.out]; simp
        have f3 : decide (z.length = l.length) = true := dt L2.out
        go_wp2_with fail
        clear e1 e2 e3 f1 f2 f3
        go_loopw [10] (fun i wr => ∃ k : Nat, i = .int .i64 k ∧ k ≤ l.length ∧ Below w4.heap.size w4 wr) (fun i _ => l.length - (intOf i).toNat)
        case atStart => exact ⟨0, rfl, Nat.zero_le _, Below.refl _ _⟩
        case round =>
          obtain ⟨i, rfl, hi, hb⟩ := hrel
          have B := Lib.hid hb
          have hz := hb.size
          clear hb
          by_cases hlt : i < l.length
          · obtain ⟨w9, rfl⟩ : ∃ w9, w9 = wr := ⟨wr, rfl⟩
            go_wp2_with fail
            go_loopw [11] (fun i wr => ∃ k : Nat, i = .int .i64 k ∧ k ≤ l.length ∧ Below w4.heap.size w4 wr) (fun i _ => l.length - (intOf i).toNat)
            case atStart => exact ⟨0, rfl, Nat.zero_le _, B.out⟩
            case round =>
              obtain ⟨k, rfl, hk, hb⟩ := hrel
              have B := Lib.hid hb
              have hz := hb.size
              by_cases hlk : k < l.length
              · have hx : i < x.length := by have := L1.out; omega
                have hzz : k < z.length := by have := L2.out; omega
                obtain ⟨b, p, rfl, hbw, g0, g1, g2, _⟩ := cl_cell (S3.out.below hb) i hx
                obtain ⟨b2, p2, rfl, hbw2, f0, f1, f2, _⟩ := cl_cell (S4.out.below hb) k hzz
                clear hb
                by_cases he : x[i].1 = z[k].1
                · have E := SO.out i k hx hzz he
                  rw [E] at g0 g1 g2
                  clear he E
                  generalize z[k].1 = e at *
                  generalize z[k].2.1 = a at *
                  generalize z[k].2.2 = t at *
                  go_wp2_with fail
                  go_quiet (fail)
                  go_wp2_with fail
                  go_roundw
                  case rel => exact ⟨k + 1, by go_num, hlk, below_drewN B.out _⟩
                  case measure => simp [intOf]; omega
                · have n1 : (x[i].1 == z[k].1) = false := by simpa using he
                  have n2 : decide (x[i].1 = z[k].1) = false := df he
                  clear he
                  go_wp2_with fail
                  go_quiet (fail)
                  go_wp2_with fail
                  go_roundw
                  case rel => exact ⟨k + 1, by go_num, hlk, below_drewN B.out _⟩
                  case measure => simp [intOf]; omega
              · obtain rfl : k = l.length := by omega
                clear hb
                go_wp2_with fail
                go_roundw
                case rel => exact ⟨i + 1, by go_num, hlt, B.out⟩
                case measure => simp [intOf]; omega
          · obtain rfl : i = l.length := by omega
            go_wp2_with fail
            refine (awake_any _).mono ?_
            rintro _ w5 ⟨rfl, hb⟩
            have B5 := Lib.hid (B4.out.trans ((B.out.trans (hb.mono hz)).mono B4.out.size))
            clear hb
            go_wp2_with fail
            go_ret
            exact outB rfl B5.out
  · have n1 : (chk l != 0) = true := by simpa using h0
    have n2 : (chk l == 0) = false := by simpa using h0
    generalize chk l = q at *
    have n3 : decide (q = 0) = false := df h0
    clear h0
    go_enter Try.func9, Try.ntmps9
    go_wp2_with fail
    refine (C2.out _ HA.out).mono ?_
    rintro _ w1 ⟨rfl, hb⟩
    have B1 := Lib.hid hb
    clear hb
    go_wp2_with fail
    refine (awake_any _).mono ?_
    rintro _ w3 ⟨rfl, hb⟩
    have B3 := Lib.hid (B1.out.trans (hb.mono B1.out.size))
    clear hb
    go_wp2_with fail
    go_ret
    exact outB rfl B3.out
end Go.Proofs.Ytjhnilfnnongeaa.Adr
