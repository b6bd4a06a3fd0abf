/- The law Once. -/
import Derived.Test.YticlcjabhemdiaaYK
set_option linter.unusedVariables false
namespace Go.Proofs.Yticlcjabhemdiaa.Rpl
open Go.RowKit

theorem eInt : Elems Try.prog 39 3 fI.sz := Elems.mk' Try.underlying39 (z := .int .i64 0) (m := 8) (by kernel_rfl) (by decide) rfl
abbrev OwnI (w : World) (B : Nat) (v : Value) (l : List Int) : Prop := OwnF fI 3 w B v l
/-- An int appended: what the call does not write is kept. -/
theorem app_num {w : World} {B : Nat} {v : Value} {l : List Int} (h : OwnI w B v l) (x : Int) (hx : I64 x) (hl : l.length ≤ 1000000) (hB : B ≤ w.heap.size) :
    ∃ v' w', (Builtin.append_ #[39, 39] 39 #[v, .slice (some ⟨w.heap.size, 0, none⟩) 1 1]).run Try.prog (w.alloc (.cells #[.int .i64 x] 3)) = .ok v' w' ∧ OwnI w' B v' (l ++ [x]) ∧ (w.alloc (.cells #[.int .i64 x] 3)).grownBy w' v.ownBlock ∧ Below B w w' := by
  obtain ⟨v', w', h1, h2, h3, _, h5⟩ := (h.alloc (.cells #[.int .i64 x] 3)).app eInt (c := 1) 39 (FlAt.lit (F := fI) w [x] #[.int .i64 x] 3 (by unfold maxLen; simp) rfl (fun a ha => by rw [List.mem_singleton.1 ha]; exact hx)) (by simp; omega) (Nat.le_trans hB (by simp))
  exact ⟨v', w', h1, h2, h5, ((Below.refl B w).alloc hB _).trans h3⟩
theorem put2_grown (w : World) (k : Nat) (t : Int) (b : Nat) : w.grownBy (put2 w k t b) (some k) := by
  have h := put2_below (Below.refl k w) (Nat.le_refl k) t b
  exact ⟨h.os, h.tape, h.output, h.size, fun j _ hne => put2_other w (fun e => hne (by rw [e])) t b⟩
theorem own_put2 {w : World} {g : Nat} {v : Value} {l : List Int} (h : OwnI w (g + 1) v l) (hg : g < w.heap.size) (t : Int) (b : Nat) : OwnI (put2 w g t b) (g + 1) v l :=
  h.kept (put2_grown w g t b) (Or.inr fun e => by have := (h.lt g e).1; omega)
theorem own_not {w : World} {B g : Nat} {v : Value} {l : List Int} (h : OwnI w B v l) (hg : g < B ∨ w.heap.size ≤ g) : some g ≠ v.ownBlock := fun e => by have := h.lt g e.symm; omega
set_option maxRecDepth 100000 in
set_option maxHeartbeats 8000000 in
theorem law_once (KL0 : ∀ w, Calls Try.prog 13 #[] w (OutB w true)) (w : World) (A : Option Addr) (c : Nat) (l : List Int) (hl : l.length ≤ 9223372036854775807) (hA : FlAt fI w w.heap.size A l) :
    Calls Try.prog 6 #[.slice A l.length c] w (OutB w true) := by
  have HA := Lib.hid hA
  have KL := Lib.hid KL0
  unfold OutB at KL
  clear hA KL0
  by_cases h200 : 200 < l.length
  · have d0 : decide ((200 : Int) < (l.length : Int)) = true := dt (by omega)
    go_enter Try.func6, Try.ntmps6
    go_wp2_with fail
    refine (KL.out _).mono ?_
    rintro _ w1 ⟨rfl, hb⟩
    have B1 := Lib.hid hb
    clear hb
    go_wp2_with fail
    go_ret
    exact outB rfl B1.out
  have d0 : decide ((200 : Int) < (l.length : Int)) = false := df (by omega)
  have ll : l.length ≤ 200 := by omega
  clear hl h200
  go_enter Try.func6, Try.ntmps6
  go_wp2_with fail
  refine (pnew_any _).mono ?_
  rintro _ w1 ⟨rfl, hb⟩
  obtain ⟨g, hg⟩ : ∃ g, g = w1.heap.size := ⟨_, rfl⟩
  have hg0 : w.heap.size ≤ g := by rw [hg]; exact hb.size
  have B1 := Lib.hid hb
  clear hb
  go_wp2_with fail
  rw [← hg]
  have HG := Lib.hid hg
  clear hg
  go_loopw [4, 5, 6] (fun vt vs vk wr => ∃ (k : Nat) (t : Int) (b : Nat) (top : Int) (s : List Int) (A1 : Option Addr) (c1 : Nat), vk = .int .i64 k ∧ k ≤ l.length ∧ vt = .int .i64 top ∧ vs = .slice A1 s.length c1 ∧ Hid (wr.heap[g]? = some (bxW t b)) ∧ g < wr.heap.size ∧ Hid (OwnI wr (g + 1) (.slice A1 s.length c1) s) ∧ Hid (Once (t, b) top s) ∧ s.length ≤ k ∧ Below w.heap.size w wr) (fun _ _ vk _ => l.length - (intOf vk).toNat)
  case atStart => exact ⟨0, -1, 0, -1, [], none, 0, rfl, Nat.zero_le _, rfl, rfl, Lib.hid (by rw [HG.out]; exact blk_new w1 _), by rw [HG.out]; simp, Lib.hid (OwnF.nil _ _), Lib.hid inv_new, by simp, B1.out.alloc B1.out.size _⟩
  case round =>
    obtain ⟨k, t, b, top, s, A1, c1, rfl, hk, rfl, rfl, HX, hz, O, HO, hsk, hb⟩ := hrel
    have B := Lib.hid hb
    have HK := Lib.hid (HA.out.next hb)
    clear hb
    by_cases hlt : k < l.length
    rotate_left
    · obtain rfl : k = l.length := by omega
      clear HX O HO HK
      go_wp2_with fail
      refine (KL.out _).mono ?_
      rintro _ w2 ⟨rfl, hb⟩
      have B2 := Lib.hid (B.out.trans (hb.mono B.out.size))
      clear hb
      go_wp2_with fail
      go_ret
      exact outB rfl B2.out
    obtain ⟨bb, p, rfl, hbw, hc, hn⟩ := fI_cell HK.out k hlt
    have K1 := Lib.hid (fun w => paccept_any t b l[k] w HO.out.lt hn)
    have F1 := Lib.hid (fun (h : (acc (t, b) l[k]).2 = true) => inv_fresh HO.out h)
    have F2 := Lib.hid (fun (h1 : In l[k]) (h2 : top < l[k]) => inv_high HO.out h1 h2)
    have F3 := Lib.hid (fun (h : (acc (t, b) l[k]).2 = true) => inv_next HO.out h)
    have F4 := Lib.hid (fun (h : (acc (t, b) l[k]).2 = false) => acc_no h)
    unfold OutA at K1
    clear HK
    generalize l[k] = n at *
    generalize acc (t, b) n = r at *
    obtain ⟨⟨t1, b1⟩, ok⟩ := r
    simp only at K1 F1 F2 F3 F4
    have e0 := blk_cell HX.out 0 (v := .int .i64 t) rfl
    have e1 := blk_cell HX.out 1 (v := .int .u64 (b : Int)) rfl
    cases ok with
    | true =>
      obtain ⟨i1, i2⟩ := F1.out rfl
      have F5 := Lib.hid (F3.out rfl)
      have i2 := Lib.hid i2
      unfold In at i1
      have d1 : decide (0 ≤ n) = true := dt i1.1
      have d2 : decide (n ≤ 1099511627776) = true := dt i1.2
      clear F1 F2 F3 F4
      obtain ⟨g1, hg1⟩ : ∃ g1, decide (top < n) = g1 := ⟨_, rfl⟩
      cases g1 with
      | true =>
        have F6 := Lib.hid (by have := F5.out; rw [if_pos (of_decide_eq_true hg1)] at this; exact this)
        clear F5
        go_wp2_with fail
        refine (K1.out _).mono ?_
        rintro _ w2 ⟨rfl, hb⟩
        have X2 := Lib.hid (blk_below HX.out hb hz)
        have hg2 : g < w2.heap.size := Nat.lt_of_lt_of_le hz hb.size
        have B2 := Lib.hid (B.out.trans (hb.mono B.out.size))
        have O2 := Lib.hid (O.out.below hb)
        have hzz := hb.size
        clear hb K1 e0 e1 HX B
        have X := Lib.hid (blk_alloc X2.out (bxW t1 b1))
        have Y := Lib.hid (blk_new w2 (bxW t1 b1))
        have BB := Lib.hid (B2.out.alloc B2.out.size (bxW t1 b1))
        have OO := Lib.hid (O2.out.alloc (bxW t1 b1))
        have hgs : g < (w2.alloc (bxW t1 b1)).heap.size := by simp; omega
        obtain ⟨w3, hw3⟩ : ∃ w3, w3 = w2.alloc (bxW t1 b1) := ⟨_, rfl⟩
        rw [← hw3] at X Y BB OO hgs
        have r0 := fun x => blk_cell (blk_alloc X2.out x) 0 (v := .int .i64 t) rfl
        have r1 := fun x => blk_cell (blk_alloc X2.out x) 1 (v := .int .u64 (b : Int)) rfl
        have S3 := Lib.hid (by obtain ⟨A5, c5, e5, h5, _⟩ := OO.out.read; cases e5; exact h5 : FlAt fI w3 w3.heap.size A1 s)
        clear r0 r1
        go_wp2_with fail
        rw [← hw3]
        clear hw3
        go_loop [11] (fun vj => ∃ j : Nat, vj = .int .i64 j ∧ j ≤ s.length) (fun vj => s.length - (intOf vj).toNat)
        case atStart => exact ⟨0, rfl, Nat.zero_le _⟩
        case round =>
          obtain ⟨j, rfl, hj⟩ := hrel
          by_cases hjl : j < s.length
          · obtain ⟨b5, p5, rfl, _, hc5, _⟩ := fI_cell S3.out j hjl
            have E5 : (s[j] == n) = false := by simpa using i2.out _ (List.getElem_mem hjl)
            clear S3 OO i2 F6
            generalize s[j] = y at *
            go_wp2_with fail
            go_round
            case rel => exact ⟨j + 1, by go_num, hjl⟩
            case measure => simp [intOf]; omega
          obtain rfl : j = s.length := by omega
          obtain ⟨v6, w6, hap, ho6, hg6, hb6⟩ := app_num OO.out n hn (by omega) hgs
          obtain ⟨A6, c6, e6, _⟩ := ho6.form
          subst e6
          have X6 := Lib.hid (blk_grown (blk_alloc X.out _) hg6 (own_not O2.out (Or.inl (by omega))))
          have Y6 := Lib.hid (blk_grown (blk_alloc Y.out _) hg6 (own_not O2.out (Or.inr (by omega))))
          have BB := Lib.hid (BB.out.trans (hb6.mono (by omega)))
          have OO := Lib.hid ho6
          have hgs : g < w6.heap.size := Nat.lt_of_lt_of_le hgs hb6.size
          clear ho6 hg6 hb6 X Y S3 i2
          have X := X6
          have Y := Y6
          clear X6 Y6
          have x0 := blk_cell X.out 0 (v := .int .i64 t) rfl
          have x1 := blk_cell X.out 1 (v := .int .u64 (b : Int)) rfl
          have y0 := blk_cell Y.out 0 (v := .int .i64 t1) rfl
          have y1 := blk_cell Y.out 1 (v := .int .u64 (b1 : Int)) rfl
          have f0 := blk_fr X.out 0
          have f1 := blk_fr X.out 1
          obtain ⟨V, hV⟩ : ∃ V, V = put2 w6 g t1 b1 := ⟨_, rfl⟩
          have XV := Lib.hid (hV ▸ put2_blk X.out t1 b1)
          have BV := Lib.hid (show Below w.heap.size w V from hV ▸ put2_below BB.out hg0 t1 b1)
          have OV := Lib.hid (hV ▸ own_put2 OO.out hgs t1 b1)
          have zV : g < V.heap.size := by rw [hV]; unfold put2; simpa using hgs
          unfold put2 at hV
          go_wp2_with (at_builtin; refine Lib.wpList_append_run _ rfl _ _ _ _ rfl _ _ rfl rfl _ _ hap ?_)
          rw [← hV]
          clear hV
          go_roundw
          case rel => exact ⟨k + 1, t1, b1, n, _, _, _, by go_num, hlt, rfl, by rw [List.length_append]; rfl, XV, zV, OV, F6, by simp; omega, BV.out⟩
          case measure => simp [intOf]; omega
      | false =>
        have F6 := Lib.hid (by have := F5.out; rw [if_neg (of_decide_eq_false hg1)] at this; exact this)
        clear F5
        go_wp2_with fail
        refine (K1.out _).mono ?_
        rintro _ w2 ⟨rfl, hb⟩
        have X2 := Lib.hid (blk_below HX.out hb hz)
        have hg2 : g < w2.heap.size := Nat.lt_of_lt_of_le hz hb.size
        have B2 := Lib.hid (B.out.trans (hb.mono B.out.size))
        have O2 := Lib.hid (O.out.below hb)
        have hzz := hb.size
        clear hb K1 e0 e1 HX B
        have X := Lib.hid (blk_alloc X2.out (bxW t1 b1))
        have Y := Lib.hid (blk_new w2 (bxW t1 b1))
        have BB := Lib.hid (B2.out.alloc B2.out.size (bxW t1 b1))
        have OO := Lib.hid (O2.out.alloc (bxW t1 b1))
        have hgs : g < (w2.alloc (bxW t1 b1)).heap.size := by simp; omega
        obtain ⟨w3, hw3⟩ : ∃ w3, w3 = w2.alloc (bxW t1 b1) := ⟨_, rfl⟩
        rw [← hw3] at X Y BB OO hgs
        have r0 := fun x => blk_cell (blk_alloc X2.out x) 0 (v := .int .i64 t) rfl
        have r1 := fun x => blk_cell (blk_alloc X2.out x) 1 (v := .int .u64 (b : Int)) rfl
        have S3 := Lib.hid (by obtain ⟨A5, c5, e5, h5, _⟩ := OO.out.read; cases e5; exact h5 : FlAt fI w3 w3.heap.size A1 s)
        clear r0 r1
        go_wp2_with fail
        rw [← hw3]
        clear hw3
        go_loop [11] (fun vj => ∃ j : Nat, vj = .int .i64 j ∧ j ≤ s.length) (fun vj => s.length - (intOf vj).toNat)
        case atStart => exact ⟨0, rfl, Nat.zero_le _⟩
        case round =>
          obtain ⟨j, rfl, hj⟩ := hrel
          by_cases hjl : j < s.length
          · obtain ⟨b5, p5, rfl, _, hc5, _⟩ := fI_cell S3.out j hjl
            have E5 : (s[j] == n) = false := by simpa using i2.out _ (List.getElem_mem hjl)
            clear S3 OO i2 F6
            generalize s[j] = y at *
            go_wp2_with fail
            go_round
            case rel => exact ⟨j + 1, by go_num, hjl⟩
            case measure => simp [intOf]; omega
          obtain rfl : j = s.length := by omega
          obtain ⟨v6, w6, hap, ho6, hg6, hb6⟩ := app_num OO.out n hn (by omega) hgs
          obtain ⟨A6, c6, e6, _⟩ := ho6.form
          subst e6
          have X6 := Lib.hid (blk_grown (blk_alloc X.out _) hg6 (own_not O2.out (Or.inl (by omega))))
          have Y6 := Lib.hid (blk_grown (blk_alloc Y.out _) hg6 (own_not O2.out (Or.inr (by omega))))
          have BB := Lib.hid (BB.out.trans (hb6.mono (by omega)))
          have OO := Lib.hid ho6
          have hgs : g < w6.heap.size := Nat.lt_of_lt_of_le hgs hb6.size
          clear ho6 hg6 hb6 X Y S3 i2
          have X := X6
          have Y := Y6
          clear X6 Y6
          have x0 := blk_cell X.out 0 (v := .int .i64 t) rfl
          have x1 := blk_cell X.out 1 (v := .int .u64 (b : Int)) rfl
          have y0 := blk_cell Y.out 0 (v := .int .i64 t1) rfl
          have y1 := blk_cell Y.out 1 (v := .int .u64 (b1 : Int)) rfl
          have f0 := blk_fr X.out 0
          have f1 := blk_fr X.out 1
          obtain ⟨V, hV⟩ : ∃ V, V = put2 w6 g t1 b1 := ⟨_, rfl⟩
          have XV := Lib.hid (hV ▸ put2_blk X.out t1 b1)
          have BV := Lib.hid (show Below w.heap.size w V from hV ▸ put2_below BB.out hg0 t1 b1)
          have OV := Lib.hid (hV ▸ own_put2 OO.out hgs t1 b1)
          have zV : g < V.heap.size := by rw [hV]; unfold put2; simpa using hgs
          unfold put2 at hV
          go_wp2_with (at_builtin; refine Lib.wpList_append_run _ rfl _ _ _ _ rfl _ _ rfl rfl _ _ hap ?_)
          rw [← hV]
          clear hV
          go_roundw
          case rel => exact ⟨k + 1, t1, b1, top, _, _, _, by go_num, hlt, rfl, by rw [List.length_append]; rfl, XV, zV, OV, F6, by simp; omega, BV.out⟩
          case measure => simp [intOf]; omega
    | false =>
      obtain ⟨rfl, rfl⟩ := Prod.mk.inj (F4.out rfl)
      clear F1 F3 F4
      by_cases h0 : 0 ≤ n
      · have d1 := dt h0
        by_cases h1 : n ≤ 1099511627776
        · have d2 := dt h1
          have g1 : decide (top < n) = false := df fun h => by cases F2.out ⟨h0, h1⟩ h
          clear F2
          go_wp2_with fail
          refine (K1.out _).mono ?_
          rintro _ w2 ⟨rfl, hb⟩
          have X2 := Lib.hid (blk_below HX.out hb hz)
          have hg2 : g < w2.heap.size := Nat.lt_of_lt_of_le hz hb.size
          have B2 := Lib.hid (B.out.trans (hb.mono B.out.size))
          have O2 := Lib.hid (O.out.below hb)
          clear hb K1 e0 e1 HX B
          have x0 := blk_cell X2.out 0 (v := .int .i64 t1) rfl
          have x1 := blk_cell X2.out 1 (v := .int .u64 (b1 : Int)) rfl
          have r0 := fun x => blk_cell (blk_alloc X2.out x) 0 (v := .int .i64 t1) rfl
          have r1 := fun x => blk_cell (blk_alloc X2.out x) 1 (v := .int .u64 (b1 : Int)) rfl
          have f0 := blk_fr X2.out 0
          have f1 := blk_fr X2.out 1
          obtain ⟨V, hV⟩ : ∃ V, V = put2 w2 g t1 b1 := ⟨_, rfl⟩
          have XV := Lib.hid (hV ▸ put2_blk X2.out t1 b1)
          have BV := Lib.hid (show Below w.heap.size w V from hV ▸ put2_below B2.out hg0 t1 b1)
          have OV := Lib.hid (hV ▸ own_put2 O2.out hg2 t1 b1)
          have zV : g < V.heap.size := by rw [hV]; unfold put2; simpa using hg2
          unfold put2 at hV
          go_wp2_with fail
          rw [← hV]
          clear hV
          go_roundw
          case rel => exact ⟨k + 1, t1, b1, top, s, _, _, by go_num, hlt, rfl, rfl, Lib.hid (blk_alloc XV.out _), by simp; omega, Lib.hid (OV.out.alloc _), HO, by omega, BV.out.alloc BV.out.size _⟩
          case measure => simp [intOf]; omega
        · have d2 := df h1
          clear F2
          go_wp2_with fail
          refine (K1.out _).mono ?_
          rintro _ w2 ⟨rfl, hb⟩
          have X2 := Lib.hid (blk_below HX.out hb hz)
          have hg2 : g < w2.heap.size := Nat.lt_of_lt_of_le hz hb.size
          have B2 := Lib.hid (B.out.trans (hb.mono B.out.size))
          have O2 := Lib.hid (O.out.below hb)
          clear hb K1 e0 e1 HX B
          have x0 := blk_cell X2.out 0 (v := .int .i64 t1) rfl
          have x1 := blk_cell X2.out 1 (v := .int .u64 (b1 : Int)) rfl
          have r0 := fun x => blk_cell (blk_alloc X2.out x) 0 (v := .int .i64 t1) rfl
          have r1 := fun x => blk_cell (blk_alloc X2.out x) 1 (v := .int .u64 (b1 : Int)) rfl
          have f0 := blk_fr X2.out 0
          have f1 := blk_fr X2.out 1
          obtain ⟨V, hV⟩ : ∃ V, V = put2 w2 g t1 b1 := ⟨_, rfl⟩
          have XV := Lib.hid (hV ▸ put2_blk X2.out t1 b1)
          have BV := Lib.hid (show Below w.heap.size w V from hV ▸ put2_below B2.out hg0 t1 b1)
          have OV := Lib.hid (hV ▸ own_put2 O2.out hg2 t1 b1)
          have zV : g < V.heap.size := by rw [hV]; unfold put2; simpa using hg2
          unfold put2 at hV
          go_wp2_with fail
          rw [← hV]
          clear hV
          go_roundw
          case rel => exact ⟨k + 1, t1, b1, top, s, _, _, by go_num, hlt, rfl, rfl, Lib.hid (blk_alloc XV.out _), by simp; omega, Lib.hid (OV.out.alloc _), HO, by omega, BV.out.alloc BV.out.size _⟩
          case measure => simp [intOf]; omega
      · have d1 := df h0
        clear F2
        go_wp2_with fail
        refine (K1.out _).mono ?_
        rintro _ w2 ⟨rfl, hb⟩
        have X2 := Lib.hid (blk_below HX.out hb hz)
        have hg2 : g < w2.heap.size := Nat.lt_of_lt_of_le hz hb.size
        have B2 := Lib.hid (B.out.trans (hb.mono B.out.size))
        have O2 := Lib.hid (O.out.below hb)
        clear hb K1 e0 e1 HX B
        have x0 := blk_cell X2.out 0 (v := .int .i64 t1) rfl
        have x1 := blk_cell X2.out 1 (v := .int .u64 (b1 : Int)) rfl
        have r0 := fun x => blk_cell (blk_alloc X2.out x) 0 (v := .int .i64 t1) rfl
        have r1 := fun x => blk_cell (blk_alloc X2.out x) 1 (v := .int .u64 (b1 : Int)) rfl
        have f0 := blk_fr X2.out 0
        have f1 := blk_fr X2.out 1
        obtain ⟨V, hV⟩ : ∃ V, V = put2 w2 g t1 b1 := ⟨_, rfl⟩
        have XV := Lib.hid (hV ▸ put2_blk X2.out t1 b1)
        have BV := Lib.hid (show Below w.heap.size w V from hV ▸ put2_below B2.out hg0 t1 b1)
        have OV := Lib.hid (hV ▸ own_put2 O2.out hg2 t1 b1)
        have zV : g < V.heap.size := by rw [hV]; unfold put2; simpa using hg2
        unfold put2 at hV
        go_wp2_with fail
        rw [← hV]
        clear hV
        go_roundw
        case rel => exact ⟨k + 1, t1, b1, top, s, _, _, by go_num, hlt, rfl, rfl, Lib.hid (blk_alloc XV.out _), by simp; omega, Lib.hid (OV.out.alloc _), HO, by omega, BV.out.alloc BV.out.size _⟩
        case measure => simp [intOf]; omega
end Go.Proofs.Yticlcjabhemdiaa.Rpl
