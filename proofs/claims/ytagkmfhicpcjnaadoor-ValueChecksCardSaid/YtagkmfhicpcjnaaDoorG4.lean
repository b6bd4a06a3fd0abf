/- Texts of this proof, one behind the other: no claim of its own. -/
import Derived.Test.YtagkmfhicpcjnaaDoorG3
import Derived.Test.YtagkmfhicpcjnaaDoorG2
import Derived.Deep.RegionHeld
import Derived.Test.YtagkmfhicpcjnaaDoorG1
import Derived.Test.YtagkmfhicpcjnaaDoorRows
import Derived.Lib.LaidU8
import Derived.Lib.LaidTab
import Derived.PinnedBridge
/- Layer 20: the reference's Parse. -/
set_option linter.unusedVariables false
set_option maxRecDepth 100000
namespace Go.Proofs.YtagkmfhicpcjnaaDoor.Vlu
open Go.RowKit
open Names (quo unq)
open Wire (bs)

theorem unq_size (l : List UInt8) : (unq l).1.length ≤ 60 := by
  unfold unq
  split
  · decide
  · split
    · show ([] : List UInt8).length ≤ 60
      decide
    · split
      · show ([] : List UInt8).length ≤ 60
        decide
      · dsimp only
        omega
theorem gss_size (s : ByteArray) : (gss s).2.2.size ≤ 100000 := by
  have hu := unq_size s.data.toList
  have e : (bs (unq s.data.toList).1).size ≤ 60 := by rw [Wire.bs_size]; exact hu
  have e0 : (ByteArray.empty).size = 0 := rfl
  unfold gss
  repeat' split
  all_goals first | (show (ByteArray.empty).size ≤ 100000; omega) | (show (bs (unq s.data.toList).1).size ≤ 100000; omega)
set_option maxRecDepth 100000 in
set_option maxHeartbeats 4000000 in
theorem rprs_any (s : ByteArray) (w : World) (hs : s.size ≤ 10000) : Calls Tryd.prog 35 #[.string s] w (OutD w (prs s)) := by
  have X := blk_new w (bxV z0)
  have B0 := alloc_below w (bxV z0)
  have hz : w.heap.size < (w.alloc (bxV z0)).heap.size := by simp
  have KG := Lib.hid (rgss_any s (w.alloc (bxV z0)) hs)
  have KP := Lib.hid (fun (w1 : World) => rprt_any (gss s) w1 (gss_size s))
  have q1 := seq_test (prt (gss s)) s
  have D : prs s = if s.size = 0 ∨ prt (gss s) ≠ s then (z0, 4) else (gss s, 0) := rfl
  unfold OutV at KG
  unfold OutY at KP
  generalize prs s = F at *
  generalize prt (gss s) = P at *
  obtain ⟨⟨k, n, u⟩, hg⟩ : ∃ g, gss s = g := ⟨_, rfl⟩
  rw [hg] at KG KP D
  replace D := Lib.hid D
  clear hg
  go_enter Tryd.func35, Tryd.ntmps35
  go_wp2_with fail
  refine KG.out.mono ?_
  rintro _ w2 ⟨rfl, hb1⟩
  have hb3 := alloc_below w2 (bxV (k, n, u))
  have X2 := blk_below X hb1 hz
  have B2 := B0.trans (hb1.mono B0.size)
  have B3 := B2.trans (hb3.mono B2.size)
  have X3 := blk_alloc X2 (bxV (k, n, u))
  have V3 := blk_new w2 (bxV (k, n, u))
  go_upto_region 2 with fail
  obtain ⟨W, hW⟩ : ∃ W, w2.alloc (.cells #[.int .i64 k, .int .i64 n, .string u] 26) = W := ⟨_, rfl⟩
  have hW2 : w2.alloc (bxV (k, n, u)) = W := hW
  rw [hW2] at B3 X3 V3
  rw [hW]
  have B3 := Lib.hid B3
  have X3 := Lib.hid X3
  have V3 := Lib.hid V3
  clear hb3 hW hW2 X2 B2 X B0 hb1 KG hz
  by_cases h0 : s.size = 0
  · have R := Lib.hid (D.out.trans (if_pos (Or.inl h0)))
    obtain rfl := size_zero h0
    clear D h0 KP q1
    obtain ⟨V, hV⟩ : ∃ V, V = putV W w.heap.size (0, 0, { data := #[] }) := ⟨_, rfl⟩
    have RV := Lib.hid (show V.heap[w.heap.size]? = some (bxV (0, 0, { data := #[] })) by rw [hV]; exact putV_blk X3.out _)
    have BV := Lib.hid (show Below w.heap.size w V by rw [hV]; exact putV_below B3.out (Nat.le_refl _) _)
    have z0c := blk_cell X3.out 0 (v := .int .i64 0) rfl
    have z1c := blk_cell X3.out 1 (v := .int .i64 0) rfl
    have z2c := blk_cell X3.out 2 (v := .string { data := #[] }) rfl
    have x0c := blk_fr X3.out 0
    have x1c := blk_fr X3.out 1
    have x2c := blk_fr X3.out 2
    unfold putV at hV
    dsimp only at hV
    go_wp2_with fail
    rw [← hV]
    have t0 := blk_cell RV.out 0 (v := .int .i64 0) rfl
    have t1 := blk_cell RV.out 1 (v := .int .i64 0) rfl
    have t2 := blk_cell RV.out 2 (v := .string { data := #[] }) rfl
    refine bodyPost_ret (v := .tuple #[.agg #[.int .i64 0, .int .i64 0, .string { data := #[] }], .int .i64 4]) (by simp [results, Tryd.results35, go_sem, t0, t1, t2]) rfl ⟨?_, BV.out⟩
    rw [R.out]
    first | done | rfl
  · obtain ⟨e1, e2⟩ := siz_pos h0
    have HX := Lib.hid (fun (w1 : World) (hb : Below W.heap.size W w1) => And.intro (blk_below X3.out hb (blk_lt X3.out)) (And.intro (blk_below V3.out hb (blk_lt V3.out)) (B3.out.trans (hb.mono B3.out.size))))
    have v0c := blk_cell V3.out 0 (v := .int .i64 k) rfl
    have v1c := blk_cell V3.out 1 (v := .int .i64 n) rfl
    have v2c := blk_cell V3.out 2 (v := .string u) rfl
    by_cases hP : P = s
    · have R := Lib.hid (D.out.trans (if_neg (fun q => q.elim h0 (fun q => q hP))))
      rw [decide_eq_true hP] at q1
      have q2 : (P.toList != s.toList) = false := by rw [bne, q1]; rfl
      have q3 : P.toList = s.toList := by rw [hP]
      clear D h0 hP
      go_wp2_with fail
      refine (KP.out W).mono ?_
      rintro _ w4 ⟨rfl, hb4⟩
      obtain ⟨X4, V4, B4⟩ := HX.out w4 hb4
      have X4 := Lib.hid X4
      have V4 := Lib.hid V4
      have B4 := Lib.hid B4
      clear hb4 HX KP v0c v1c v2c
      have y0c := blk_cell V4.out 0 (v := .int .i64 k) rfl
      have y1c := blk_cell V4.out 1 (v := .int .i64 n) rfl
      have y2c := blk_cell V4.out 2 (v := .string u) rfl
      obtain ⟨V, hV⟩ : ∃ V, V = putV w4 w.heap.size (k, n, u) := ⟨_, rfl⟩
      have RV := Lib.hid (show V.heap[w.heap.size]? = some (bxV (k, n, u)) by rw [hV]; exact putV_blk X4.out _)
      have BV := Lib.hid (show Below w.heap.size w V by rw [hV]; exact putV_below B4.out (Nat.le_refl _) _)
      have z0c := blk_cell X4.out 0 (v := .int .i64 0) rfl
      have z1c := blk_cell X4.out 1 (v := .int .i64 0) rfl
      have z2c := blk_cell X4.out 2 (v := .string { data := #[] }) rfl
      have x0c := blk_fr X4.out 0
      have x1c := blk_fr X4.out 1
      have x2c := blk_fr X4.out 2
      unfold putV at hV
      dsimp only at hV
      go_wp2_with fail
      rw [← hV]
      have t0 := blk_cell RV.out 0 (v := .int .i64 k) rfl
      have t1 := blk_cell RV.out 1 (v := .int .i64 n) rfl
      have t2 := blk_cell RV.out 2 (v := .string u) rfl
      refine bodyPost_ret (v := .tuple #[.agg #[.int .i64 k, .int .i64 n, .string u], .int .i64 0]) (by simp [results, Tryd.results35, go_sem, t0, t1, t2]) rfl ⟨?_, BV.out⟩
      rw [R.out]
      first | done | rfl
    · have R := Lib.hid (D.out.trans (if_pos (Or.inr hP)))
      rw [decide_eq_false hP] at q1
      have q2 : (P.toList != s.toList) = true := by rw [bne, q1]; rfl
      have q3 : ¬ P.toList = s.toList := by intro e; rw [e] at q1; simp at q1
      clear D h0 hP
      go_wp2_with fail
      refine (KP.out W).mono ?_
      rintro _ w4 ⟨rfl, hb4⟩
      obtain ⟨X4, V4, B4⟩ := HX.out w4 hb4
      have X4 := Lib.hid X4
      have B4 := Lib.hid B4
      clear hb4 HX KP v0c v1c v2c V4
      obtain ⟨V, hV⟩ : ∃ V, V = putV w4 w.heap.size (0, 0, { data := #[] }) := ⟨_, rfl⟩
      have RV := Lib.hid (show V.heap[w.heap.size]? = some (bxV (0, 0, { data := #[] })) by rw [hV]; exact putV_blk X4.out _)
      have BV := Lib.hid (show Below w.heap.size w V by rw [hV]; exact putV_below B4.out (Nat.le_refl _) _)
      have z0c := blk_cell X4.out 0 (v := .int .i64 0) rfl
      have z1c := blk_cell X4.out 1 (v := .int .i64 0) rfl
      have z2c := blk_cell X4.out 2 (v := .string { data := #[] }) rfl
      have x0c := blk_fr X4.out 0
      have x1c := blk_fr X4.out 1
      have x2c := blk_fr X4.out 2
      unfold putV at hV
      dsimp only at hV
      go_wp2_with fail
      rw [← hV]
      have t0 := blk_cell RV.out 0 (v := .int .i64 0) rfl
      have t1 := blk_cell RV.out 1 (v := .int .i64 0) rfl
      have t2 := blk_cell RV.out 2 (v := .string { data := #[] }) rfl
      refine bodyPost_ret (v := .tuple #[.agg #[.int .i64 0, .int .i64 0, .string { data := #[] }], .int .i64 4]) (by simp [results, Tryd.results35, go_sem, t0, t1, t2]) rfl ⟨?_, BV.out⟩
      rw [R.out]
      first | done | rfl
end Go.Proofs.YtagkmfhicpcjnaaDoor.Vlu
/- Layer 20, package value's own way to parse: the mathematics; the table of the words. -/
set_option linter.unusedVariables false
set_option maxRecDepth 100000
namespace Go.Proofs.YtagkmfhicpcjnaaDoor.Vlu
open Go.RowKit
open Names (nm quo unq)
open Wire (bs enI enT)

def sHash : ByteArray := ⟨#[35]⟩
def sQuot : ByteArray := ⟨#[34]⟩
/-- Whether a text begins with a word. -/
def pre (p s : ByteArray) : Bool := p.data.toList.isPrefixOf s.data.toList
/-- The only value that can have a text, found by the word that the text begins with. -/
def cnd (s : ByteArray) : Vl :=
  if pre sNone s = true then z0 else if pre sFals s = true then (1, 0, ByteArray.empty) else if pre sTrue s = true then (1, 1, ByteArray.empty)
  else if pre sHash s = true then (3, numS (s.extract 1 s.size), ByteArray.empty)
  else if pre sQuot s = true then (4, 0, bs (unq s.data.toList).1) else (2, numS s, ByteArray.empty)
theorem cnd_0 {s : ByteArray} (h : pre sNone s = true) : cnd s = z0 := if_pos h
theorem cnd_1 {s : ByteArray} (h : pre sNone s = false) (h1 : pre sFals s = true) : cnd s = (1, 0, ByteArray.empty) := by unfold cnd; rw [if_neg (by rw [h]; decide), if_pos h1]
theorem cnd_2 {s : ByteArray} (h : pre sNone s = false) (h1 : pre sFals s = false) (h2 : pre sTrue s = true) : cnd s = (1, 1, ByteArray.empty) := by unfold cnd; rw [if_neg (by rw [h]; decide), if_neg (by rw [h1]; decide), if_pos h2]
theorem cnd_3 {s : ByteArray} (h : pre sNone s = false) (h1 : pre sFals s = false) (h2 : pre sTrue s = false) (h3 : pre sHash s = true) : cnd s = (3, numS (s.extract 1 s.size), ByteArray.empty) := by
  unfold cnd; rw [if_neg (by rw [h]; decide), if_neg (by rw [h1]; decide), if_neg (by rw [h2]; decide), if_pos h3]
theorem cnd_4 {s : ByteArray} (h : pre sNone s = false) (h1 : pre sFals s = false) (h2 : pre sTrue s = false) (h3 : pre sHash s = false) (h4 : pre sQuot s = true) : cnd s = (4, 0, bs (unq s.data.toList).1) := by
  unfold cnd; rw [if_neg (by rw [h]; decide), if_neg (by rw [h1]; decide), if_neg (by rw [h2]; decide), if_neg (by rw [h3]; decide), if_pos h4]
theorem cnd_5 {s : ByteArray} (h : pre sNone s = false) (h1 : pre sFals s = false) (h2 : pre sTrue s = false) (h3 : pre sHash s = false) (h4 : pre sQuot s = false) : cnd s = (2, numS s, ByteArray.empty) := by
  unfold cnd; rw [if_neg (by rw [h]; decide), if_neg (by rw [h1]; decide), if_neg (by rw [h2]; decide), if_neg (by rw [h3]; decide), if_neg (by rw [h4]; decide)]
theorem pre_head {p s : ByteArray} {c x : UInt8} {l r : List UInt8} (hp : p.data.toList = c :: l) (hs : s.data.toList = x :: r) (h : c ≠ x) : pre p s = false := by
  unfold pre
  rw [hp, hs, List.isPrefixOf_cons_cons]
  simp [h]
theorem cnd_prt {v : Vl} (h : chk v = 0) : cnd (prt v) = v := by
  obtain ⟨k, n, s⟩ := v
  have hn := chk_n h
  obtain ⟨h1, h2, h3, h4, h5, h6⟩ := chk_iff.1 h
  simp only at h1 h2 h3 h4 h5 h6 hn
  unfold prt
  rw [if_neg (by rw [h]; decide)]
  unfold prt0
  dsimp only
  have pN : sNone.data.toList = 110 :: [111, 110, 101] := rfl
  have pF : sFals.data.toList = 102 :: [97, 108, 115, 101] := rfl
  have pT : sTrue.data.toList = 116 :: [114, 117, 101] := rfl
  have pH : sHash.data.toList = 35 :: [] := rfl
  have pQ : sQuot.data.toList = 34 :: [] := rfl
  by_cases k0 : k = 0
  · subst k0
    have : lo 0 = 0 := by decide
    have : hi 0 = 0 := by decide
    obtain rfl : n = 0 := by omega
    rw [h6 (by decide), if_pos rfl]
    exact cnd_0 (by decide)
  rw [if_neg k0]
  by_cases k1 : k = 1
  · subst k1
    have : lo 1 = 0 := by decide
    have : hi 1 = 1 := by decide
    rw [h6 (by decide), if_pos rfl]
    by_cases n1 : n = 1
    · subst n1
      rw [if_pos rfl]
      exact cnd_2 (by decide) (by decide) (by decide)
    · obtain rfl : n = 0 := by omega
      rw [if_neg (by decide)]
      exact cnd_1 (by decide) (by decide)
  rw [if_neg k1]
  by_cases k2 : k = 2
  · subst k2
    rw [h6 (by decide), if_pos rfl]
    obtain ⟨x, l, hx, hr⟩ := dig_head n hn
    have c0 : ∀ c : UInt8, c.toNat ≠ 45 → ¬ (48 ≤ c.toNat ∧ c.toNat ≤ 57) → c ≠ x := fun c a b e => by
      subst e
      rcases hr with q | q
      · exact a q
      · exact b q
    rw [cnd_5 (pre_head pN hx (c0 _ (by decide) (by decide))) (pre_head pF hx (c0 _ (by decide) (by decide))) (pre_head pT hx (c0 _ (by decide) (by decide))) (pre_head pH hx (c0 _ (by decide) (by decide))) (pre_head pQ hx (c0 _ (by decide) (by decide))), (numS_in n hn).2]
  rw [if_neg k2]
  by_cases k3 : k = 3
  · subst k3
    rw [h6 (by decide), if_pos rfl]
    have hd : ((⟨#[35]⟩ : ByteArray) ++ digS n).data.toList = 35 :: (digS n).data.toList := by simp [ByteArray.data_append]
    have he : ((⟨#[35]⟩ : ByteArray) ++ digS n).extract 1 ((⟨#[35]⟩ : ByteArray) ++ digS n).size = digS n := by
      have e : ((⟨#[35]⟩ : ByteArray) ++ digS n) = bs (35 :: (digS n).data.toList) := by rw [← hd, bs_of]
      rw [e]
      have := Wire.extract_bs [35] (digS n).data.toList 1 rfl
      rw [List.singleton_append] at this
      rw [this, bs_of]
    rw [cnd_3 (pre_head pN hd (by decide)) (pre_head pF hd (by decide)) (pre_head pT hd (by decide)) (by unfold pre; rw [hd, pH]; rfl), he, (numS_in n hn).2]
  rw [if_neg k3]
  obtain rfl : k = 4 := by omega
  have : lo 4 = 0 := by decide
  have : hi 4 = 0 := by decide
  obtain rfl : n = 0 := by omega
  obtain ⟨r, hq⟩ : ∃ r, (bs (quo s.data.toList)).data.toList = 34 :: r := ⟨_, rfl⟩
  rw [cnd_4 (pre_head pN hq (by decide)) (pre_head pF hq (by decide)) (pre_head pT hq (by decide)) (pre_head pH hq (by decide)) (by unfold pre; rw [hq, pQ]; rfl), bs_data, Names.unq_quo, if_neg (by
      have : s.data.toList.length = s.size := by simp
      omega)]
  dsimp only
  rw [bs_of]
theorem prs_cnd (s : ByteArray) : prs s = if prt (cnd s) ≠ s then (z0, 4) else (cnd s, 0) := by
  by_cases h : prt (cnd s) = s
  · rw [if_neg (fun q => q h)]
    refine prs_one (Classical.byContradiction fun hc => ?_) h
    have e : ByteArray.empty = s := by rw [← h]; exact (if_pos hc).symm
    subst e
    exact hc (by decide)
  · rw [if_pos h]
    exact prs_none fun v hv e => h (by rw [← e, cnd_prt hv])
theorem cnd_size (s : ByteArray) : (cnd s).2.2.size ≤ 100000 := by
  have hu := unq_size s.data.toList
  have e : (bs (unq s.data.toList).1).size ≤ 60 := by rw [Wire.bs_size]; exact hu
  have e0 : (ByteArray.empty).size = 0 := rfl
  unfold cnd
  repeat' split
  all_goals first | (show (ByteArray.empty).size ≤ 100000; omega) | (show (bs (unq s.data.toList).1).size ≤ 100000; omega)
end Go.Proofs.YtagkmfhicpcjnaaDoor.Vlu
/- Package value: Check, Def, Fits, Zero, Limit. -/
set_option linter.unusedVariables false
set_option maxRecDepth 100000
namespace Go.Proofs.YtagkmfhicpcjnaaDoor.Vlu
open Go.RowKit
open Names (nm quo unq)
open Wire (bs enI enT)

set_option maxHeartbeats 400000 in
theorem least_any (k : Int) (w : World) : Calls Tryd.prog 38 #[.int .i64 k] w fun e w' => e = .returned (.int .i64 (lo k)) ∧ w = w' := by
  by_cases h : k = 2
  · subst h
    go_enter Tryd.func38, Tryd.ntmps38
    go_wp2_with fail
    go_ret
    exact ⟨ret_int (by decide), rfl⟩
  · have f : (k == 2) = false := beq_false_of_ne h
    have R := Lib.hid (show lo k = 0 from if_neg h)
    clear h
    go_enter Tryd.func38, Tryd.ntmps38
    go_wp2_with fail
    go_ret
    exact ⟨ret_int R.out.symm, rfl⟩
set_option maxHeartbeats 400000 in
theorem most_any (k : Int) (w : World) : Calls Tryd.prog 39 #[.int .i64 k] w fun e w' => e = .returned (.int .i64 (hi k)) ∧ w = w' := by
  by_cases h1 : k = 1
  · subst h1
    go_enter Tryd.func39, Tryd.ntmps39
    go_wp2_with fail
    go_ret
    exact ⟨ret_int (by decide), rfl⟩
  by_cases h2 : k = 2
  · subst h2
    go_enter Tryd.func39, Tryd.ntmps39
    go_wp2_with fail
    go_ret
    exact ⟨ret_int (by decide), rfl⟩
  by_cases h3 : k = 3
  · subst h3
    go_enter Tryd.func39, Tryd.ntmps39
    go_wp2_with fail
    go_ret
    exact ⟨ret_int (by decide), rfl⟩
  have R := Lib.hid (show hi k = 0 by unfold hi; rw [if_neg h1, if_neg h2, if_neg h3])
  have f1 : (k == 1) = false := beq_false_of_ne h1
  have f2 : (k == 2) = false := beq_false_of_ne h2
  have f3 : (k == 3) = false := beq_false_of_ne h3
  clear h1 h2 h3
  go_enter Tryd.func39, Tryd.ntmps39
  go_wp2_with fail
  go_ret
  exact ⟨ret_int R.out.symm, rfl⟩

set_option maxRecDepth 100000 in
set_option maxHeartbeats 4000000 in
theorem pcheck_any (v : Vl) (w : World) (hs : v.2.2.size ≤ 9223372036854775807) : Calls Tryd.prog 13 #[vlV v] w (OutI w (chk v)) := by
  obtain ⟨k, n, s⟩ := v
  have b0 := alloc_below w (bxV (k, n, s))
  have X := blk_new w (bxV (k, n, s))
  have C1 := chk_kind (v := (k, n, s))
  have C2 := chk_range (v := (k, n, s))
  have C3 := chk_long (v := (k, n, s))
  have C4 := chk_form (v := (k, n, s))
  have C5 := chk_good (v := (k, n, s))
  have KL := Lib.hid (fun (w1 : World) => least_any k w1)
  have KM := Lib.hid (fun (w1 : World) => most_any k w1)
  dsimp only at C1 C2 C3 C4 C5 hs
  generalize chk (k, n, s) = F at *
  generalize lo k = L at *
  generalize hi k = H at *
  replace C1 := Lib.hid C1
  replace C2 := Lib.hid C2
  replace C3 := Lib.hid C3
  replace C4 := Lib.hid C4
  replace C5 := Lib.hid C5
  obtain ⟨W, hW⟩ : ∃ W, w.alloc (bxV (k, n, s)) = W := ⟨_, rfl⟩
  have hW' : w.alloc (.cells #[.int .i64 k, .int .i64 n, .string s] 26) = W := hW
  rw [hW] at b0 X
  have c0 := blk_cell X 0 (v := .int .i64 k) rfl
  have c1 := blk_cell X 1 (v := .int .i64 n) rfl
  have c2 := blk_cell X 2 (v := .string s) rfl
  have X := Lib.hid X
  have B0 := Lib.hid b0
  clear hW b0
  go_enter Tryd.func13, Tryd.ntmps13
  go_upto_region 1 with fail
  try rw [hW']
  clear hW'
  by_cases h1 : k < 0
  · have d1 := dt h1
    have R := Lib.hid (C1.out (Or.inl h1))
    clear C1 C2 C3 C4 C5 KL KM h1
    go_wp2_with fail
    go_ret
    exact outI R.out.symm B0.out
  have d1 := df h1
  by_cases h2 : 4 < k
  · have d2 := dt h2
    have R := Lib.hid (C1.out (Or.inr h2))
    clear C1 C2 C3 C4 C5 KL KM h1 h2
    go_wp2_with fail
    go_ret
    exact outI R.out.symm B0.out
  have d2 := df h2
  have hk : ¬ (k < 0 ∨ 4 < k) := by omega
  have C2 := Lib.hid (C2.out hk)
  have C3 := Lib.hid (C3.out hk)
  have C4 := Lib.hid (C4.out hk)
  have C5 := Lib.hid (C5.out hk)
  clear C1 hk h1 h2
  go_upto_region 3 with fail
  clear d1 d2
  by_cases h3 : n < L
  · have d3 := dt h3
    have R := Lib.hid (C2.out (Or.inl h3))
    clear C2 C3 C4 C5 h3
    refine wp_region_quiet_lit (by kernel_rfl) (by kernel_rfl) ?_
    refine QH.out ?_
    repeat (
      refine qh_step (fun K hK => ?_)
      go_simp
      first
        | (refine hK _ ?_; clear hK K)
        | (apply Exists.intro
           refine ⟨fun _ => ?_, hK _ ?_⟩
           (first | (go_at_call 38; exact quiet_same (KL.out _)) | (go_at_call 39; exact quiet_same (KM.out _)) | fail)
           clear hK K))
    refine qh_nil ?_
    intro _ hw'
    obtain ⟨nq, hw''⟩ := hw'
    subst hw'' 
    obtain ⟨wq, hwq⟩ : ∃ wq, wq = W.drewN nq := ⟨_, rfl⟩
    rw [← hwq]
    have BQ := Lib.hid (show Below w.heap.size w wq by rw [hwq]; exact below_drewN B0.out nq)
    clear hwq c0 c1 c2
    go_wp2_with fail
    go_ret
    exact outI R.out.symm BQ.out
  have d3 := df h3
  by_cases h4 : H < n
  · have d4 := dt h4
    have R := Lib.hid (C2.out (Or.inr h4))
    clear C2 C3 C4 C5 h3 h4
    refine wp_region_quiet_lit (by kernel_rfl) (by kernel_rfl) ?_
    refine QH.out ?_
    repeat (
      refine qh_step (fun K hK => ?_)
      go_simp
      first
        | (refine hK _ ?_; clear hK K)
        | (apply Exists.intro
           refine ⟨fun _ => ?_, hK _ ?_⟩
           (first | (go_at_call 38; exact quiet_same (KL.out _)) | (go_at_call 39; exact quiet_same (KM.out _)) | fail)
           clear hK K))
    refine qh_nil ?_
    intro _ hw'
    obtain ⟨nq, hw''⟩ := hw'
    subst hw'' 
    obtain ⟨wq, hwq⟩ : ∃ wq, wq = W.drewN nq := ⟨_, rfl⟩
    rw [← hwq]
    have BQ := Lib.hid (show Below w.heap.size w wq by rw [hwq]; exact below_drewN B0.out nq)
    clear hwq c0 c1 c2
    go_wp2_with fail
    go_ret
    exact outI R.out.symm BQ.out
  have d4 := df h4
  have hr : ¬ (n < L ∨ H < n) := by omega
  have C3 := Lib.hid (C3.out hr)
  have C4 := Lib.hid (C4.out hr)
  have C5 := Lib.hid (C5.out hr)
  clear C2 hr h3 h4
  refine wp_region_quiet_lit (by kernel_rfl) (by kernel_rfl) ?_
  refine QH.out ?_
  repeat (
    refine qh_step (fun K hK => ?_)
    go_simp
    first
      | (refine hK _ ?_; clear hK K)
      | (apply Exists.intro
         refine ⟨fun _ => ?_, hK _ ?_⟩
         (first | (go_at_call 38; exact quiet_same (KL.out _)) | (go_at_call 39; exact quiet_same (KM.out _)) | fail)
         clear hK K))
  refine qh_nil ?_
  intro _ hw'
  obtain ⟨nq, hw''⟩ := hw'
  subst hw'' 
  obtain ⟨wq, hwq⟩ : ∃ wq, wq = W.drewN nq := ⟨_, rfl⟩
  rw [← hwq]
  have BQ := Lib.hid (show Below w.heap.size w wq by rw [hwq]; exact below_drewN B0.out nq)
  have XQ := (show wq.heap[w.heap.size]? = some (bxV (k, n, s)) by rw [hwq]; exact X.out)
  clear c0 c1 c2
  have c0 := blk_cell XQ 0 (v := .int .i64 k) rfl
  have c1 := blk_cell XQ 1 (v := .int .i64 n) rfl
  have c2 := blk_cell XQ 2 (v := .string s) rfl
  clear XQ X hwq
  clear KL KM d3 d4
  go_upto_region 5 with fail
  by_cases h5 : 60 < s.size
  · have d5 := dt (show (60 : Int) < (s.size : Int) by omega)
    have R := Lib.hid (C3.out h5)
    clear C3 C4 C5 h5
    go_wp2_with fail
    go_ret
    exact outI R.out.symm BQ.out
  have d5 := df (show ¬ (60 : Int) < (s.size : Int) by omega)
  have C4 := Lib.hid (C4.out h5)
  have C5 := Lib.hid (C5.out h5)
  clear C3 h5
  by_cases h6 : s.size = 0
  · have R := Lib.hid (C5.out (fun q => q.1 h6))
    obtain rfl := size_zero h6
    clear C4 C5 h6
    go_wp2_with fail
    go_ret
    exact outI R.out.symm BQ.out
  obtain ⟨e1, e2⟩ := siz_pos h6
  by_cases h7 : k = 4
  · have R := Lib.hid (C5.out (fun q => q.2 h7))
    have t7 : (k == 4) = true := by simp [h7]
    have t8 : (k != 4) = false := by simp [h7]
    clear C4 C5 h6 h7
    go_wp2_with fail
    go_ret
    exact outI R.out.symm BQ.out
  · have R := Lib.hid (C4.out ⟨h6, h7⟩)
    have t7 : (k == 4) = false := beq_false_of_ne h7
    have t8 : (k != 4) = true := by simp [h7]
    clear C4 C5 h6 h7
    go_wp2_with fail
    go_ret
    exact outI R.out.symm BQ.out

/-! Def. -/
/-- Where a string stands first, or -1. -/
def fx (l : List ByteArray) (x : ByteArray) : Int := if l.findIdx (fun y => decide (y = x)) < l.length then (l.findIdx (fun y => decide (y = x)) : Int) else -1
theorem fx_yes {l : List ByteArray} {x : ByteArray} {i : Nat} (hi : i < l.length) (e : l[i] = x) (hn : ∀ j (hj : j < l.length), j < i → ¬ l[j] = x) : fx l x = i := by
  have h : l.findIdx (fun y => decide (y = x)) = i := by
    rw [List.findIdx_eq hi]
    exact ⟨decide_eq_true e, fun j hj => decide_eq_false (hn j (by omega) hj)⟩
  unfold fx
  rw [h, if_pos hi]
theorem fx_no {l : List ByteArray} {x : ByteArray} (hn : ∀ j (hj : j < l.length), ¬ l[j] = x) : fx l x = -1 := by
  have h : ¬ l.findIdx (fun y => decide (y = x)) < l.length := fun h => by
    have := List.findIdx_getElem (p := fun y => decide (y = x)) (w := h)
    exact hn _ h (of_decide_eq_true this)
  exact if_neg h
/-- The first place of a member lies ahead of it just if it stands among those ahead. -/
theorem fx_lt (l : List ByteArray) (k : Nat) (hk : k < l.length) : decide (fx l l[k] < (k : Int)) = mem (l.take k) l[k] := by
  by_cases h : ∃ j, ∃ hj : j < l.length, j < k ∧ l[j] = l[k]
  · have hm : mem (l.take k) l[k] = true := by
      obtain ⟨j, hj, hjk, e⟩ := h
      unfold mem
      rw [List.any_eq_true]
      exact ⟨l[k], by rw [← e]; exact List.mem_take_iff_getElem.2 ⟨j, by omega, rfl⟩, decide_eq_true rfl⟩
    rw [hm]
    obtain ⟨j, hj, hjk, e⟩ := h
    have hle : l.findIdx (fun y => decide (y = l[k])) ≤ j := by
      refine Classical.byContradiction fun q => ?_
      have := List.not_of_lt_findIdx (xs := l) (i := j) (p := fun y => decide (y = l[k])) (by omega)
      simp [e] at this
    unfold fx
    rw [if_pos (by omega)]
    exact decide_eq_true (by omega)
  · have hm : mem (l.take k) l[k] = false := by
      cases hq : mem (l.take k) l[k] with
      | false => rfl
      | true =>
        unfold mem at hq
        rw [List.any_eq_true] at hq
        obtain ⟨y, hy, e⟩ := hq
        obtain ⟨j, hj, e2⟩ := List.mem_take_iff_getElem.1 hy
        exact absurd ⟨j, by omega, by omega, e2.trans (of_decide_eq_true e)⟩ h
    rw [hm, fx_yes hk rfl (fun j hj hjk e => h ⟨j, hj, hjk, e⟩)]
    exact decide_eq_false (by omega)
set_option maxRecDepth 100000 in
set_option maxHeartbeats 2000000 in
theorem sindex_any (A : Option Addr) (c : Nat) (l : List ByteArray) (s : ByteArray) (w : World) (hl : l.length ≤ 9223372036854775807) (hA : StS w A c l) :
    Calls Tryd.prog 93 #[.slice A l.length c, .string s] w (OutI w (fx l s)) := by
  have HA := Lib.hid hA
  have KH := Lib.hid (fun (i : Nat) (hi : i < l.length) (e : l[i] = s) (hn : ∀ j (hj : j < l.length), j < i → ¬ l[j] = s) => fx_yes hi e hn)
  have KM := Lib.hid (fun (hn : ∀ j (hj : j < l.length), ¬ l[j] = s) => fx_no hn)
  generalize fx l s = F at *
  clear hA
  go_enter Tryd.func93, Tryd.ntmps93
  go_wp2_with fail
  go_loop [8] (fun vi => ∃ k : Nat, vi = .int .i64 k ∧ k ≤ l.length ∧ Hid (∀ j (hj : j < l.length), j < k → ¬ l[j] = s)) (fun vi => l.length - (intOf vi).toNat)
  case atStart => exact ⟨0, rfl, Nat.zero_le _, Lib.hid (fun j _ h => absurd h (by omega))⟩
  case round =>
    obtain ⟨k, rfl, hk, HN⟩ := hrel
    by_cases hlt : k < l.length
    · obtain ⟨b, o, rfl, _, g1, _⟩ := st_cell HA.out k hlt
      have q0 : (k : Int) < (l.length : Int) := by omega
      by_cases e : l[k] = s
      · have t1 := (seq_test s l[k]).trans (decide_eq_true e.symm)
        have R := Lib.hid (KH.out k hlt e HN.out)
        clear KH KM HN e
        generalize l[k] = z at *
        go_wp2_with fail
        go_ret
        exact outI R.out.symm (Below.refl _ _)
      · have t1 := (seq_test s l[k]).trans (decide_eq_false (fun q => e q.symm))
        have HN := Lib.hid (show ∀ j (hj : j < l.length), j < k + 1 → ¬ l[j] = s from fun j hj hji => by
          by_cases q : j = k
          · subst q; exact e
          · exact HN.out j hj (by omega))
        clear KH KM e
        generalize l[k] = z at *
        go_wp2_with fail
        go_round
        case rel => exact ⟨k + 1, by go_num, hlt, HN⟩
        case measure => simp [intOf]; omega
    · obtain rfl : k = l.length := by omega
      have R := Lib.hid (KM.out (fun j hj => HN.out j hj hj))
      clear KH KM HN
      go_wp2_with fail
      go_ret
      exact outI R.out.symm (Below.refl _ _)
theorem pindex_any (A : Option Addr) (c : Nat) (l : List ByteArray) (s : ByteArray) (w : World) (hl : l.length ≤ 9223372036854775807) (hA : StS w A c l) :
    Calls Tryd.prog 71 #[.slice A l.length c, .string s] w (OutI w (fx l s)) := by
  have K := sindex_any A c l s w hl hA
  unfold OutI at K
  go_enter Tryd.func71, Tryd.ntmps71
  go_wp2_with fail
  refine K.mono ?_
  rintro _ w2 ⟨rfl, hb⟩
  go_wp2_with fail
  go_ret
  exact outI rfl hb

set_option maxRecDepth 100000 in
set_option maxHeartbeats 4000000 in
theorem pbounds_any (a : At) (A : Option Addr) (c : Nat) (w : World) :
    Calls Tryd.prog 41 #[atV a A c] w (OutB w (!decide (bad a))) := by
  have D7 := bad_two (a := a)
  have D8 := bad_other (a := a)
  have B0 := Lib.hid (alloc_below w (bxA a A c))
  have BY := Lib.hid (fun (h : ¬ bad a) => (show (!decide (bad a)) = true from by rw [decide_eq_false h]; rfl))
  have BN := Lib.hid (fun (h : bad a) => (show (!decide (bad a)) = false from by rw [decide_eq_true h]; rfl))
  generalize (!decide (bad a)) = F at *
  generalize bad a = BAD at *
  obtain ⟨an, ak, amn, amx, en, awr, asf⟩ := a
  dsimp only at D7 D8 B0
  by_cases k2 : ak = 2
  · have D7 := Lib.hid (D7 k2)
    have f1 : (ak != 2) = false := by simp [k2]
    have f0 : (ak == 2) = true := by simp [k2]
    clear D8 k2
    by_cases b1 : -1099511627776 ≤ amn
    · have d1 := dt b1
      by_cases b2 : amn ≤ amx
      · have d2 := dt b2
        by_cases b3 : amx ≤ 1099511627776
        · have d3 := dt b3
          have R := Lib.hid (BY.out (fun q => by have := D7.out.1 q; omega))
          clear D7 BY BN b1 b2 b3
          go_enter Tryd.func41, Tryd.ntmps41
          go_wp2_with fail
          go_ret
          exact outB R.out.symm B0.out
        · have d3 := df b3
          have R := Lib.hid (BN.out (D7.out.2 (by omega)))
          clear D7 BY BN b1 b2 b3
          go_enter Tryd.func41, Tryd.ntmps41
          go_wp2_with fail
          go_ret
          exact outB R.out.symm B0.out
      · have d2 := df b2
        have R := Lib.hid (BN.out (D7.out.2 (by omega)))
        clear D7 BY BN b1 b2
        go_enter Tryd.func41, Tryd.ntmps41
        go_wp2_with fail
        go_ret
        exact outB R.out.symm B0.out
    · have d1 := df b1
      have R := Lib.hid (BN.out (D7.out.2 (by omega)))
      clear D7 BY BN b1
      go_enter Tryd.func41, Tryd.ntmps41
      go_wp2_with fail
      go_ret
      exact outB R.out.symm B0.out
  · have D8 := Lib.hid (D8 k2)
    have f1 : (ak != 2) = true := by simp [k2]
    have f0 : (ak == 2) = false := beq_false_of_ne k2
    clear D7 k2
    by_cases m1 : amn = 0
    · have t1 : (amn == 0) = true := by simp [m1]
      by_cases m2 : amx = 0
      · have t2 : (amx == 0) = true := by simp [m2]
        have R := Lib.hid (BY.out (fun q => by have := D8.out.1 q; omega))
        clear D8 BY BN m1 m2
        go_enter Tryd.func41, Tryd.ntmps41
        go_wp2_with fail
        go_ret
        exact outB R.out.symm B0.out
      · have t2 : (amx == 0) = false := beq_false_of_ne m2
        have R := Lib.hid (BN.out (D8.out.2 (Or.inr m2)))
        clear D8 BY BN m1 m2
        go_enter Tryd.func41, Tryd.ntmps41
        go_wp2_with fail
        go_ret
        exact outB R.out.symm B0.out
    · have t1 : (amn == 0) = false := beq_false_of_ne m1
      have R := Lib.hid (BN.out (D8.out.2 (Or.inl m1)))
      clear D8 BY BN m1
      go_enter Tryd.func41, Tryd.ntmps41
      go_wp2_with fail
      go_ret
      exact outB R.out.symm B0.out

def mbs (l : List ByteArray) : Int := if l.length < 1 ∨ 64 < l.length then 3 else enE [] l
set_option maxRecDepth 100000 in
set_option maxHeartbeats 4000000 in
theorem pmembers_any (A : Option Addr) (c : Nat) (en : List ByteArray) (w : World) (hl : en.length ≤ 9223372036854775807) (hA : StS w A c en) :
    Calls Tryd.prog 42 #[.slice A en.length c] w (OutI w (mbs en)) := by
  have M1 := Lib.hid (fun (h : en.length < 1 ∨ 64 < en.length) => (show mbs en = 3 from if_pos h))
  have M2 := Lib.hid (fun (h : ¬ (en.length < 1 ∨ 64 < en.length)) => (show mbs en = enE [] en from if_neg h))
  have HA := Lib.hid hA
  clear hA
  generalize mbs en = F at *
  by_cases l1 : en.length = 0
  · have R := Lib.hid (M1.out (Or.inl (by omega)))
    have e1 : ((en.length : Int) == 0) = true := by simp [l1]
    have e2 : (en.length == 0) = true := by simp [l1]
    clear M1 M2
    go_enter Tryd.func42, Tryd.ntmps42
    go_wp2_with fail
    go_ret
    exact outI R.out.symm (Below.refl _ _)
  have e1 : ((en.length : Int) == 0) = false := beq_false_of_ne (by omega)
  have e3 : (en.length == 0) = false := beq_false_of_ne (by omega)
  by_cases l2 : 64 < en.length
  · have R := Lib.hid (M1.out (Or.inr l2))
    have e2 := dt (show (64 : Int) < (en.length : Int) by omega)
    clear M1 M2
    go_enter Tryd.func42, Tryd.ntmps42
    go_wp2_with fail
    go_ret
    exact outI R.out.symm (Below.refl _ _)
  have e2 := df (show ¬ (64 : Int) < (en.length : Int) by omega)
  have R := Lib.hid (M2.out (by omega))
  clear M1 M2
  go_enter Tryd.func42, Tryd.ntmps42
  go_wp2_with fail
  go_loopw [15] (fun vi wr => ∃ k : Nat, vi = .int .i64 k ∧ k ≤ en.length ∧ Hid (F = enE (en.take k) (en.drop k)) ∧ Below w.heap.size w wr) (fun vi _ => en.length - (intOf vi).toNat)
  case atStart => exact ⟨0, rfl, Nat.zero_le _, Lib.hid (by rw [List.take_zero, List.drop_zero]; exact R.out), Below.refl _ _⟩
  case round =>
    obtain ⟨k, rfl, hk, RK, hb⟩ := hrel
    have HL := Lib.hid (HA.out.next hb)
    have HB := Lib.hid hb
    clear R hb
    by_cases hlt : k < en.length
    · obtain ⟨b, p, rfl, hbw, hc, hsz⟩ := st_cell HL.out k hlt
      have RK := Lib.hid (RK.out.trans (enE_at en k hlt))
      have KV := Lib.hid (Names.valid_any en[k] wr hsz _ rfl)
      have KI := Lib.hid (fun (w2 : World) (hb2 : Below wr.heap.size wr w2) => pindex_any (some ⟨b, p, none⟩) c en en[k] w2 hl (HL.out.next hb2))
      have FL := fx_lt en k hlt
      unfold Names.OutBool at KV
      unfold OutI at KI
      clear HL HA hsz
      generalize fx en en[k] = fi at *
      generalize nm en[k].data.toList = nb at *
      generalize mem (en.take k) en[k] = mb at *
      generalize en[k] = x at *
      have i1 : (k : Int) < (en.length : Int) := by omega
      have i2 : (0 : Int) ≤ (k : Int) := by omega
      cases nb with
      | false =>
        have R := Lib.hid (RK.out.trans (if_pos rfl))
        clear RK KI FL
        go_wp2_with fail
        refine KV.out.mono ?_
        rintro _ w2 ⟨rfl, hb2⟩
        have B2 := Lib.hid (HB.out.trans (hb2.mono HB.out.size))
        clear hb2 KV
        go_wp2_with fail
        go_ret
        exact outI R.out.symm B2.out
      | true =>
        have RK := Lib.hid (RK.out.trans (if_neg (by decide)))
        have STEP := Lib.hid hc
        cases mb with
        | true =>
          have R := Lib.hid (RK.out.trans (if_pos rfl))
          clear RK
          go_wp2_with fail
          refine KV.out.mono ?_
          rintro _ w2 ⟨rfl, hb2⟩
          have KI := Lib.hid (KI.out w2 hb2)
          have B2 := Lib.hid (HB.out.trans (hb2.mono HB.out.size))
          clear hb2 KV hc
          go_wp2_with fail
          refine KI.out.mono ?_
          rintro _ w3 ⟨rfl, hb3⟩
          have B3 := Lib.hid (B2.out.trans (hb3.mono B2.out.size))
          clear hb3 KI
          go_wp2_with fail
          go_ret
          exact outI R.out.symm B3.out
        | false =>
          have R := Lib.hid (RK.out.trans (if_neg (by decide)))
          clear RK
          go_wp2_with fail
          refine KV.out.mono ?_
          rintro _ w2 ⟨rfl, hb2⟩
          have KI := Lib.hid (KI.out w2 hb2)
          have B2 := Lib.hid (HB.out.trans (hb2.mono HB.out.size))
          clear hb2 KV hc
          go_wp2_with fail
          refine KI.out.mono ?_
          rintro _ w3 ⟨rfl, hb3⟩
          have B3 := Lib.hid (B2.out.trans (hb3.mono B2.out.size))
          clear hb3 KI
          go_wp2_with fail
          go_roundw
          case rel => exact ⟨k + 1, by go_num, hlt, R, B3.out⟩
          case measure => first | (simp [intOf]; done) | (simp [intOf]; omega)
    · obtain rfl : k = en.length := by omega
      have R := Lib.hid (show F = 0 by rw [RK.out, List.drop_length]; rfl)
      clear RK HL
      go_wp2_with fail
      go_ret
      exact outI R.out.symm HB.out

set_option maxRecDepth 100000 in
set_option maxHeartbeats 4000000 in
theorem pdef_any (a : At) (A : Option Addr) (c : Nat) (w : World) (hn : a.n.size ≤ 9223372036854775807) (hl : a.en.length ≤ 9223372036854775807) (hA : StS w A c a.en) :
    Calls Tryd.prog 15 #[atV a A c] w (OutI w (dfn a)) := by
  have b0 := alloc_below w (bxA a A c)
  have X := blk_new w (bxA a A c)
  have K0 := Lib.hid (Names.valid_any a.n (w.alloc (bxA a A c)) hn _ rfl)
  have hz : w.heap.size < (w.alloc (bxA a A c)).heap.size := by simp
  unfold Names.OutBool at K0
  have KB := Lib.hid (fun (w1 : World) => pbounds_any a A c w1)
  have KM := Lib.hid (fun (w1 : World) (hb : Below (w.alloc (bxA a A c)).heap.size (w.alloc (bxA a A c)) w1) => pmembers_any A c a.en w1 hl ((hA.next b0).next hb))
  unfold OutB at KB
  unfold OutI at KM
  have D1 := Lib.hid (dfn_name (a := a))
  have D2 := Lib.hid (dfn_kindE (a := a))
  have D3 := Lib.hid (dfn_bad (a := a))
  have D4 := Lib.hid (dfn_not (a := a))
  have D5 := Lib.hid (fun h h2 h3 h4 => (show dfn a = mbs a.en from by
    by_cases h5 : a.en.length < 1 ∨ 64 < a.en.length
    · rw [dfn_len h h2 h3 h4 h5]; exact (if_pos h5).symm
    · rw [dfn_en h h2 h3 h4 h5]; exact (if_neg h5).symm))
  have B0 := Lib.hid b0
  clear b0 hA
  generalize dfn a = F at *
  generalize nm a.n.data.toList = nb at *
  generalize mbs a.en = ms at *
  obtain ⟨BAD, hBAD⟩ : ∃ B : Prop, bad a = B := ⟨_, rfl⟩
  obtain ⟨bb, hbb⟩ : ∃ b, decide (bad a) = b := ⟨_, rfl⟩
  rw [hbb] at KB
  have D3 := Lib.hid (fun h h2 (h3 : bb = true) => D3.out h h2 (of_decide_eq_true (hbb.trans h3)))
  have D4 := Lib.hid (fun h h2 (h3 : bb = false) => D4.out h h2 (of_decide_eq_false (hbb.trans h3)))
  have D5 := Lib.hid (fun h h2 (h3 : bb = false) => D5.out h h2 (of_decide_eq_false (hbb.trans h3)))
  clear hBAD hbb
  obtain ⟨an, ak, amn, amx, en, awr, asf⟩ := a
  obtain ⟨W0, hW0⟩ : ∃ W0, w.alloc (bxA ⟨an, ak, amn, amx, en, awr, asf⟩ A c) = W0 := ⟨_, rfl⟩
  have hW0' : w.alloc (.cells #[.string an, .int .i64 ak, .int .i64 amn, .int .i64 amx, .slice A en.length c, .bool awr, .bool asf] 24) = W0 := hW0
  rw [hW0] at K0 B0 hz X KM
  have q0 := blk_cell X 0 (v := .string an) rfl
  have HX := Lib.hid (fun (w1 : World) (hb : Below W0.heap.size W0 w1) => blk_below X hb hz)
  have HW := Lib.hid (fun (w1 : World) (hb : Below W0.heap.size W0 w1) => (show Below w.heap.size w w1 from B0.out.trans (hb.mono B0.out.size)))
  simp only at D1 D2 D3 D4 D5 hn hl K0 KB KM
  clear hW0 X B0 hn hz
  go_enter Tryd.func15, Tryd.ntmps15
  go_upto_region 1 with fail
  try rw [hW0']
  clear hW0'
  go_wp2_with fail
  refine K0.out.mono ?_
  rintro _ w1 ⟨rfl, hb⟩
  have Y := HX.out w1 hb
  have c0 := blk_cell Y 0 (v := .string an) rfl
  have c1 := blk_cell Y 1 (v := .int .i64 ak) rfl
  have c2 := blk_cell Y 2 (v := .int .i64 amn) rfl
  have c3 := blk_cell Y 3 (v := .int .i64 amx) rfl
  have c4 := blk_cell Y 4 (v := .slice A en.length c) rfl
  have c5 := blk_cell Y 5 (v := .bool awr) rfl
  have c6 := blk_cell Y 6 (v := .bool asf) rfl
  have B1 := Lib.hid (HW.out w1 hb)
  have HB1 := Lib.hid hb
  clear hb K0 Y q0
  cases nb with
  | false =>
    have R := Lib.hid (D1.out rfl)
    clear D1 D2 D3 D4 D5
    go_wp2_with fail
    go_ret
    exact outI R.out.symm B1.out
  | true =>
  have n0 : ¬ (true = false) := by decide
  by_cases k1 : ak < 1 ∨ 4 < ak
  · have R := Lib.hid (D2.out n0 k1)
    clear D1 D2 D3 D4 D5
    by_cases k2 : ak < 1
    · have d1 := dt k2
      go_wp2_with fail
      go_ret
      exact outI R.out.symm B1.out
    · have d1 := df k2
      have d2 := dt (show 4 < ak by omega)
      go_wp2_with fail
      go_ret
      exact outI R.out.symm B1.out
  have d1 := df (show ¬ ak < 1 by omega)
  have d2 := df (show ¬ 4 < ak by omega)
  have D3 := Lib.hid (D3.out n0 k1)
  have D4 := Lib.hid (D4.out n0 k1)
  have D5 := Lib.hid (D5.out n0 k1)
  clear D1 D2 n0 k1
  go_wp2_with fail
  refine (KB.out w1).mono ?_
  rintro _ w2 ⟨rfl, hb2⟩
  have HB2 := Lib.hid (HB1.out.trans (hb2.mono HB1.out.size))
  have Y := HX.out w2 HB2.out
  clear c0 c1 c2 c3 c4 c5 c6
  have c0 := blk_cell Y 0 (v := .string an) rfl
  have c1 := blk_cell Y 1 (v := .int .i64 ak) rfl
  have c2 := blk_cell Y 2 (v := .int .i64 amn) rfl
  have c3 := blk_cell Y 3 (v := .int .i64 amx) rfl
  have c4 := blk_cell Y 4 (v := .slice A en.length c) rfl
  have c5 := blk_cell Y 5 (v := .bool awr) rfl
  have c6 := blk_cell Y 6 (v := .bool asf) rfl
  have B2 := Lib.hid (HW.out w2 HB2.out)
  clear hb2 KB HB1 B1 Y d1 d2
  cases bb with
  | true =>
    have R := Lib.hid (D3.out rfl)
    clear D3 D4 D5
    go_wp2_with fail
    go_ret
    exact outI R.out.symm B2.out
  | false =>
  have D4 := Lib.hid (D4.out rfl)
  have D5 := Lib.hid (D5.out rfl)
  by_cases k3 : ak = 3
  · have R := Lib.hid (D5.out k3)
    have t3 : (ak == 3) = true := by simp [k3]
    clear D3 D4 D5 k3
    go_wp2_with fail
    refine (KM.out w2 HB2.out).mono ?_
    rintro _ w3 ⟨rfl, hb3⟩
    have B3 := Lib.hid (B2.out.trans (hb3.mono B2.out.size))
    clear hb3 KM c0 c1 c2 c3 c4 c5 c6
    go_wp2_with fail
    go_ret
    exact outI R.out.symm B3.out
  have R := Lib.hid (D4.out k3)
  have t3 : (ak == 3) = false := beq_false_of_ne k3
  clear D3 D4 D5 k3 KM
  by_cases l0 : en = []
  · have R := Lib.hid (R.out.trans (if_pos l0))
    have e1 := df (show ¬ 0 < en.length by rw [l0]; simp)
    have e0 : ¬ 0 < en.length := by rw [l0]; simp
    clear l0
    go_wp2_with fail
    go_ret
    exact outI R.out.symm B2.out
  · have R := Lib.hid (R.out.trans (if_neg l0))
    have e1 := dt (List.length_pos_iff.2 l0)
    have e0 := List.length_pos_iff.2 l0
    clear l0
    go_wp2_with fail
    go_ret
    exact outI R.out.symm B2.out
end Go.Proofs.YtagkmfhicpcjnaaDoor.Vlu
/- Package value: Fits, Zero, Limit, Less, Put. -/
set_option linter.unusedVariables false
set_option maxRecDepth 100000
namespace Go.Proofs.YtagkmfhicpcjnaaDoor.Vlu
open Go.RowKit
open Names (nm quo unq)
open Wire (bs enI enT)

/-- Whether a number is none that an attribute can have. -/
def outN (a : At) (n : Int) : Bool := decide ((a.k = 2 ∧ (n < a.mn ∨ a.mx < n)) ∨ (a.k = 3 ∧ (a.en.length : Int) ≤ n))
theorem outN_is {a : At} {v : Vl} (h : v.1 = a.k) : outN a v.2.1 = decide (outr a v) := by
  refine decide_eq_decide.2 ?_
  unfold outr
  rw [h]
set_option maxRecDepth 100000 in
set_option maxHeartbeats 4000000 in
theorem pout_any (a : At) (A : Option Addr) (c : Nat) (n : Int) (w : World) :
    Calls Tryd.prog 45 #[atV a A c, .int .i64 n] w (OutB w (outN a n)) := by
  have B0 := Lib.hid (alloc_below w (bxA a A c))
  have OY := Lib.hid (fun h => (show outN a n = true from decide_eq_true h))
  have ON := Lib.hid (fun h => (show outN a n = false from decide_eq_false h))
  generalize outN a n = F at *
  obtain ⟨an, ak, amn, amx, en, awr, asf⟩ := a
  dsimp only at OY ON B0
  by_cases k2 : ak = 2
  · subst k2
    by_cases h1 : n < amn
    · have d1 := dt h1
      have R := Lib.hid (OY.out (Or.inl ⟨rfl, Or.inl h1⟩))
      clear OY ON h1
      go_enter Tryd.func45, Tryd.ntmps45
      go_wp2_with fail
      go_ret
      exact outB R.out.symm B0.out
    have d1 := df h1
    by_cases h2 : amx < n
    · have d2 := dt h2
      have R := Lib.hid (OY.out (Or.inl ⟨rfl, Or.inr h2⟩))
      clear OY ON h1 h2
      go_enter Tryd.func45, Tryd.ntmps45
      go_wp2_with fail
      go_ret
      exact outB R.out.symm B0.out
    · have d2 := df h2
      have R := Lib.hid (ON.out (by omega))
      clear OY ON h1 h2
      go_enter Tryd.func45, Tryd.ntmps45
      go_wp2_with fail
      go_ret
      exact outB R.out.symm B0.out
  by_cases k3 : ak = 3
  · subst k3
    by_cases h1 : (en.length : Int) ≤ n
    · have d1 := dt h1
      have R := Lib.hid (OY.out (Or.inr ⟨rfl, h1⟩))
      clear OY ON h1
      go_enter Tryd.func45, Tryd.ntmps45
      go_wp2_with fail
      go_ret
      exact outB R.out.symm B0.out
    · have d1 := df h1
      have R := Lib.hid (ON.out (by omega))
      clear OY ON h1
      go_enter Tryd.func45, Tryd.ntmps45
      go_wp2_with fail
      go_ret
      exact outB R.out.symm B0.out
  · have f2 : (ak == 2) = false := beq_false_of_ne k2
    have f3 : (ak == 3) = false := beq_false_of_ne k3
    have R := Lib.hid (ON.out (by omega))
    clear OY ON k2 k3
    go_enter Tryd.func45, Tryd.ntmps45
    go_wp2_with fail
    go_ret
    exact outB R.out.symm B0.out

set_option maxRecDepth 100000 in
set_option maxHeartbeats 4000000 in
theorem pfits_any (a : At) (A : Option Addr) (c : Nat) (v : Vl) (w : World) (hn : a.n.size ≤ 9223372036854775807) (hl : a.en.length ≤ 9223372036854775807) (hA : StS w A c a.en) (hv : v.2.2.size ≤ 9223372036854775807) :
    Calls Tryd.prog 17 #[atV a A c, vlV v] w (OutI w (fits a v)) := by
  have b0 := alloc_below w (bxA a A c)
  have b1 := alloc_below (w.alloc (bxA a A c)) (bxV v)
  have b01 := b0.trans (b1.mono (by simp))
  have XA := blk_alloc (blk_new w (bxA a A c)) (bxV v)
  have XV := blk_new (w.alloc (bxA a A c)) (bxV v)
  rw [show (w.alloc (bxA a A c)).heap.size = w.heap.size + 1 by simp] at XV
  have hz : w.heap.size + 1 < ((w.alloc (bxA a A c)).alloc (bxV v)).heap.size := by simp
  have hA1 := (hA.next b0).next b1
  have F1 := Lib.hid (fits_def (a := a) (v := v))
  have F2 := Lib.hid (fits_chk (a := a) (v := v))
  have F3 := Lib.hid (fits_type (a := a) (v := v))
  have F4 := Lib.hid (fun h h2 h3 (h4 : outN a v.2.1 = true) => fits_out (a := a) (v := v) h h2 h3 (of_decide_eq_true ((outN_is h3).symm.trans h4)))
  have F5 := Lib.hid (fun h h2 h3 (h4 : outN a v.2.1 = false) => fits_ok (a := a) (v := v) h h2 h3 (of_decide_eq_false ((outN_is h3).symm.trans h4)))
  obtain ⟨W, hW⟩ : ∃ W, (w.alloc (bxA a A c)).alloc (bxV v) = W := ⟨_, rfl⟩
  rw [hW] at XA XV hz hA1 b01
  have KD := Lib.hid (pdef_any a A c W hn hl hA1)
  have KC := Lib.hid (fun (w1 : World) => pcheck_any v w1 hv)
  have KO := Lib.hid (fun (w1 : World) => pout_any a A c v.2.1 w1)
  have HA := Lib.hid (fun (w1 : World) (hb : Below W.heap.size W w1) => And.intro (blk_below XA hb (by omega)) (And.intro (blk_below XV hb (by omega)) (b01.trans (hb.mono b01.size))))
  unfold OutI at KD KC
  unfold OutB at KO
  have XA := Lib.hid XA
  clear b0 b1 b01 hA hA1 hn hz hl XV
  generalize fits a v = F at *
  generalize dfn a = d at *
  generalize chk v = cv at *
  generalize outN a v.2.1 = ov at *
  obtain ⟨an, ak, amn, amx, en, awr, asf⟩ := a
  obtain ⟨k, n, s⟩ := v
  have hW' : (w.alloc (.cells #[.string an, .int .i64 ak, .int .i64 amn, .int .i64 amx, .slice A en.length c, .bool awr, .bool asf] 24)).alloc (.cells #[.int .i64 k, .int .i64 n, .string s] 26) = W := hW
  dsimp only at F3 F4 F5 KC KO KD
  clear hW hv
  have q0 := blk_cell XA.out 0 (v := .string an) rfl
  have q1 := blk_cell XA.out 1 (v := .int .i64 ak) rfl
  have q2 := blk_cell XA.out 2 (v := .int .i64 amn) rfl
  have q3 := blk_cell XA.out 3 (v := .int .i64 amx) rfl
  have q4 := blk_cell XA.out 4 (v := .slice A en.length c) rfl
  have q5 := blk_cell XA.out 5 (v := .bool awr) rfl
  have q6 := blk_cell XA.out 6 (v := .bool asf) rfl
  go_enter Tryd.func17, Tryd.ntmps17
  go_upto_region 1 with fail
  try rw [hW']
  clear hW'
  go_wp2_with fail
  refine KD.out.mono ?_
  rintro _ w1 ⟨rfl, hb1⟩
  clear q0 q1 q2 q3 q4 q5 q6 XA KD
  obtain ⟨Y1, Z1, B1⟩ := HA.out w1 hb1
  have B1 := Lib.hid B1
  by_cases hd : d = 0
  case neg =>
    have t1 : (d != 0) = true := by simp [hd]
    have R := Lib.hid (F1.out hd)
    clear F1 F2 F3 F4 F5 hd KC KO Y1 Z1 hb1 HA
    go_wp2_with fail
    go_ret
    exact outI R.out.symm B1.out
  have t1 : (d != 0) = false := by simp [hd]
  have F2 := Lib.hid (fun h => F2.out hd h)
  have F3 := Lib.hid (fun h h2 => F3.out hd h h2)
  have F4 := Lib.hid (fun h h2 h3 => F4.out hd h h2 h3)
  have F5 := Lib.hid (fun h h2 h3 => F5.out hd h h2 h3)
  clear F1 hd
  have v0 := blk_cell Z1 0 (v := .int .i64 k) rfl
  have v1 := blk_cell Z1 1 (v := .int .i64 n) rfl
  have v2 := blk_cell Z1 2 (v := .string s) rfl
  have HB1 := Lib.hid hb1
  clear Y1 Z1 B1 hb1
  go_wp2_with fail
  refine (KC.out w1).mono ?_
  rintro _ w2 ⟨rfl, hb2⟩
  have HB2 := Lib.hid (HB1.out.trans (hb2.mono HB1.out.size))
  obtain ⟨Y2, Z2, B2⟩ := HA.out w2 HB2.out
  have B2 := Lib.hid B2
  clear v0 v1 v2 hb2 HB1 KC
  by_cases hc : cv = 0
  case neg =>
    have t2 : (cv != 0) = true := by simp [hc]
    have R := Lib.hid (F2.out hc)
    clear F2 F3 F4 F5 hc KO Y2 Z2 HA
    go_wp2_with fail
    go_ret
    exact outI R.out.symm B2.out
  have t2 : (cv != 0) = false := by simp [hc]
  have F3 := Lib.hid (fun h => F3.out hc h)
  have F4 := Lib.hid (fun h h2 => F4.out hc h h2)
  have F5 := Lib.hid (fun h h2 => F5.out hc h h2)
  clear F2 hc
  have v0 := blk_cell Z2 0 (v := .int .i64 k) rfl
  have v1 := blk_cell Z2 1 (v := .int .i64 n) rfl
  have v2 := blk_cell Z2 2 (v := .string s) rfl
  have p0 := blk_cell Y2 0 (v := .string an) rfl
  have p1 := blk_cell Y2 1 (v := .int .i64 ak) rfl
  have p2 := blk_cell Y2 2 (v := .int .i64 amn) rfl
  have p3 := blk_cell Y2 3 (v := .int .i64 amx) rfl
  have p4 := blk_cell Y2 4 (v := .slice A en.length c) rfl
  have p5 := blk_cell Y2 5 (v := .bool awr) rfl
  have p6 := blk_cell Y2 6 (v := .bool asf) rfl
  clear Y2 Z2
  by_cases hk : k = ak
  case neg =>
    have t3 : (k != ak) = true := by simp [hk]
    have t4 : (k == ak) = false := beq_false_of_ne hk
    have R := Lib.hid (F3.out hk)
    clear F3 F4 F5 hk KO HA
    go_wp2_with fail
    go_ret
    exact outI R.out.symm B2.out
  have t3 : (k != ak) = false := by simp [hk]
  have F4 := Lib.hid (fun h => F4.out hk h)
  have F5 := Lib.hid (fun h => F5.out hk h)
  clear F3 hk
  go_wp2_with fail
  refine (KO.out w2).mono ?_
  rintro _ w3 ⟨rfl, hb3⟩
  have B3 := Lib.hid (B2.out.trans (hb3.mono B2.out.size))
  clear hb3 KO v0 v1 v2 p0 p1 p2 p3 p4 p5 p6 t1 t2 t3
  cases ov with
  | true =>
    have R := Lib.hid (F4.out rfl)
    clear F4 F5
    go_wp2_with fail
    go_ret
    exact outI R.out.symm B3.out
  | false =>
    have R := Lib.hid (F5.out rfl)
    clear F4 F5
    go_wp2_with fail
    go_ret
    exact outI R.out.symm B3.out

theorem clp_min (n a b : Int) : clp n a b = min (max n a) b := by unfold clp; repeat' split <;> omega
theorem at_lmt {a : At} (h : dfn a = 0) : zer a = (a.k, min (max 0 a.mn) a.mx, ByteArray.empty) := by
  rw [zer_is h]
  by_cases hk : a.k = 2
  · rw [lmt_int h hk hk, clp_min]
  · rw [lmt_not (Or.inr (Or.inl hk))]
    have hb : ¬ bad a := fun hb => by
      unfold dfn at h
      by_cases q1 : nm a.n.data.toList = false
      · rw [if_pos q1] at h; exact absurd h (by decide)
      rw [if_neg q1] at h
      by_cases q2 : a.k < 1 ∨ 4 < a.k
      · rw [if_pos q2] at h; exact absurd h (by decide)
      rw [if_neg q2, if_pos hb] at h
      exact absurd h (by decide)
    have h1 : a.mn = 0 := Classical.byContradiction fun q => hb (Or.inr ⟨hk, Or.inl q⟩)
    have h2 : a.mx = 0 := Classical.byContradiction fun q => hb (Or.inr ⟨hk, Or.inr q⟩)
    rw [h1, h2]
    rfl
set_option maxRecDepth 100000 in
set_option maxHeartbeats 4000000 in
theorem pzer_any (a : At) (A : Option Addr) (c : Nat) (w : World) (hn : a.n.size ≤ 9223372036854775807) (hl : a.en.length ≤ 9223372036854775807) (hA : StS w A c a.en) :
    Calls Tryd.prog 19 #[atV a A c] w (OutV w (zer a)) := by
  have b0 := alloc_below w (bxA a A c)
  have b1 := alloc_below (w.alloc (bxA a A c)) (bxV z0)
  have b01 := b0.trans (b1.mono (by simp))
  have XA := blk_alloc (blk_new w (bxA a A c)) (bxV z0)
  have XZ := blk_new (w.alloc (bxA a A c)) (bxV z0)
  rw [show (w.alloc (bxA a A c)).heap.size = w.heap.size + 1 by simp] at XZ
  have hz : w.heap.size + 1 < ((w.alloc (bxA a A c)).alloc (bxV z0)).heap.size := by simp
  have hA1 := (hA.next b0).next b1
  have L1 := Lib.hid (zer_not (a := a))
  have L2 := Lib.hid (at_lmt (a := a))
  obtain ⟨W, hW⟩ : ∃ W, (w.alloc (bxA a A c)).alloc (bxV z0) = W := ⟨_, rfl⟩
  rw [hW] at XA XZ hz hA1 b01
  have KD := Lib.hid (pdef_any a A c W hn hl hA1)
  have HA := Lib.hid (fun (w1 : World) (hb : Below W.heap.size W w1) => And.intro (blk_below XA hb (by omega)) (And.intro (blk_below XZ hb (by omega)) (b01.trans (hb.mono b01.size))))
  unfold OutI at KD
  have XA := Lib.hid XA
  clear b0 b1 b01 hA hA1 hn hz XZ hl
  generalize zer a = F at *
  generalize dfn a = d at *
  obtain ⟨an, ak, amn, amx, en, awr, asf⟩ := a
  have hW' : (w.alloc (.cells #[.string an, .int .i64 ak, .int .i64 amn, .int .i64 amx, .slice A en.length c, .bool awr, .bool asf] 24)).alloc (.cells #[.int .i64 0, .int .i64 0, .string { data := #[] }] 26) = W := hW
  dsimp only at KD L2
  clear hW
  have q0 := blk_cell XA.out 0 (v := .string an) rfl
  have q1 := blk_cell XA.out 1 (v := .int .i64 ak) rfl
  have q2 := blk_cell XA.out 2 (v := .int .i64 amn) rfl
  have q3 := blk_cell XA.out 3 (v := .int .i64 amx) rfl
  have q4 := blk_cell XA.out 4 (v := .slice A en.length c) rfl
  have q5 := blk_cell XA.out 5 (v := .bool awr) rfl
  have q6 := blk_cell XA.out 6 (v := .bool asf) rfl
  go_enter Tryd.func19, Tryd.ntmps19
  go_upto_region 1 with fail
  try rw [hW']
  clear hW'
  go_wp2_with fail
  refine KD.out.mono ?_
  rintro _ W1 ⟨rfl, hb1⟩
  clear q0 q1 q2 q3 q4 q5 q6
  obtain ⟨Y, U, B⟩ := HA.out W1 hb1
  have Y := Lib.hid Y
  have U := Lib.hid U
  have B := Lib.hid B
  clear HA XA hb1 KD
  by_cases hd : d = 0
  case neg =>
    have t1 : (d != 0) = true := by simp [hd]
    have R := Lib.hid (L1.out hd)
    clear L1 L2 hd Y
    obtain ⟨V, hV⟩ : ∃ V, V = putV W1 (w.heap.size + 1) (0, 0, { data := #[] }) := ⟨_, rfl⟩
    have RV := Lib.hid (show V.heap[w.heap.size + 1]? = some (bxV (0, 0, { data := #[] })) by rw [hV]; exact putV_blk U.out _)
    have BV := Lib.hid (show Below w.heap.size w V by rw [hV]; exact putV_below B.out (by omega) _)
    have zz0 := blk_cell U.out 0 (v := .int .i64 0) rfl
    have zz1 := blk_cell U.out 1 (v := .int .i64 0) rfl
    have zz2 := blk_cell U.out 2 (v := .string { data := #[] }) rfl
    have xx0 := blk_fr U.out 0
    have xx1 := blk_fr U.out 1
    have xx2 := blk_fr U.out 2
    unfold putV at hV
    dsimp only at hV
    go_wp2_with fail
    rw [← hV]
    have t0 := blk_cell RV.out 0 (v := .int .i64 0) rfl
    have t1 := blk_cell RV.out 1 (v := .int .i64 0) rfl
    have t2 := blk_cell RV.out 2 (v := .string { data := #[] }) rfl
    refine bodyPost_ret (v := .agg #[.int .i64 0, .int .i64 0, .string { data := #[] }]) (by simp [results, Tryd.results19, go_sem, t0, t1, t2]) rfl ⟨?_, BV.out⟩
    rw [R.out]
    rfl
  have t1 : (d != 0) = false := by simp [hd]
  have R := Lib.hid (L2.out hd)
  clear L1 L2 hd
  have KC := Lib.hid (fun (w1 : World) => clamp_any 0 amn amx w1)
  generalize min (max 0 amn) amx = m at *
  have p0 := blk_cell Y.out 0 (v := .string an) rfl
  have p1 := blk_cell Y.out 1 (v := .int .i64 ak) rfl
  have p2 := blk_cell Y.out 2 (v := .int .i64 amn) rfl
  have p3 := blk_cell Y.out 3 (v := .int .i64 amx) rfl
  have p4 := blk_cell Y.out 4 (v := .slice A en.length c) rfl
  have p5 := blk_cell Y.out 5 (v := .bool awr) rfl
  have p6 := blk_cell Y.out 6 (v := .bool asf) rfl
  go_upto_region 3 with fail
  clear t1
  refine wp_region_held_drew (S := (fun wy : World => wy.cell? ⟨w.heap.size, 1, none⟩ = some (.int .i64 ak) ∧ wy.cell? ⟨w.heap.size, 2, none⟩ = some (.int .i64 amn) ∧ wy.cell? ⟨w.heap.size, 3, none⟩ = some (.int .i64 amx))) (by kernel_rfl) (⟨p1, p2, p3⟩) (fun hHeld => ?_)
  refine wpAnyH_take (i := 0) (v := (.pointer (some ⟨w.heap.size, 1, none⟩))) at_zero (by kernel_rfl) (by kernel_rfl) (by kernel_rfl) (fun _ _ _ h => h) (Or.inl ⟨by kernel_rfl, fun wy hSw => ?_⟩) (by assumption) ?_
  · (try dsimp only at hSw); go_simp
  try simp only [Act.put, List.setIfInBounds_toArray, List.set_cons_zero, List.set_cons_succ]
  refine wpAnyH_take (i := 1) (v := (.int .i64 ak)) (at_succ at_zero) (by kernel_rfl) (by kernel_rfl) (by kernel_rfl) (fun _ _ _ h => h) (Or.inl ⟨by kernel_rfl, fun wy hSw => ?_⟩) (by assumption) ?_
  · obtain ⟨y0, y1, y2⟩ := hSw; go_simp
  try simp only [Act.put, List.setIfInBounds_toArray, List.set_cons_zero, List.set_cons_succ]
  refine wpAnyH_take (i := 2) (v := (.pointer (some ⟨w.heap.size, 2, none⟩))) (at_succ (at_succ at_zero)) (by kernel_rfl) (by kernel_rfl) (by kernel_rfl) (fun _ _ _ h => h) (Or.inl ⟨by kernel_rfl, fun wy hSw => ?_⟩) (by assumption) ?_
  · (try dsimp only at hSw); go_simp
  try simp only [Act.put, List.setIfInBounds_toArray, List.set_cons_zero, List.set_cons_succ]
  refine wpAnyH_take (i := 3) (v := (.int .i64 amn)) (at_succ (at_succ (at_succ at_zero))) (by kernel_rfl) (by kernel_rfl) (by kernel_rfl) (fun _ _ _ h => h) (Or.inl ⟨by kernel_rfl, fun wy hSw => ?_⟩) (by assumption) ?_
  · obtain ⟨y0, y1, y2⟩ := hSw; go_simp
  try simp only [Act.put, List.setIfInBounds_toArray, List.set_cons_zero, List.set_cons_succ]
  refine wpAnyH_take (i := 4) (v := (.pointer (some ⟨w.heap.size, 3, none⟩))) (at_succ (at_succ (at_succ (at_succ at_zero)))) (by kernel_rfl) (by kernel_rfl) (by kernel_rfl) (fun _ _ _ h => h) (Or.inl ⟨by kernel_rfl, fun wy hSw => ?_⟩) (by assumption) ?_
  · (try dsimp only at hSw); go_simp
  try simp only [Act.put, List.setIfInBounds_toArray, List.set_cons_zero, List.set_cons_succ]
  refine wpAnyH_take (i := 5) (v := (.int .i64 amx)) (at_succ (at_succ (at_succ (at_succ (at_succ at_zero))))) (by kernel_rfl) (by kernel_rfl) (by kernel_rfl) (fun _ _ _ h => h) (Or.inl ⟨by kernel_rfl, fun wy hSw => ?_⟩) (by assumption) ?_
  · obtain ⟨y0, y1, y2⟩ := hSw; go_simp
  try simp only [Act.put, List.setIfInBounds_toArray, List.set_cons_zero, List.set_cons_succ]
  refine wpAnyH_ready (rs := [6]) (by kernel_rfl) (by simp) ?_
  refine AllReadyH.cons (at_succ (at_succ (at_succ (at_succ (at_succ (at_succ at_zero)))))) (fun K hK => ?_) AllReadyH.nil
  rw [if_pos (by kernel_rfl)]
  go_simp
  refine (KC.out _).mono ?_
  rintro _ _ ⟨rfl, rfl⟩
  go_wp2_with fail
  refine hK.out _ _ (hHeld) (fun hHeld => ?_)
  clear hK K
  try simp only [Act.put, List.setIfInBounds_toArray, List.set_cons_zero, List.set_cons_succ]
  refine wpAnyH_take (i := 7) (v := (.agg #[.int .i64 ak, .int .i64 m, .string { data := #[] }])) (at_succ (at_succ (at_succ (at_succ (at_succ (at_succ (at_succ at_zero))))))) (by kernel_rfl) (by kernel_rfl) (by kernel_rfl) (fun _ _ _ h => h) (Or.inl ⟨by kernel_rfl, fun wy hSw => ?_⟩) (by assumption) ?_
  · (try dsimp only at hSw); go_simp
  try simp only [Act.put, List.setIfInBounds_toArray, List.set_cons_zero, List.set_cons_succ]
  obtain ⟨W2, hW2⟩ : ∃ W2, W1.drew = W2 := ⟨_, rfl⟩
  have UW := (show W2.heap[w.heap.size + 1]? = some (bxV z0) by rw [← hW2]; exact U.out)
  have BW := (show Below w.heap.size w W2 by rw [← hW2]; exact below_drewN B.out 1)
  have YW := (show W2.heap[w.heap.size]? = some (.cells #[.string an, .int .i64 ak, .int .i64 amn, .int .i64 amx, .slice A en.length c, .bool awr, .bool asf] 24) by rw [← hW2]; exact Y.out)
  try rw [hW2]
  obtain ⟨V, hV⟩ : ∃ V, V = putV W2 (w.heap.size + 1) (ak, m, { data := #[] }) := ⟨_, rfl⟩
  have RV := Lib.hid (show V.heap[w.heap.size + 1]? = some (bxV (ak, m, { data := #[] })) by rw [hV]; exact putV_blk UW _)
  have BV := Lib.hid (show Below w.heap.size w V by rw [hV]; exact putV_below BW (by omega) _)
  have SV : V.cell? ⟨w.heap.size, 1, none⟩ = some (.int .i64 ak) ∧ V.cell? ⟨w.heap.size, 2, none⟩ = some (.int .i64 amn) ∧ V.cell? ⟨w.heap.size, 3, none⟩ = some (.int .i64 amx) := by
    have YV : V.heap[w.heap.size]? = some (.cells #[.string an, .int .i64 ak, .int .i64 amn, .int .i64 amx, .slice A en.length c, .bool awr, .bool asf] 24) := by
      rw [hV]; unfold putV
      exact blk_other (blk_other (blk_other YW (by dsimp only; omega) _) (by dsimp only; omega) _) (by dsimp only; omega) _
    exact ⟨blk_cell YV 1 rfl, blk_cell YV 2 rfl, blk_cell YV 3 rfl⟩
  have zz0 := blk_cell UW 0 (v := .int .i64 0) rfl
  have zz1 := blk_cell UW 1 (v := .int .i64 0) rfl
  have zz2 := blk_cell UW 2 (v := .string { data := #[] }) rfl
  have xx0 := blk_fr UW 0
  have xx1 := blk_fr UW 1
  have xx2 := blk_fr UW 2
  unfold putV at hV
  dsimp only at hV
  clear U B Y YW p0 p1 p2 p3 p4 p5 p6
  refine wpAnyH_ready (rs := [8]) (by kernel_rfl) (by simp) ?_
  refine AllReadyH.cons (at_succ (at_succ (at_succ (at_succ (at_succ (at_succ (at_succ (at_succ at_zero)))))))) (fun K hK => ?_) AllReadyH.nil
  rw [if_pos (by kernel_rfl)]
  go_simp
  try rw [← hV]
  refine hK.out _ _ (SV) (fun hHeld => ?_)
  clear hK K
  try simp only [Act.put, List.setIfInBounds_toArray, List.set_cons_zero, List.set_cons_succ]
  refine wpAnyH_done (by kernel_rfl) ?_ _
  clear hHeld SV
  go_wp2_with fail
  try rw [← hV]
  have t0 := blk_cell RV.out 0 (v := .int .i64 ak) rfl
  have t1 := blk_cell RV.out 1 (v := .int .i64 m) rfl
  have t2 := blk_cell RV.out 2 (v := .string { data := #[] }) rfl
  refine bodyPost_ret (v := .agg #[.int .i64 ak, .int .i64 m, .string { data := #[] }]) (by simp [results, Tryd.results19, go_sem, t0, t1, t2]) rfl ⟨?_, BV.out⟩
  rw [R.out]
  rfl
end Go.Proofs.YtagkmfhicpcjnaaDoor.Vlu
/- Layer 20: the order of values is a strict total one. -/
set_option linter.unusedVariables false
set_option maxRecDepth 100000
namespace Go.Proofs.YtagkmfhicpcjnaaDoor.Vlu

theorem ll_irr : ∀ l : List UInt8, ¬ l < l
  | [], h => by cases h
  | a :: l, h => by
    rcases List.cons_lt_cons_iff.1 h with q | ⟨_, q⟩
    · exact absurd q (UInt8.lt_irrefl a)
    · exact ll_irr l q
theorem ll_tri : ∀ l m : List UInt8, l < m ∨ l = m ∨ m < l
  | [], [] => Or.inr (Or.inl rfl)
  | [], b :: m => Or.inl (List.nil_lt_cons b m)
  | a :: l, [] => Or.inr (Or.inr (List.nil_lt_cons a l))
  | a :: l, b :: m => by
    by_cases h1 : a < b
    · exact Or.inl (List.cons_lt_cons_iff.2 (Or.inl h1))
    by_cases h2 : b < a
    · exact Or.inr (Or.inr (List.cons_lt_cons_iff.2 (Or.inl h2)))
    have e : a = b := by
      apply UInt8.toNat.inj
      rw [UInt8.lt_iff_toNat_lt] at h1 h2
      omega
    subst e
    rcases ll_tri l m with q | q | q
    · exact Or.inl (List.cons_lt_cons_iff.2 (Or.inr ⟨rfl, q⟩))
    · exact Or.inr (Or.inl (by rw [q]))
    · exact Or.inr (Or.inr (List.cons_lt_cons_iff.2 (Or.inr ⟨rfl, q⟩)))
theorem ll_trans : ∀ l m n : List UInt8, l < m → m < n → l < n
  | _, _, [], _, h => by cases h
  | _, [], _, h, _ => by cases h
  | [], _ :: _, c :: n, _, _ => List.nil_lt_cons c n
  | a :: l, b :: m, c :: n, h1, h2 => by
    rcases List.cons_lt_cons_iff.1 h1 with p | ⟨rfl, p⟩
    · rcases List.cons_lt_cons_iff.1 h2 with q | ⟨rfl, q⟩
      · exact List.cons_lt_cons_iff.2 (Or.inl (UInt8.lt_trans p q))
      · exact List.cons_lt_cons_iff.2 (Or.inl p)
    · rcases List.cons_lt_cons_iff.1 h2 with q | ⟨rfl, q⟩
      · exact List.cons_lt_cons_iff.2 (Or.inl q)
      · exact List.cons_lt_cons_iff.2 (Or.inr ⟨rfl, ll_trans l m n p q⟩)
theorem ba_ext {s t : ByteArray} (h : s.data.toList = t.data.toList) : s = t := by
  apply ByteArray.ext
  exact Array.toList_inj.1 h
theorem less_iff (a b : Vl) : less a b = true ↔ a.1 < b.1 ∨ a.1 = b.1 ∧ (a.2.1 < b.2.1 ∨ a.2.1 = b.2.1 ∧ a.2.2.data.toList < b.2.2.data.toList) := by
  unfold less
  by_cases h1 : a.1 = b.1
  · rw [if_neg (fun q => q h1)]
    by_cases h2 : a.2.1 = b.2.1
    · rw [if_neg (fun q => q h2), decide_eq_true_iff]
      constructor
      · exact fun q => Or.inr ⟨h1, Or.inr ⟨h2, q⟩⟩
      · rintro (q | ⟨_, q | ⟨_, q⟩⟩)
        · omega
        · omega
        · exact q
    · rw [if_pos h2, decide_eq_true_iff]
      constructor
      · exact fun q => Or.inr ⟨h1, Or.inl q⟩
      · rintro (q | ⟨_, q | ⟨q, _⟩⟩)
        · omega
        · exact q
        · exact absurd q h2
  · rw [if_pos h1, decide_eq_true_iff]
    constructor
    · exact fun q => Or.inl q
    · rintro (q | ⟨q, _⟩)
      · exact q
      · exact absurd q h1
theorem less_irr (a : Vl) : less a a = false := by
  cases h : less a a with
  | false => rfl
  | true =>
    rcases (less_iff a a).1 h with q | ⟨_, q | ⟨_, q⟩⟩
    · omega
    · omega
    · exact absurd q (ll_irr _)
theorem less_asym {a b : Vl} (h : less a b = true) : less b a = false := by
  cases h2 : less b a with
  | false => rfl
  | true =>
    rcases (less_iff a b).1 h with q | ⟨e1, q | ⟨e2, q⟩⟩ <;> rcases (less_iff b a).1 h2 with p | ⟨f1, p | ⟨f2, p⟩⟩ <;> first | omega | exact absurd (ll_trans _ _ _ q p) (ll_irr _)
theorem less_total {a b : Vl} (h : a ≠ b) : less b a = !less a b := by
  cases h1 : less a b with
  | true => exact less_asym h1
  | false =>
    show less b a = true
    cases h2 : less b a with
    | true => rfl
    | false =>
      exfalso
      have n1 := fun q => Bool.false_ne_true (h1.symm.trans ((less_iff a b).2 q))
      have n2 := fun q => Bool.false_ne_true (h2.symm.trans ((less_iff b a).2 q))
      have e1 : a.1 = b.1 := by
        have p1 : ¬ a.1 < b.1 := fun q => n1 (Or.inl q)
        have p2 : ¬ b.1 < a.1 := fun q => n2 (Or.inl q)
        omega
      have e2 : a.2.1 = b.2.1 := by
        have p1 : ¬ a.2.1 < b.2.1 := fun q => n1 (Or.inr ⟨e1, Or.inl q⟩)
        have p2 : ¬ b.2.1 < a.2.1 := fun q => n2 (Or.inr ⟨e1.symm, Or.inl q⟩)
        omega
      rcases ll_tri a.2.2.data.toList b.2.2.data.toList with q | q | q
      · exact n1 (Or.inr ⟨e1, Or.inr ⟨e2, q⟩⟩)
      · exact h (Prod.ext e1 (Prod.ext e2 (ba_ext q)))
      · exact n2 (Or.inr ⟨e1.symm, Or.inr ⟨e2.symm, q⟩⟩)
theorem less_trans {a b c : Vl} (h1 : less a b = true) (h2 : less b c = true) : less a c = true := by
  rw [less_iff] at *
  rcases h1 with q | ⟨e1, q | ⟨e2, q⟩⟩ <;> rcases h2 with p | ⟨f1, p | ⟨f2, p⟩⟩
  · exact Or.inl (by omega)
  · exact Or.inl (by omega)
  · exact Or.inl (by omega)
  · exact Or.inl (by omega)
  · exact Or.inr ⟨by omega, Or.inl (by omega)⟩
  · exact Or.inr ⟨by omega, Or.inl (by omega)⟩
  · exact Or.inl (by omega)
  · exact Or.inr ⟨by omega, Or.inl (by omega)⟩
  · exact Or.inr ⟨by omega, Or.inr ⟨by omega, ll_trans _ _ _ q p⟩⟩
end Go.Proofs.YtagkmfhicpcjnaaDoor.Vlu
/- Package value: Less, Put. -/
set_option linter.unusedVariables false
set_option maxRecDepth 100000
namespace Go.Proofs.YtagkmfhicpcjnaaDoor.Vlu
open Go.RowKit
open Names (nm quo unq)
open Wire (bs enI enT)

/-! Less. -/
def cmpV (x y : Int) : Int := if x < y then -1 else if y < x then 1 else 0
def cmpS (s t : ByteArray) : Int := if s.data.toList < t.data.toList then -1 else if t.data.toList < s.data.toList then 1 else 0
def fnz : List Int → Int
  | [] => 0
  | x :: r => if x ≠ 0 then x else fnz r
theorem less_is (a b : Vl) : less a b = decide (fnz [cmpV a.1 b.1, cmpV a.2.1 b.2.1, cmpS a.2.2 b.2.2] < 0) := by
  have hV : ∀ x y : Int, x ≠ y → cmpV x y ≠ 0 ∧ decide (cmpV x y < 0) = decide (x < y) := fun x y h => by
    unfold cmpV
    by_cases h1 : x < y
    · rw [if_pos h1]; exact ⟨by decide, by rw [decide_eq_true h1]; rfl⟩
    · rw [if_neg h1, if_pos (by omega)]; exact ⟨by decide, by rw [decide_eq_false h1]; rfl⟩
  have hE : ∀ x : Int, cmpV x x = 0 := fun x => by unfold cmpV; rw [if_neg (Int.lt_irrefl x), if_neg (Int.lt_irrefl x)]
  unfold less
  by_cases h1 : a.1 ≠ b.1
  · obtain ⟨q1, q2⟩ := hV _ _ h1
    rw [if_pos h1, show fnz [cmpV a.1 b.1, cmpV a.2.1 b.2.1, cmpS a.2.2 b.2.2] = cmpV a.1 b.1 from if_pos q1, q2]
  rw [if_neg h1]
  have e1 : a.1 = b.1 := Classical.byContradiction h1
  have s1 : fnz [cmpV a.1 b.1, cmpV a.2.1 b.2.1, cmpS a.2.2 b.2.2] = fnz [cmpV a.2.1 b.2.1, cmpS a.2.2 b.2.2] := if_neg (by rw [e1, hE]; decide)
  rw [s1]
  by_cases h2 : a.2.1 ≠ b.2.1
  · obtain ⟨q1, q2⟩ := hV _ _ h2
    rw [if_pos h2, show fnz [cmpV a.2.1 b.2.1, cmpS a.2.2 b.2.2] = cmpV a.2.1 b.2.1 from if_pos q1, q2]
  rw [if_neg h2]
  have e2 : a.2.1 = b.2.1 := Classical.byContradiction h2
  have s2 : fnz [cmpV a.2.1 b.2.1, cmpS a.2.2 b.2.2] = fnz [cmpS a.2.2 b.2.2] := if_neg (by rw [e2, hE]; decide)
  rw [s2]
  have s3 : fnz [cmpS a.2.2 b.2.2] = cmpS a.2.2 b.2.2 := by
    show (if cmpS a.2.2 b.2.2 ≠ 0 then cmpS a.2.2 b.2.2 else 0) = _
    split
    · rfl
    · omega
  rw [s3]
  unfold cmpS
  by_cases h3 : a.2.2.data.toList < b.2.2.data.toList
  · rw [if_pos h3, decide_eq_true h3]; rfl
  · rw [if_neg h3, decide_eq_false h3]
    split <;> rfl
set_option maxHeartbeats 400000 in
theorem nan_any (x : Int) (w : World) : Calls Tryd.prog 72 #[.int .i64 x] w fun e w' => e = .returned (.bool false) ∧ w = w' := by
  go_enter Tryd.func72, Tryd.ntmps72
  go_wp2_with fail
  go_ret
  exact ⟨ret_bool (by first | rfl | simp), rfl⟩
set_option maxHeartbeats 400000 in
theorem nans_any (x : ByteArray) (w : World) : Calls Tryd.prog 73 #[.string x] w fun e w' => e = .returned (.bool false) ∧ w = w' := by
  go_enter Tryd.func73, Tryd.ntmps73
  go_wp2_with fail
  go_ret
  exact ⟨ret_bool (by first | rfl | simp), rfl⟩
set_option maxHeartbeats 400000 in
theorem pcmp_any (x y : Int) (w : World) : Calls Tryd.prog 48 #[.int .i64 x, .int .i64 y] w fun e w' => e = .returned (.int .i64 (cmpV x y)) ∧ w = w' := by
  have E := Lib.hid (show cmpV x y = if x < y then -1 else if y < x then 1 else 0 from rfl)
  rcases Int.lt_trichotomy x y with h | h | h
  · have d1 := dt h
    have R := Lib.hid (show cmpV x y = -1 by rw [E.out, if_pos h])
    go_enter Tryd.func48, Tryd.ntmps48
    go_wp2_with (go_at_call 72; refine (nan_any _ _).mono ?_; rintro e w' ⟨rfl, rfl⟩)
    go_ret
    exact ⟨ret_int R.out.symm, rfl⟩
  · subst h
    have d1 := df (Int.lt_irrefl x)
    have R := Lib.hid (show cmpV x x = 0 by rw [E.out, if_neg (Int.lt_irrefl x), if_neg (Int.lt_irrefl x)])
    go_enter Tryd.func48, Tryd.ntmps48
    go_wp2_with (go_at_call 72; refine (nan_any _ _).mono ?_; rintro e w' ⟨rfl, rfl⟩)
    go_ret
    exact ⟨ret_int R.out.symm, rfl⟩
  · have d1 := df (show ¬ x < y by omega)
    have d2 := dt h
    have R := Lib.hid (show cmpV x y = 1 by rw [E.out, if_neg (by omega), if_pos h])
    go_enter Tryd.func48, Tryd.ntmps48
    go_wp2_with (go_at_call 72; refine (nan_any _ _).mono ?_; rintro e w' ⟨rfl, rfl⟩)
    go_ret
    exact ⟨ret_int R.out.symm, rfl⟩
set_option maxHeartbeats 400000 in
theorem pcmps_any (x y : ByteArray) (w : World) : Calls Tryd.prog 49 #[.string x, .string y] w fun e w' => e = .returned (.int .i64 (cmpS x y)) ∧ w = w' := by
  have E := Lib.hid (show cmpS x y = if x.data.toList < y.data.toList then -1 else if y.data.toList < x.data.toList then 1 else 0 from rfl)
  have l1 := lss_is x y
  have l2 := lss_is y x
  by_cases h : x.data.toList < y.data.toList
  · rw [decide_eq_true h] at l1
    have R := Lib.hid (E.out.trans (if_pos h))
    clear h E l2
    go_enter Tryd.func49, Tryd.ntmps49
    go_wp2_with (go_at_call 73; refine (nans_any _ _).mono ?_; rintro e w' ⟨rfl, rfl⟩)
    go_ret
    exact ⟨ret_int R.out.symm, rfl⟩
  rw [decide_eq_false h] at l1
  by_cases e : x = y
  · have q1 := (seq_test x y).trans (decide_eq_true e)
    have R := Lib.hid ((E.out.trans (if_neg h)).trans (if_neg (by rw [← e]; exact ll_irr _)))
    clear h E l2 e
    go_enter Tryd.func49, Tryd.ntmps49
    go_wp2_with (go_at_call 73; refine (nans_any _ _).mono ?_; rintro e w' ⟨rfl, rfl⟩)
    go_ret
    exact ⟨ret_int R.out.symm, rfl⟩
  · have q1 := (seq_test x y).trans (decide_eq_false e)
    have R := Lib.hid ((E.out.trans (if_neg h)).trans (if_pos (by
      rcases ll_tri x.data.toList y.data.toList with q | q | q
      · exact absurd q h
      · exact absurd (ba_ext q) e
      · exact q)))
    clear h E l2 e
    go_enter Tryd.func49, Tryd.ntmps49
    go_wp2_with (go_at_call 73; refine (nans_any _ _).mono ?_; rintro e w' ⟨rfl, rfl⟩)
    go_ret
    exact ⟨ret_int R.out.symm, rfl⟩
set_option maxHeartbeats 2000000 in
theorem por_any (b : Nat) (l : List Int) (w : World) (hl : l.length ≤ 1000) (hc : ∀ k (h : k < l.length), w.cell? ⟨b, k, none⟩ = some (.int .i64 l[k])) :
    Calls Tryd.prog 47 #[.slice (some ⟨b, 0, none⟩) l.length l.length] w fun e w' => e = .returned (.int .i64 (fnz l)) ∧ w = w' := by
  have HC := Lib.hid hc
  clear hc
  have G1 := Lib.hid (fun (k : Nat) (h : k < l.length) (e : l[k] ≠ 0) => (show fnz (l.drop k) = l[k] from by rw [drop_one l k h]; exact if_pos e))
  have G2 := Lib.hid (fun (k : Nat) (h : k < l.length) (e : ¬ l[k] ≠ 0) => (show fnz (l.drop k) = fnz (l.drop (k + 1)) from by rw [drop_one l k h]; exact if_neg e))
  have G3 := Lib.hid (show fnz (l.drop l.length) = 0 by rw [List.drop_length]; rfl)
  have G0 := Lib.hid (show fnz l = fnz (l.drop 0) from rfl)
  generalize fnz l = F at *
  go_enter Tryd.func47, Tryd.ntmps47
  go_wp2_with fail
  go_loop [8] (fun vi => ∃ k : Nat, vi = .int .i64 k ∧ k ≤ l.length ∧ Hid (F = fnz (l.drop k))) (fun vi => l.length - (intOf vi).toNat)
  case atStart => exact ⟨0, rfl, Nat.zero_le _, G0⟩
  case round =>
    obtain ⟨k, rfl, hk, HN⟩ := hrel
    by_cases hlt : k < l.length
    · have g1 := HC.out k hlt
      have i1 : (k : Int) < (l.length : Int) := by omega
      by_cases e : l[k] ≠ 0
      · have R := Lib.hid (HN.out.trans (G1.out k hlt e))
        have t1 : (l[k] != 0) = true := by simp [e]
        have t2 : (l[k] == 0) = false := beq_false_of_ne e
        clear G1 G2 G3 HN e
        generalize l[k] = z at *
        go_wp2_with fail
        go_ret
        exact ⟨ret_int R.out.symm, rfl⟩
      · have R := Lib.hid (HN.out.trans (G2.out k hlt e))
        have t1 : (l[k] != 0) = false := by simpa using e
        have t2 : (l[k] == 0) = true := by simpa using e
        clear G1 G2 G3 HN e
        generalize l[k] = z at *
        go_wp2_with fail
        go_round
        case rel => exact ⟨k + 1, by go_num, hlt, R⟩
        case measure => simp [intOf]; omega
    · obtain rfl : k = l.length := by omega
      have R := Lib.hid (HN.out.trans G3.out)
      clear G1 G2 G3 HN
      go_wp2_with fail
      go_ret
      exact ⟨ret_int R.out.symm, rfl⟩
theorem por3_any (b : Nat) (x y z : Int) (w : World) (h0 : w.cell? ⟨b, 0, none⟩ = some (.int .i64 x)) (h1 : w.cell? ⟨b, 1, none⟩ = some (.int .i64 y)) (h2 : w.cell? ⟨b, 2, none⟩ = some (.int .i64 z)) :
    Calls Tryd.prog 47 #[.slice (some ⟨b, 0, none⟩) 3 3] w fun e w' => e = .returned (.int .i64 (fnz [x, y, z])) ∧ w = w' :=
  por_any b [x, y, z] w (by simp) (fun k h => by
    match k, h with
    | 0, _ => exact h0
    | 1, _ => exact h1
    | 2, _ => exact h2)

set_option maxRecDepth 100000 in
set_option maxHeartbeats 4000000 in
theorem pless_any (a b : Vl) (w : World) : Calls Tryd.prog 23 #[vlV a, vlV b] w (OutB w (less a b)) := by
  have b0 := (alloc_below w (bxV a)).trans ((alloc_below (w.alloc (bxV a)) (bxV b)).mono (by simp))
  have XA := blk_alloc (blk_new w (bxV a)) (bxV b)
  have XV := blk_new (w.alloc (bxV a)) (bxV b)
  rw [show (w.alloc (bxV a)).heap.size = w.heap.size + 1 by simp] at XV
  have LE := Lib.hid (less_is a b)
  obtain ⟨W, hW⟩ : ∃ W, (w.alloc (bxV a)).alloc (bxV b) = W := ⟨_, rfl⟩
  have hz : w.heap.size + 1 < W.heap.size := by rw [← hW]; simp
  rw [hW] at XA XV b0
  obtain ⟨a1, a2, a3⟩ := a
  obtain ⟨b1, b2, b3⟩ := b
  have hW' : (w.alloc (.cells #[.int .i64 a1, .int .i64 a2, .string a3] 26)).alloc (.cells #[.int .i64 b1, .int .i64 b2, .string b3] 26) = W := hW
  have K1 := Lib.hid (fun (w1 : World) => pcmp_any a1 b1 w1)
  have K2 := Lib.hid (fun (w1 : World) => pcmp_any a2 b2 w1)
  have K3 := Lib.hid (fun (w1 : World) => pcmps_any a3 b3 w1)
  have K4 := Lib.hid (fun (g : Nat) (w1 : World) h0 h1 h2 => por3_any g (cmpV a1 b1) (cmpV a2 b2) (cmpS a3 b3) w1 h0 h1 h2)
  dsimp only at LE
  generalize fnz [cmpV a1 b1, cmpV a2 b2, cmpS a3 b3] = r at *
  generalize cmpV a1 b1 = r1 at *
  generalize cmpV a2 b2 = r2 at *
  generalize cmpS a3 b3 = r3 at *
  generalize less (a1, a2, a3) (b1, b2, b3) = F at *
  have HS := Lib.hid (fun (w1 : World) (hb : Below W.heap.size W w1) => (show (w1.cell? ⟨w.heap.size, 0, none⟩ = some (.int .i64 a1) ∧ w1.cell? ⟨w.heap.size, 1, none⟩ = some (.int .i64 a2) ∧ w1.cell? ⟨w.heap.size, 2, none⟩ = some (.string a3)) ∧ w1.cell? ⟨w.heap.size + 1, 0, none⟩ = some (.int .i64 b1) ∧ w1.cell? ⟨w.heap.size + 1, 1, none⟩ = some (.int .i64 b2) ∧ w1.cell? ⟨w.heap.size + 1, 2, none⟩ = some (.string b3) from by
    have Y := blk_below XA hb (by omega)
    have Z := blk_below XV hb (by omega)
    exact ⟨⟨blk_cell Y 0 rfl, blk_cell Y 1 rfl, blk_cell Y 2 rfl⟩, blk_cell Z 0 rfl, blk_cell Z 1 rfl, blk_cell Z 2 rfl⟩))
  have B0 := Lib.hid b0
  clear hW b0 XA XV hz
  go_enter Tryd.func23, Tryd.ntmps23
  go_upto_region 1 with fail
  try rw [hW']
  clear hW'
  refine wp_region_held_drew (S := (fun wy : World => (wy.cell? ⟨w.heap.size, 0, none⟩ = some (.int .i64 a1) ∧ wy.cell? ⟨w.heap.size, 1, none⟩ = some (.int .i64 a2) ∧ wy.cell? ⟨w.heap.size, 2, none⟩ = some (.string a3)) ∧ wy.cell? ⟨w.heap.size + 1, 0, none⟩ = some (.int .i64 b1) ∧ wy.cell? ⟨w.heap.size + 1, 1, none⟩ = some (.int .i64 b2) ∧ wy.cell? ⟨w.heap.size + 1, 2, none⟩ = some (.string b3))) (by kernel_rfl) (HS.out W (Below.refl _ _)) (fun hHeld => ?_)
  refine wpAnyH_take (i := 0) (v := (.pointer (some ⟨w.heap.size, 0, none⟩))) at_zero (by kernel_rfl) (by kernel_rfl) (by kernel_rfl) (fun _ _ _ h => h) (Or.inl ⟨by kernel_rfl, fun wy hSw => ?_⟩) (by assumption) ?_
  · (try dsimp only at hSw); go_simp
  try simp only [Act.put, List.setIfInBounds_toArray, List.set_cons_zero, List.set_cons_succ]
  refine wpAnyH_take (i := 1) (v := (.int .i64 a1)) (at_succ at_zero) (by kernel_rfl) (by kernel_rfl) (by kernel_rfl) (fun _ _ _ h => h) (Or.inl ⟨by kernel_rfl, fun wy hSw => ?_⟩) (by assumption) ?_
  · obtain ⟨⟨y0, y1, y2⟩, y3, y4, y5⟩ := hSw; go_simp
  try simp only [Act.put, List.setIfInBounds_toArray, List.set_cons_zero, List.set_cons_succ]
  refine wpAnyH_take (i := 2) (v := (.pointer (some ⟨w.heap.size + 1, 0, none⟩))) (at_succ (at_succ at_zero)) (by kernel_rfl) (by kernel_rfl) (by kernel_rfl) (fun _ _ _ h => h) (Or.inl ⟨by kernel_rfl, fun wy hSw => ?_⟩) (by assumption) ?_
  · (try dsimp only at hSw); go_simp
  try simp only [Act.put, List.setIfInBounds_toArray, List.set_cons_zero, List.set_cons_succ]
  refine wpAnyH_take (i := 3) (v := (.int .i64 b1)) (at_succ (at_succ (at_succ at_zero))) (by kernel_rfl) (by kernel_rfl) (by kernel_rfl) (fun _ _ _ h => h) (Or.inl ⟨by kernel_rfl, fun wy hSw => ?_⟩) (by assumption) ?_
  · obtain ⟨⟨y0, y1, y2⟩, y3, y4, y5⟩ := hSw; go_simp
  try simp only [Act.put, List.setIfInBounds_toArray, List.set_cons_zero, List.set_cons_succ]
  refine wpAnyH_take (i := 5) (v := (.pointer (some ⟨w.heap.size, 1, none⟩))) (at_succ (at_succ (at_succ (at_succ (at_succ at_zero))))) (by kernel_rfl) (by kernel_rfl) (by kernel_rfl) (fun _ _ _ h => h) (Or.inl ⟨by kernel_rfl, fun wy hSw => ?_⟩) (by assumption) ?_
  · (try dsimp only at hSw); go_simp
  try simp only [Act.put, List.setIfInBounds_toArray, List.set_cons_zero, List.set_cons_succ]
  refine wpAnyH_take (i := 6) (v := (.int .i64 a2)) (at_succ (at_succ (at_succ (at_succ (at_succ (at_succ at_zero)))))) (by kernel_rfl) (by kernel_rfl) (by kernel_rfl) (fun _ _ _ h => h) (Or.inl ⟨by kernel_rfl, fun wy hSw => ?_⟩) (by assumption) ?_
  · obtain ⟨⟨y0, y1, y2⟩, y3, y4, y5⟩ := hSw; go_simp
  try simp only [Act.put, List.setIfInBounds_toArray, List.set_cons_zero, List.set_cons_succ]
  refine wpAnyH_take (i := 7) (v := (.pointer (some ⟨w.heap.size + 1, 1, none⟩))) (at_succ (at_succ (at_succ (at_succ (at_succ (at_succ (at_succ at_zero))))))) (by kernel_rfl) (by kernel_rfl) (by kernel_rfl) (fun _ _ _ h => h) (Or.inl ⟨by kernel_rfl, fun wy hSw => ?_⟩) (by assumption) ?_
  · (try dsimp only at hSw); go_simp
  try simp only [Act.put, List.setIfInBounds_toArray, List.set_cons_zero, List.set_cons_succ]
  refine wpAnyH_take (i := 8) (v := (.int .i64 b2)) (at_succ (at_succ (at_succ (at_succ (at_succ (at_succ (at_succ (at_succ at_zero)))))))) (by kernel_rfl) (by kernel_rfl) (by kernel_rfl) (fun _ _ _ h => h) (Or.inl ⟨by kernel_rfl, fun wy hSw => ?_⟩) (by assumption) ?_
  · obtain ⟨⟨y0, y1, y2⟩, y3, y4, y5⟩ := hSw; go_simp
  try simp only [Act.put, List.setIfInBounds_toArray, List.set_cons_zero, List.set_cons_succ]
  refine wpAnyH_take (i := 10) (v := (.pointer (some ⟨w.heap.size, 2, none⟩))) (at_succ (at_succ (at_succ (at_succ (at_succ (at_succ (at_succ (at_succ (at_succ (at_succ at_zero)))))))))) (by kernel_rfl) (by kernel_rfl) (by kernel_rfl) (fun _ _ _ h => h) (Or.inl ⟨by kernel_rfl, fun wy hSw => ?_⟩) (by assumption) ?_
  · (try dsimp only at hSw); go_simp
  try simp only [Act.put, List.setIfInBounds_toArray, List.set_cons_zero, List.set_cons_succ]
  refine wpAnyH_take (i := 11) (v := (.string a3)) (at_succ (at_succ (at_succ (at_succ (at_succ (at_succ (at_succ (at_succ (at_succ (at_succ (at_succ at_zero))))))))))) (by kernel_rfl) (by kernel_rfl) (by kernel_rfl) (fun _ _ _ h => h) (Or.inl ⟨by kernel_rfl, fun wy hSw => ?_⟩) (by assumption) ?_
  · obtain ⟨⟨y0, y1, y2⟩, y3, y4, y5⟩ := hSw; go_simp
  try simp only [Act.put, List.setIfInBounds_toArray, List.set_cons_zero, List.set_cons_succ]
  refine wpAnyH_take (i := 12) (v := (.pointer (some ⟨w.heap.size + 1, 2, none⟩))) (at_succ (at_succ (at_succ (at_succ (at_succ (at_succ (at_succ (at_succ (at_succ (at_succ (at_succ (at_succ at_zero)))))))))))) (by kernel_rfl) (by kernel_rfl) (by kernel_rfl) (fun _ _ _ h => h) (Or.inl ⟨by kernel_rfl, fun wy hSw => ?_⟩) (by assumption) ?_
  · (try dsimp only at hSw); go_simp
  try simp only [Act.put, List.setIfInBounds_toArray, List.set_cons_zero, List.set_cons_succ]
  refine wpAnyH_take (i := 13) (v := (.string b3)) (at_succ (at_succ (at_succ (at_succ (at_succ (at_succ (at_succ (at_succ (at_succ (at_succ (at_succ (at_succ (at_succ at_zero))))))))))))) (by kernel_rfl) (by kernel_rfl) (by kernel_rfl) (fun _ _ _ h => h) (Or.inl ⟨by kernel_rfl, fun wy hSw => ?_⟩) (by assumption) ?_
  · obtain ⟨⟨y0, y1, y2⟩, y3, y4, y5⟩ := hSw; go_simp
  try simp only [Act.put, List.setIfInBounds_toArray, List.set_cons_zero, List.set_cons_succ]
  refine wpAnyH_ready (rs := [4]) (by kernel_rfl) (by simp) ?_
  refine AllReadyH.cons (at_succ (at_succ (at_succ (at_succ at_zero)))) (fun K hK => ?_) AllReadyH.nil
  rw [if_pos (by kernel_rfl)]
  go_simp
  refine (K1.out _).mono ?_
  rintro _ _ ⟨rfl, rfl⟩
  go_wp2_with fail
  refine hK.out _ _ (hHeld) (fun hHeld => ?_)
  clear hK K
  try simp only [Act.put, List.setIfInBounds_toArray, List.set_cons_zero, List.set_cons_succ]
  refine wpAnyH_ready (rs := [9]) (by kernel_rfl) (by simp) ?_
  refine AllReadyH.cons (at_succ (at_succ (at_succ (at_succ (at_succ (at_succ (at_succ (at_succ (at_succ at_zero))))))))) (fun K hK => ?_) AllReadyH.nil
  rw [if_pos (by kernel_rfl)]
  go_simp
  refine (K2.out _).mono ?_
  rintro _ _ ⟨rfl, rfl⟩
  go_wp2_with fail
  refine hK.out _ _ (hHeld) (fun hHeld => ?_)
  clear hK K
  try simp only [Act.put, List.setIfInBounds_toArray, List.set_cons_zero, List.set_cons_succ]
  refine wpAnyH_ready (rs := [14]) (by kernel_rfl) (by simp) ?_
  refine AllReadyH.cons (at_succ (at_succ (at_succ (at_succ (at_succ (at_succ (at_succ (at_succ (at_succ (at_succ (at_succ (at_succ (at_succ (at_succ at_zero)))))))))))))) (fun K hK => ?_) AllReadyH.nil
  rw [if_pos (by kernel_rfl)]
  go_simp
  refine (K3.out _).mono ?_
  rintro _ _ ⟨rfl, rfl⟩
  go_wp2_with fail
  refine hK.out _ _ (hHeld) (fun hHeld => ?_)
  clear hK K
  try simp only [Act.put, List.setIfInBounds_toArray, List.set_cons_zero, List.set_cons_succ]
  obtain ⟨W3, hW3⟩ : ∃ W3, W.drew = W3 := ⟨_, rfl⟩
  have BW3 := Lib.hid (show Below W.heap.size W W3 by rw [← hW3]; exact below_drewN (Below.refl _ _) 1)
  try rw [hW3]
  try rw [hW3] at hHeld
  clear hW3
  refine wpAnyH_ready (rs := [15]) (by kernel_rfl) (by simp) ?_
  refine AllReadyH.cons (at_succ (at_succ (at_succ (at_succ (at_succ (at_succ (at_succ (at_succ (at_succ (at_succ (at_succ (at_succ (at_succ (at_succ (at_succ at_zero))))))))))))))) (fun K hK => ?_) AllReadyH.nil
  rw [if_pos (by kernel_rfl)]
  go_simp
  refine hK.out _ _ (HS.out _ (BW3.out.trans ((alloc_below _ _).mono BW3.out.size))) (fun hHeld => ?_)
  clear hK K
  try simp only [Act.put, List.setIfInBounds_toArray, List.set_cons_zero, List.set_cons_succ]
  obtain ⟨W4, hW4⟩ : ∃ W4, W3.alloc (.cells #[.int .i64 r1, .int .i64 r2, .int .i64 r3] 3) = W4 := ⟨_, rfl⟩
  have X4 := Lib.hid (show W4.heap[W3.heap.size]? = some (.cells #[.int .i64 r1, .int .i64 r2, .int .i64 r3] 3) by rw [← hW4]; exact blk_new _ _)
  have B4 := Lib.hid (show Below W.heap.size W W4 by rw [← hW4]; exact BW3.out.trans ((alloc_below _ _).mono BW3.out.size))
  try rw [hW4]
  try rw [hW4] at hHeld
  clear hW4
  refine wpAnyH_ready (rs := [16]) (by kernel_rfl) (by simp) ?_
  refine AllReadyH.cons (at_succ (at_succ (at_succ (at_succ (at_succ (at_succ (at_succ (at_succ (at_succ (at_succ (at_succ (at_succ (at_succ (at_succ (at_succ (at_succ at_zero)))))))))))))))) (fun K hK => ?_) AllReadyH.nil
  rw [if_pos (by kernel_rfl)]
  go_simp
  refine (K4.out _ _ (blk_cell X4.out 0 rfl) (blk_cell X4.out 1 rfl) (blk_cell X4.out 2 rfl)).mono ?_
  rintro _ _ ⟨rfl, rfl⟩
  go_wp2_with fail
  refine hK.out _ _ (hHeld) (fun hHeld => ?_)
  clear hK K
  try simp only [Act.put, List.setIfInBounds_toArray, List.set_cons_zero, List.set_cons_succ]
  refine wpAnyH_take (i := 17) (v := (.bool (decide (r < 0)))) (at_succ (at_succ (at_succ (at_succ (at_succ (at_succ (at_succ (at_succ (at_succ (at_succ (at_succ (at_succ (at_succ (at_succ (at_succ (at_succ (at_succ at_zero))))))))))))))))) (by kernel_rfl) (by kernel_rfl) (by kernel_rfl) (fun _ _ _ h => h) (Or.inl ⟨by kernel_rfl, fun wy hSw => ?_⟩) (by assumption) ?_
  · (try dsimp only at hSw); go_simp
  try simp only [Act.put, List.setIfInBounds_toArray, List.set_cons_zero, List.set_cons_succ]
  refine wpAnyH_take (i := 18) (v := (.bool (decide (r < 0)))) (at_succ (at_succ (at_succ (at_succ (at_succ (at_succ (at_succ (at_succ (at_succ (at_succ (at_succ (at_succ (at_succ (at_succ (at_succ (at_succ (at_succ (at_succ at_zero)))))))))))))))))) (by kernel_rfl) (by kernel_rfl) (by kernel_rfl) (fun _ _ _ h => h) (Or.inl ⟨by kernel_rfl, fun wy hSw => ?_⟩) (by assumption) ?_
  · (try dsimp only at hSw); go_simp
  try simp only [Act.put, List.setIfInBounds_toArray, List.set_cons_zero, List.set_cons_succ]
  refine wpAnyH_done (by kernel_rfl) ?_ _
  clear hHeld
  have B5 := Lib.hid (B0.out.trans (B4.out.mono B0.out.size))
  go_wp2_with fail
  go_ret
  exact outB LE.out.symm B5.out

theorem bsz (s : ByteArray) (h : s.size ≤ 60) : (bs (enT s)).size ≤ 100 := by have := enT_sz s; omega
set_option maxRecDepth 100000 in
set_option maxHeartbeats 4000000 in
theorem pput_any (v : Vl) (w : World) (hv : v.2.2.size ≤ 100000) (h1 : I64 v.1) (h2 : I64 v.2.1) :
    Calls Tryd.prog 27 #[vlV v] w (OutY w (bs (put v))) := by
  have b0 := alloc_below w (bxV v)
  have X := blk_new w (bxV v)
  have KC := Lib.hid (pcheck_any v (w.alloc (bxV v)) (by omega))
  unfold OutI at KC
  have hz : w.heap.size < (w.alloc (bxV v)).heap.size := by simp
  have E0 := Lib.hid (put_nrm v)
  have N1 := Lib.hid (fun h => nrm_of (v := v) h)
  have N2 : chk v ≠ 0 → nrm v = z0 := fun h => if_neg h
  have OKN := nrm_ok v
  have HX := Lib.hid (fun (w1 : World) (hb : Below (w.alloc (bxV v)).heap.size (w.alloc (bxV v)) w1) => And.intro (blk_below X hb hz) (b0.trans (hb.mono b0.size)))
  have b0 := Lib.hid b0
  generalize put v = P at *
  generalize chk v = cv at *
  obtain ⟨k, n, s⟩ := v
  dsimp only at HX KC h1 h2 hv b0
  have c0 := blk_cell X 0 (v := .int .i64 k) rfl
  have c1 := blk_cell X 1 (v := .int .i64 n) rfl
  have c2 := blk_cell X 2 (v := .string s) rfl
  clear X hz
  go_enter Tryd.func27, Tryd.ntmps27
  go_wp2_with fail
  refine KC.out.mono ?_
  rintro _ W1 ⟨rfl, hb1⟩
  clear c0 c1 c2
  obtain ⟨X1, B1⟩ := HX.out W1 hb1
  clear HX KC hb1 b0
  go_upto_if 6 with fail
  go_cut [] (fun wx => Hid (wx.heap[w.heap.size]? = some (bxV (nrm (k, n, s)))) ∧ Below w.heap.size w wx)
  case first =>
    by_cases hc : cv = 0
    · have t1 : (cv != 0) = false := by simp [hc]
      have XN := Lib.hid (show W1.heap[w.heap.size]? = some (bxV (nrm (k, n, s))) by rw [N1.out hc]; exact X1)
      have B1 := Lib.hid B1
      clear N1 N2 hc X1 E0 OKN b0
      go_wp2_with fail
      go_meet
      case rel => exact ⟨XN, B1.out⟩
    · have t1 : (cv != 0) = true := by simp [hc]
      obtain ⟨V, hV⟩ : ∃ V, V = putV W1 w.heap.size (0, 0, { data := #[] }) := ⟨_, rfl⟩
      have RV := Lib.hid (show V.heap[w.heap.size]? = some (bxV (nrm (k, n, s))) by rw [hV, N2 hc]; exact putV_blk X1 _)
      have BV := Lib.hid (show Below w.heap.size w V by rw [hV]; exact putV_below B1 (Nat.le_refl _) _)
      have c0 := blk_cell X1 0 (v := .int .i64 k) rfl
      have c1 := blk_cell X1 1 (v := .int .i64 n) rfl
      have c2 := blk_cell X1 2 (v := .string s) rfl
      have x0 := blk_fr X1 0
      have x1 := blk_fr X1 1
      have x2 := blk_fr X1 2
      clear N1 N2 hc X1 B1 E0 OKN b0
      unfold putV at hV
      dsimp only at hV
      go_wp2_with fail
      rw [← hV]
      go_meet
      case rel => exact ⟨RV, BV.out⟩
  case rest => as_aux_lemma =>
  obtain ⟨XN, BN⟩ := hcut
  clear X1 B1 b0 N1 N2 h1 h2 hv
  obtain ⟨⟨k2, n2, s2⟩, hu⟩ : ∃ u, nrm (k, n, s) = u := ⟨_, rfl⟩
  rw [hu] at XN OKN E0
  clear hu
  have hn2 := chk_n OKN
  obtain ⟨g1, g2, _, _, g5, _⟩ := chk_iff.1 OKN
  dsimp only at hn2 g1 g2 g5
  have BN := Lib.hid BN
  have hlt := blk_lt XN.out
  have KI := Lib.hid (fun (m : Int) (w : World) (hm : Wire.I64 m) => Wire.int_any m w hm)
  have KT := Lib.hid (fun (w : World) => Wire.text_any s2 w (by omega))
  unfold Wire.OutS at KI KT
  clear OKN
  have SC := Lib.hid (show ∀ wy, Below wc.heap.size wc wy → wy.cell? ⟨w.heap.size, 0, none⟩ = some (.int .i64 k2) ∧ wy.cell? ⟨w.heap.size, 1, none⟩ = some (.int .i64 n2) ∧ wy.cell? ⟨w.heap.size, 2, none⟩ = some (.string s2) from fun wy hb => ⟨blk_cell (blk_below XN.out hb hlt) 0 rfl, blk_cell (blk_below XN.out hb hlt) 1 rfl, blk_cell (blk_below XN.out hb hlt) 2 rfl⟩)
  obtain ⟨c0, c1, c2⟩ := SC.out wc (Below.refl _ _)
  have L1 := enI_sz k2
  have L2 := enI_sz n2
  have L3 := bsz s2 g5
  have KI1 := Lib.hid (KI.out k2 wc (by unfold Wire.I64; omega))
  go_wp2_with fail
  refine KI1.out.mono ?_
  rintro _ w2 ⟨rfl, hb⟩
  have B2 := Lib.hid (BN.out.trans (hb.mono BN.out.size))
  clear c0 c1 c2 KI1
  obtain ⟨c0, c1, c2⟩ := SC.out w2 hb
  clear hb SC XN
  by_cases k0 : k2 = 0
  · subst k0
    have E := Lib.hid (show bs (enI 0) = bs P by rw [E0.out]; unfold put0; dsimp only; rw [if_pos rfl, List.append_nil])
    clear E0 KT KI L1 L2 L3
    go_wp2_with fail
    go_ret
    exact ⟨by rw [← E.out]; rfl, B2.out⟩
  have t3 : (k2 == 0) = false := beq_false_of_ne k0
  by_cases k4 : k2 = 4
  · subst k4
    have E := Lib.hid (show bs (enI 4) ++ bs (enT s2) = bs P by rw [E0.out, bs_app]; unfold put0; dsimp only; rw [if_neg (by decide), if_pos rfl])
    have LZ : (bs (enI 4)).size + (bs (enT s2)).size ≤ 9223372036854775807 := by omega
    have KT := Lib.hid (KT.out w2)
    clear E0 k0 KI L1 L2 L3
    generalize bs (enI 4) = e4 at *
    generalize bs (enT s2) = e5 at *
    go_wp2_with fail
    refine KT.out.mono ?_
    rintro _ w3 ⟨rfl, hb⟩
    have B3 := Lib.hid (B2.out.trans (hb.mono B2.out.size))
    clear hb KT c0 c1 c2
    go_wp2_with fail
    go_ret
    exact ⟨by rw [← E.out]; rfl, B3.out⟩
  have t4 : (k2 == 4) = false := beq_false_of_ne k4
  have E := Lib.hid (show bs (enI k2) ++ bs (enI n2) = bs P by rw [E0.out, bs_app]; unfold put0; dsimp only; rw [if_neg k0, if_neg k4])
  have LZ : (bs (enI k2)).size + (bs (enI n2)).size ≤ 9223372036854775807 := by omega
  have KI := Lib.hid (KI.out n2 w2 (by unfold Wire.I64; omega))
  clear E0 k0 k4 KT L1 L2 L3
  generalize bs (enI k2) = e4 at *
  generalize bs (enI n2) = e5 at *
  go_wp2_with fail
  refine KI.out.mono ?_
  rintro _ w3 ⟨rfl, hb⟩
  have B3 := Lib.hid (B2.out.trans (hb.mono B2.out.size))
  clear hb KI c0 c1 c2
  go_wp2_with fail
  go_ret
  exact ⟨by rw [← E.out]; rfl, B3.out⟩
end Go.Proofs.YtagkmfhicpcjnaaDoor.Vlu
/- Package value: Limit. -/
set_option linter.unusedVariables false
set_option maxRecDepth 100000
namespace Go.Proofs.YtagkmfhicpcjnaaDoor.Vlu
open Go.RowKit
open Names (nm quo unq)
open Wire (bs enI enT)

set_option maxRecDepth 100000 in
set_option maxHeartbeats 4000000 in
theorem plmt_any (a : At) (A : Option Addr) (c : Nat) (v : Vl) (w : World) (hn : a.n.size ≤ 9223372036854775807) (hl : a.en.length ≤ 9223372036854775807) (hA : StS w A c a.en) :
    Calls Tryd.prog 21 #[atV a A c, vlV v] w (OutV w (lmt a v)) := by
  have b0 := alloc_below w (bxA a A c)
  have b1 := alloc_below (w.alloc (bxA a A c)) (bxV v)
  have b2 := alloc_below ((w.alloc (bxA a A c)).alloc (bxV v)) (bxV z0)
  have b01 := (b0.trans (b1.mono (by simp))).trans (b2.mono (by simp; omega))
  have XA := blk_alloc (blk_alloc (blk_new w (bxA a A c)) (bxV v)) (bxV z0)
  have XV := blk_alloc (blk_new (w.alloc (bxA a A c)) (bxV v)) (bxV z0)
  have XZ := blk_new ((w.alloc (bxA a A c)).alloc (bxV v)) (bxV z0)
  rw [show (w.alloc (bxA a A c)).heap.size = w.heap.size + 1 by simp] at XV
  rw [show ((w.alloc (bxA a A c)).alloc (bxV v)).heap.size = w.heap.size + 2 by simp] at XZ
  have hz : w.heap.size + 2 < (((w.alloc (bxA a A c)).alloc (bxV v)).alloc (bxV z0)).heap.size := by simp
  have hA1 := ((hA.next b0).next b1).next b2
  have L1 := Lib.hid (lmt_not (a := a) (v := v))
  have L2 := Lib.hid (fun h hk hv => (lmt_int (a := a) (v := v) h hk hv).trans (show _ = (v.1, min (max v.2.1 a.mn) a.mx, v.2.2) by rw [clp_min]))
  obtain ⟨W, hW⟩ : ∃ W, ((w.alloc (bxA a A c)).alloc (bxV v)).alloc (bxV z0) = W := ⟨_, rfl⟩
  rw [hW] at XA XV XZ hz hA1 b01
  have KD := Lib.hid (pdef_any a A c W hn hl hA1)
  have HA := Lib.hid (fun (w1 : World) (hb : Below W.heap.size W w1) => And.intro (blk_below XA hb (by omega)) (And.intro (blk_below XV hb (by omega)) (And.intro (blk_below XZ hb (by omega)) (b01.trans (hb.mono b01.size)))))
  unfold OutI at KD
  have XA := Lib.hid XA
  clear b0 b1 b2 b01 hA hA1 hn hz XV XZ hl
  generalize lmt a v = F at *
  generalize dfn a = d at *
  obtain ⟨an, ak, amn, amx, en, awr, asf⟩ := a
  obtain ⟨k, n, s⟩ := v
  have hW' : ((w.alloc (.cells #[.string an, .int .i64 ak, .int .i64 amn, .int .i64 amx, .slice A en.length c, .bool awr, .bool asf] 24)).alloc (.cells #[.int .i64 k, .int .i64 n, .string s] 26)).alloc (.cells #[.int .i64 0, .int .i64 0, .string { data := #[] }] 26) = W := hW
  dsimp only at L1 L2 KD
  have KC := Lib.hid (fun (w1 : World) => clamp_any n amn amx w1)
  generalize min (max n amn) amx = m at *
  clear hW
  go_enter Tryd.func21, Tryd.ntmps21
  go_upto_region 1 with fail
  try rw [hW']
  clear hW'
  by_cases hk : ak = 2
  case neg =>
    have t1 : (ak == 2) = false := beq_false_of_ne hk
    have R := Lib.hid (L1.out (Or.inr (Or.inl hk)))
    clear L1 L2 hk KD KC
    obtain ⟨Y, Z, U, B⟩ := HA.out W (Below.refl _ _)
    replace Y := Lib.hid Y
    replace Z := Lib.hid Z
    replace U := Lib.hid U
    replace B := Lib.hid B
    clear HA XA
    have p0 := blk_cell Y.out 0 (v := .string an) rfl
    have p1 := blk_cell Y.out 1 (v := .int .i64 ak) rfl
    have p2 := blk_cell Y.out 2 (v := .int .i64 amn) rfl
    have p3 := blk_cell Y.out 3 (v := .int .i64 amx) rfl
    have p4 := blk_cell Y.out 4 (v := .slice A en.length c) rfl
    have p5 := blk_cell Y.out 5 (v := .bool awr) rfl
    have p6 := blk_cell Y.out 6 (v := .bool asf) rfl
    have v0 := blk_cell Z.out 0 (v := .int .i64 k) rfl
    have v1 := blk_cell Z.out 1 (v := .int .i64 n) rfl
    have v2 := blk_cell Z.out 2 (v := .string s) rfl
    obtain ⟨V, hV⟩ : ∃ V, V = putV W (w.heap.size + 2) (k, n, s) := ⟨_, rfl⟩
    have RV := Lib.hid (show V.heap[w.heap.size + 2]? = some (bxV (k, n, s)) by rw [hV]; exact putV_blk U.out _)
    have BV := Lib.hid (show Below w.heap.size w V by rw [hV]; exact putV_below B.out (by omega) _)
    have zz0 := blk_cell U.out 0 (v := .int .i64 0) rfl
    have zz1 := blk_cell U.out 1 (v := .int .i64 0) rfl
    have zz2 := blk_cell U.out 2 (v := .string { data := #[] }) rfl
    have xx0 := blk_fr U.out 0
    have xx1 := blk_fr U.out 1
    have xx2 := blk_fr U.out 2
    unfold putV at hV
    dsimp only at hV
    go_wp2_with fail
    rw [← hV]
    have t0 := blk_cell RV.out 0 (v := .int .i64 k) rfl
    have t1 := blk_cell RV.out 1 (v := .int .i64 n) rfl
    have t2 := blk_cell RV.out 2 (v := .string s) rfl
    refine bodyPost_ret (v := .agg #[.int .i64 k, .int .i64 n, .string s]) (by simp [results, Tryd.results21, go_sem, t0, t1, t2]) rfl ⟨?_, BV.out⟩
    rw [R.out]
  by_cases hv : k = 2
  case neg =>
    have t1 : (ak == 2) = true := by simp [hk]
    have t2 : (k == 2) = false := beq_false_of_ne hv
    have R := Lib.hid (L1.out (Or.inr (Or.inr hv)))
    clear L1 L2 hk hv KD KC
    obtain ⟨Y, Z, U, B⟩ := HA.out W (Below.refl _ _)
    replace Y := Lib.hid Y
    replace Z := Lib.hid Z
    replace U := Lib.hid U
    replace B := Lib.hid B
    clear HA XA
    have p0 := blk_cell Y.out 0 (v := .string an) rfl
    have p1 := blk_cell Y.out 1 (v := .int .i64 ak) rfl
    have p2 := blk_cell Y.out 2 (v := .int .i64 amn) rfl
    have p3 := blk_cell Y.out 3 (v := .int .i64 amx) rfl
    have p4 := blk_cell Y.out 4 (v := .slice A en.length c) rfl
    have p5 := blk_cell Y.out 5 (v := .bool awr) rfl
    have p6 := blk_cell Y.out 6 (v := .bool asf) rfl
    have v0 := blk_cell Z.out 0 (v := .int .i64 k) rfl
    have v1 := blk_cell Z.out 1 (v := .int .i64 n) rfl
    have v2 := blk_cell Z.out 2 (v := .string s) rfl
    obtain ⟨V, hV⟩ : ∃ V, V = putV W (w.heap.size + 2) (k, n, s) := ⟨_, rfl⟩
    have RV := Lib.hid (show V.heap[w.heap.size + 2]? = some (bxV (k, n, s)) by rw [hV]; exact putV_blk U.out _)
    have BV := Lib.hid (show Below w.heap.size w V by rw [hV]; exact putV_below B.out (by omega) _)
    have zz0 := blk_cell U.out 0 (v := .int .i64 0) rfl
    have zz1 := blk_cell U.out 1 (v := .int .i64 0) rfl
    have zz2 := blk_cell U.out 2 (v := .string { data := #[] }) rfl
    have xx0 := blk_fr U.out 0
    have xx1 := blk_fr U.out 1
    have xx2 := blk_fr U.out 2
    unfold putV at hV
    dsimp only at hV
    go_wp2_with fail
    rw [← hV]
    have t0 := blk_cell RV.out 0 (v := .int .i64 k) rfl
    have t1 := blk_cell RV.out 1 (v := .int .i64 n) rfl
    have t2 := blk_cell RV.out 2 (v := .string s) rfl
    refine bodyPost_ret (v := .agg #[.int .i64 k, .int .i64 n, .string s]) (by simp [results, Tryd.results21, go_sem, t0, t1, t2]) rfl ⟨?_, BV.out⟩
    rw [R.out]
  have t1 : (ak == 2) = true := by simp [hk]
  have t2 : (k == 2) = true := by simp [hv]
  replace hk := Lib.hid hk
  replace hv := Lib.hid hv
  obtain ⟨Y0, Z0, _, _⟩ := HA.out W (Below.refl _ _)
  have p0 := blk_cell Y0 0 (v := .string an) rfl
  have p1 := blk_cell Y0 1 (v := .int .i64 ak) rfl
  have p2 := blk_cell Y0 2 (v := .int .i64 amn) rfl
  have p3 := blk_cell Y0 3 (v := .int .i64 amx) rfl
  have p4 := blk_cell Y0 4 (v := .slice A en.length c) rfl
  have p5 := blk_cell Y0 5 (v := .bool awr) rfl
  have p6 := blk_cell Y0 6 (v := .bool asf) rfl
  have v0 := blk_cell Z0 0 (v := .int .i64 k) rfl
  have v1 := blk_cell Z0 1 (v := .int .i64 n) rfl
  have v2 := blk_cell Z0 2 (v := .string s) rfl
  clear Y0 Z0 XA
  go_wp2_with fail
  refine KD.out.mono ?_
  rintro _ W1 ⟨rfl, hb1⟩
  clear p0 p1 p2 p3 p4 p5 p6 v0 v1 v2 KD
  obtain ⟨Y, Z, U, B⟩ := HA.out W1 hb1
  replace Y := Lib.hid Y
  replace Z := Lib.hid Z
  replace U := Lib.hid U
  replace B := Lib.hid B
  clear HA hb1
  by_cases hd : d = 0
  case neg =>
    have t3 : (d == 0) = false := beq_false_of_ne hd
    have R := Lib.hid (L1.out (Or.inl hd))
    clear L1 L2 hk hv hd KC
    have v0 := blk_cell Z.out 0 (v := .int .i64 k) rfl
    have v1 := blk_cell Z.out 1 (v := .int .i64 n) rfl
    have v2 := blk_cell Z.out 2 (v := .string s) rfl
    obtain ⟨V, hV⟩ : ∃ V, V = putV W1 (w.heap.size + 2) (k, n, s) := ⟨_, rfl⟩
    have RV := Lib.hid (show V.heap[w.heap.size + 2]? = some (bxV (k, n, s)) by rw [hV]; exact putV_blk U.out _)
    have BV := Lib.hid (show Below w.heap.size w V by rw [hV]; exact putV_below B.out (by omega) _)
    have zz0 := blk_cell U.out 0 (v := .int .i64 0) rfl
    have zz1 := blk_cell U.out 1 (v := .int .i64 0) rfl
    have zz2 := blk_cell U.out 2 (v := .string { data := #[] }) rfl
    have xx0 := blk_fr U.out 0
    have xx1 := blk_fr U.out 1
    have xx2 := blk_fr U.out 2
    unfold putV at hV
    dsimp only at hV
    go_wp2_with fail
    rw [← hV]
    have t0 := blk_cell RV.out 0 (v := .int .i64 k) rfl
    have t1 := blk_cell RV.out 1 (v := .int .i64 n) rfl
    have t2 := blk_cell RV.out 2 (v := .string s) rfl
    refine bodyPost_ret (v := .agg #[.int .i64 k, .int .i64 n, .string s]) (by simp [results, Tryd.results21, go_sem, t0, t1, t2]) rfl ⟨?_, BV.out⟩
    rw [R.out]
  have t3 : (d == 0) = true := by simp [hd]
  have R := Lib.hid (L2.out hd hk.out hv.out)
  clear L1 L2 hk hv hd
  have p0 := blk_cell Y.out 0 (v := .string an) rfl
  have p1 := blk_cell Y.out 1 (v := .int .i64 ak) rfl
  have p2 := blk_cell Y.out 2 (v := .int .i64 amn) rfl
  have p3 := blk_cell Y.out 3 (v := .int .i64 amx) rfl
  have p4 := blk_cell Y.out 4 (v := .slice A en.length c) rfl
  have p5 := blk_cell Y.out 5 (v := .bool awr) rfl
  have p6 := blk_cell Y.out 6 (v := .bool asf) rfl
  have v0 := blk_cell Z.out 0 (v := .int .i64 k) rfl
  have v1 := blk_cell Z.out 1 (v := .int .i64 n) rfl
  have v2 := blk_cell Z.out 2 (v := .string s) rfl
  have g0 := blk_fr Z.out 0
  have g1 := blk_fr Z.out 1
  have g2 := blk_fr Z.out 2
  have Z2 := Lib.hid (blk_set Z.out 1 (.int .i64 m))
  have U2 := Lib.hid (blk_other U.out (show w.heap.size + 2 ≠ w.heap.size + 1 by omega) (.int .i64 m) (a := ⟨w.heap.size + 1, 1, none⟩))
  have B2 := Lib.hid (B.out.setCell (p := ⟨w.heap.size + 1, 1, none⟩) (by dsimp only; omega) (.int .i64 m))
  go_wp2_with fail
  refine (KC.out _).mono ?_
  rintro _ _ ⟨rfl, rfl⟩
  go_upto_region 3 with fail
  obtain ⟨W2, hW2⟩ : ∃ W2, W1.setCell ⟨w.heap.size + 1, 1, none⟩ (.int .i64 m) = W2 := ⟨_, rfl⟩
  rw [hW2] at Z2 U2 B2 ⊢
  clear hW2 p0 p1 p2 p3 p4 p5 p6 v0 v1 v2 g0 g1 g2 Y Z U B KC
  have r0 := blk_cell Z2.out 0 (v := .int .i64 k) rfl
  have r1 := blk_cell Z2.out 1 (v := .int .i64 m) rfl
  have r2 := blk_cell Z2.out 2 (v := .string s) rfl
  obtain ⟨V, hV⟩ : ∃ V, V = putV W2 (w.heap.size + 2) (k, m, s) := ⟨_, rfl⟩
  have RV := Lib.hid (show V.heap[w.heap.size + 2]? = some (bxV (k, m, s)) by rw [hV]; exact putV_blk U2.out _)
  have BV := Lib.hid (show Below w.heap.size w V by rw [hV]; exact putV_below B2.out (by omega) _)
  have zz0 := blk_cell U2.out 0 (v := .int .i64 0) rfl
  have zz1 := blk_cell U2.out 1 (v := .int .i64 0) rfl
  have zz2 := blk_cell U2.out 2 (v := .string { data := #[] }) rfl
  have xx0 := blk_fr U2.out 0
  have xx1 := blk_fr U2.out 1
  have xx2 := blk_fr U2.out 2
  unfold putV at hV
  dsimp only at hV
  go_wp2_with fail
  rw [← hV]
  have t0 := blk_cell RV.out 0 (v := .int .i64 k) rfl
  have t1 := blk_cell RV.out 1 (v := .int .i64 m) rfl
  have t2 := blk_cell RV.out 2 (v := .string s) rfl
  refine bodyPost_ret (v := .agg #[.int .i64 k, .int .i64 m, .string s]) (by simp [results, Tryd.results21, go_sem, t0, t1, t2]) rfl ⟨?_, BV.out⟩
  rw [R.out]
end Go.Proofs.YtagkmfhicpcjnaaDoor.Vlu
/- Package value: Take. -/
set_option linter.unusedVariables false
set_option maxRecDepth 100000
namespace Go.Proofs.YtagkmfhicpcjnaaDoor.Vlu
open Go.RowKit
open Wire (bs enI enT fInt fText pt PB Out)

structure StP (w wx : World) (c b1 b2 : Nat) (s : ByteArray) (e : Int) (u : Vl) : Prop where
  r : PB wx c s e true
  x : wx.heap[b2]? = some (bxV u)
  z : wx.heap[b1]? = some (bxV z0)
  g : w.grownBy wx (some c)
theorem StP.grown {w wx wy : World} {c b1 b2 : Nat} {s s' : ByteArray} {e e' : Int} {u : Vl} (h : StP w wx c b1 b2 s e u) (hg : wx.grownBy wy (some c)) (h1 : b1 ≠ c) (h2 : b2 ≠ c) (hr : PB wy c s' e' true) : StP w wy c b1 b2 s' e' u :=
  ⟨hr, blk_grown h.x hg (fun q => h2 (Option.some.inj q)), blk_grown h.z hg (fun q => h1 (Option.some.inj q)), gr_trans h.g hg⟩
theorem StP.below {w wx wy : World} {c b1 b2 : Nat} {s : ByteArray} {e : Int} {u : Vl} (h : StP w wx c b1 b2 s e u) (hb : Below wx.heap.size wx wy) : StP w wy c b1 b2 s e u :=
  ⟨(hb.block c h.r.lt).trans h.r, blk_below h.x hb (blk_lt h.x), blk_below h.z hb (blk_lt h.z), gr_trans h.g (gb_below hb)⟩
theorem StP.box {w wx : World} {c b1 b2 : Nat} {s : ByteArray} {e : Int} {u : Vl} (h : StP w wx c b1 b2 s e u) (j : Nat) (v : Value) (u' : Vl) (hc : c ≠ b2) (h1 : b1 ≠ b2) (hb : w.heap.size ≤ b2) (hu : (#[.int .i64 u.1, .int .i64 u.2.1, .string u.2.2] : Array Value).setIfInBounds j v = #[.int .i64 u'.1, .int .i64 u'.2.1, .string u'.2.2]) : StP w (wx.setCell ⟨b2, j, none⟩ v) c b1 b2 s e u' := by
  refine ⟨blk_other h.r hc v, ?_, blk_other h.z h1 v, gr_set h.g hb j v⟩
  have := blk_set h.x j v
  rw [hu] at this
  exact this
theorem StP.out {w wx : World} {c b1 b2 : Nat} {s : ByteArray} {e : Int} {u : Vl} (h : StP w wx c b1 b2 s e u) (v : Vl) (hc : c ≠ b1) (hb : w.heap.size ≤ b1) : PB (putV wx b1 v) c s e true ∧ (putV wx b1 v).heap[b1]? = some (bxV v) ∧ w.grownBy (putV wx b1 v) (some c) := by
  refine ⟨?_, putV_blk h.z v, ?_⟩
  · unfold putV
    exact blk_other (a := ⟨b1, 2, none⟩) (blk_other (a := ⟨b1, 1, none⟩) (blk_other (a := ⟨b1, 0, none⟩) h.r hc _) hc _) hc _
  · unfold putV
    exact gr_set (gr_set (gr_set h.g hb 0 _) hb 1 _) hb 2 _
set_option maxRecDepth 100000 in
set_option maxHeartbeats 8000000 in
theorem ptake_live (c : Nat) (S : ByteArray) (w : World) (hs : S.size ≤ 100000) (h : PB w c S 0 true) :
    Calls Tryd.prog 31 #[pt c] w (Out c w (vlV (tk S).1) (tk S).2.1 (tk S).2.2) := by
  have hlt := h.lt
  have X0 := blk_new w (bxV z0)
  have h0 : PB (w.alloc (bxV z0)) c S 0 true := blk_alloc h _
  have G0 : w.grownBy (w.alloc (bxV z0)) (some c) := gb_below (alloc_below w (bxV z0))
  have hz0 : w.heap.size < (w.alloc (bxV z0)).heap.size := by simp
  have KI := Lib.hid (Wire.live_int c S (w.alloc (bxV z0)) hs h0)
  have hsz : S.size ≤ 100000 := hs
  have FB := Lib.hid (fun e => Wire.fInt_bad S hsz e)
  have F6 : Wire.I64 (fInt S).1 := Wire.fInt_64 _ hsz
  obtain ⟨X, hX⟩ : ∃ X, tk S = X := ⟨_, rfl⟩
  have EQ : X = tk S := hX.symm
  rw [hX]
  unfold tk at EQ
  have ht1 := Wire.fInt_size S hs
  obtain ⟨k, t1, e1, hk⟩ : ∃ k t1 e1, fInt S = (k, t1, e1) := ⟨_, _, _, rfl⟩
  rw [hk] at ht1
  have ht1 : t1.size ≤ 100000 := Nat.le_trans ht1 hs
  rw [hk] at KI FB EQ F6
  dsimp only at KI FB EQ F6
  replace EQ := Lib.hid EQ
  unfold Out at KI
  clear h h0 hX hk hsz
  go_enter Tryd.func31, Tryd.ntmps31
  go_wp2_with fail
  refine KI.out.mono ?_
  rintro _ w1 ⟨rfl, hr1, hg1⟩
  have hl1 : w.heap.size < w1.heap.size := Nat.lt_of_lt_of_le hz0 hg1.size
  have ST := Lib.hid (show StP w (w1.alloc (bxV (k, 0, ByteArray.empty))) c w.heap.size w1.heap.size t1 e1 (k, 0, ByteArray.empty) from
    ⟨blk_alloc hr1 _, blk_new w1 _, blk_alloc (blk_grown X0 hg1 (fun q => by simp only [Option.some.injEq] at q; omega)) _, gr_trans (gr_trans G0 hg1) (gb_below (alloc_below w1 _))⟩)
  go_upto_region 2 with fail
  obtain ⟨W, hW⟩ : ∃ W, w1.alloc (.cells #[.int .i64 k, .int .i64 0, .string { data := #[] }] 26) = W := ⟨_, rfl⟩
  have hW2 : w1.alloc (bxV (k, 0, ByteArray.empty)) = W := hW
  rw [hW2] at ST
  rw [hW]
  obtain ⟨b2, hb2⟩ : ∃ b2, w1.heap.size = b2 := ⟨_, rfl⟩
  rw [hb2] at ST hl1 ⊢
  clear hW hW2 hb2 hr1 hg1 KI X0 G0 hz0
  obtain ⟨b1, hb1⟩ : ∃ b1, w.heap.size = b1 := ⟨_, rfl⟩
  have HB1 := Lib.hid hb1
  rw [hb1] at ST hl1 hlt ⊢
  clear hb1
  by_cases k4 : k = 4
  · have he1 : e1 = 0 := Classical.byContradiction fun q => by have := FB.out q; omega
    subst he1 k4
    replace EQ := Lib.hid (EQ.out.trans ((if_neg (by decide)).trans (if_pos rfl)))
    have KT := Lib.hid (Wire.live_text c 60 t1 W ht1 (by decide) ST.out.r)
    obtain ⟨u1, t2, e2, hu⟩ : ∃ u1 t2 e2, fText 60 t1 = (u1, t2, e2) := ⟨_, _, _, rfl⟩
    have hus := Lib.hid (show u1.size ≤ 9223372036854775807 from by
      have := text_size t1
      rw [hu] at this
      exact this)
    rw [hu] at KT EQ
    dsimp only at KT EQ
    unfold Out at KT
    replace EQ := Lib.hid EQ.out
    have c0 := blk_cell ST.out.x 0 (v := .int .i64 4) rfl
    clear hu FB
    go_wp2_with fail
    refine KT.out.mono ?_
    rintro _ w2 ⟨rfl, hr2, hg2⟩
    have ST2 := ST.out.grown hg2 (by omega) (by omega) hr2
    have s2 := blk_cell ST2.x 2 (v := .string { data := #[] }) rfl
    have g2 := blk_fr ST2.x 2
    have ST3 := Lib.hid (ST2.box 2 (.string u1) (4, 0, u1) (by omega) (by omega) (by have := HB1.out; omega) rfl)
    clear ST c0 KT hr2 hg2 ST2
    go_upto_region 9 with fail
    obtain ⟨W3, hW3⟩ : ∃ W3, w2.setCell ⟨b2, 2, none⟩ (.string u1) = W3 := ⟨_, rfl⟩
    rw [hW3] at ST3 ⊢
    clear hW3 s2 g2
    have ST := ST3
    clear ST3
    have u0c := blk_cell ST.out.x 0 (v := .int .i64 4) rfl
    have u1c := blk_cell ST.out.x 1 (v := .int .i64 0) rfl
    have u2c := blk_cell ST.out.x 2 (v := .string u1) rfl
    have KC := Lib.hid (pcheck_any (4, 0, u1) W3 hus.out)
    unfold OutI at KC
    go_wp2_with fail
    refine KC.out.mono ?_
    rintro _ w6 ⟨rfl, hb6⟩
    replace ST := Lib.hid (ST.out.below hb6)
    clear hb6 KC u0c u1c u2c
    by_cases he : e2 = 0
    · have ST' := Lib.hid (show StP w w6 c b1 b2 t2 0 (4, 0, u1) by have := ST.out; rw [he] at this; exact this)
      clear ST
      have ST := ST'
      clear ST'
      replace EQ := Lib.hid (EQ.out.trans (if_neg (fun q => q he)))
      clear he
      by_cases hc : chk (4, 0, u1) = 0
      · have R := Lib.hid (EQ.out.trans (if_neg (fun q => q hc)))
        have t5 : (chk (4, 0, u1) != 0) = false := by simp [hc]
        clear EQ hc
        generalize chk (4, 0, u1) = cc at *
        go_wp2_with fail
        refine (Wire.err_live c t2 0 w6 ST.out.r).mono ?_
        rintro _ w7 ⟨rfl, hw7⟩
        subst hw7
        obtain ⟨V, hV⟩ : ∃ V, V = putV w6 b1 (4, 0, u1) := ⟨_, rfl⟩
        obtain ⟨q1, q2, q3⟩ := ST.out.out (4, 0, u1) (by omega) (by have := HB1.out; omega)
        rw [← hV] at q1 q2 q3
        have RV := Lib.hid q2
        have RR := Lib.hid q1
        have GV := Lib.hid q3
        have u0c := blk_cell ST.out.x 0 (v := .int .i64 4) rfl
        have u1c := blk_cell ST.out.x 1 (v := .int .i64 0) rfl
        have u2c := blk_cell ST.out.x 2 (v := .string u1) rfl
        have zz0 := blk_cell ST.out.z 0 (v := .int .i64 0) rfl
        have zz1 := blk_cell ST.out.z 1 (v := .int .i64 0) rfl
        have zz2 := blk_cell ST.out.z 2 (v := .string { data := #[] }) rfl
        have xx0 := blk_fr ST.out.z 0
        have xx1 := blk_fr ST.out.z 1
        have xx2 := blk_fr ST.out.z 2
        clear q1 q2 q3
        unfold putV at hV
        dsimp only at hV
        go_wp2_with fail
        rw [← hV]
        have t0 := blk_cell RV.out 0 (v := .int .i64 4) rfl
        have t1' := blk_cell RV.out 1 (v := .int .i64 0) rfl
        have t2' := blk_cell RV.out 2 (v := .string u1) rfl
        refine bodyPost_ret (v := .agg #[.int .i64 4, .int .i64 0, .string u1]) (by simp [results, Tryd.results31, go_sem, t0, t1', t2']) rfl ?_
        rw [R.out]
        exact ⟨rfl, RR.out, GV.out⟩
      · have R := Lib.hid (EQ.out.trans (if_pos hc))
        have t5 : (chk (4, 0, u1) != 0) = true := by simp [hc]
        clear EQ hc
        generalize chk (4, 0, u1) = cc at *
        go_wp2_with fail
        refine (Wire.live_fail c t2 4 w6 ST.out.r).mono ?_
        rintro _ w7 ⟨rfl, hr7, hg7⟩
        replace ST := Lib.hid (ST.out.grown hg7 (by omega) (by omega) hr7)
        clear hr7 hg7
        go_wp2_with fail
        refine (Wire.err_live c t2 4 w7 ST.out.r).mono ?_
        rintro _ w8 ⟨rfl, hw8⟩
        subst hw8
        obtain ⟨V, hV⟩ : ∃ V, V = putV w7 b1 (0, 0, { data := #[] }) := ⟨_, rfl⟩
        obtain ⟨q1, q2, q3⟩ := ST.out.out (0, 0, { data := #[] }) (by omega) (by have := HB1.out; omega)
        rw [← hV] at q1 q2 q3
        have RV := Lib.hid q2
        have RR := Lib.hid q1
        have GV := Lib.hid q3
        have zz0 := blk_cell ST.out.z 0 (v := .int .i64 0) rfl
        have zz1 := blk_cell ST.out.z 1 (v := .int .i64 0) rfl
        have zz2 := blk_cell ST.out.z 2 (v := .string { data := #[] }) rfl
        have xx0 := blk_fr ST.out.z 0
        have xx1 := blk_fr ST.out.z 1
        have xx2 := blk_fr ST.out.z 2
        clear q1 q2 q3
        unfold putV at hV
        dsimp only at hV
        go_wp2_with fail
        rw [← hV]
        have t0 := blk_cell RV.out 0 (v := .int .i64 0) rfl
        have t1' := blk_cell RV.out 1 (v := .int .i64 0) rfl
        have t2' := blk_cell RV.out 2 (v := .string { data := #[] }) rfl
        refine bodyPost_ret (v := .agg #[.int .i64 0, .int .i64 0, .string { data := #[] }]) (by simp [results, Tryd.results31, go_sem, t0, t1', t2']) rfl ?_
        rw [R.out]
        exact ⟨rfl, RR.out, GV.out⟩
    · have R := Lib.hid (EQ.out.trans (if_pos he))
      have t6 : (e2 != 0) = true := by simp [he]
      have DE := Lib.hid (Wire.pb_dead ST.out.r he)
      have HE := Lib.hid he
      clear EQ he
      by_cases hc : chk (4, 0, u1) = 0
      · have t5 : (chk (4, 0, u1) != 0) = false := by simp [hc]
        clear hc DE
        generalize chk (4, 0, u1) = cc at *
        go_wp2_with fail
        refine (Wire.err_live c t2 e2 w6 ST.out.r).mono ?_
        rintro _ w7 ⟨rfl, hw7⟩
        subst hw7
        obtain ⟨V, hV⟩ : ∃ V, V = putV w6 b1 (0, 0, { data := #[] }) := ⟨_, rfl⟩
        obtain ⟨q1, q2, q3⟩ := ST.out.out (0, 0, { data := #[] }) (by omega) (by have := HB1.out; omega)
        rw [← hV] at q1 q2 q3
        have RV := Lib.hid q2
        have RR := Lib.hid q1
        have GV := Lib.hid q3
        have zz0 := blk_cell ST.out.z 0 (v := .int .i64 0) rfl
        have zz1 := blk_cell ST.out.z 1 (v := .int .i64 0) rfl
        have zz2 := blk_cell ST.out.z 2 (v := .string { data := #[] }) rfl
        have xx0 := blk_fr ST.out.z 0
        have xx1 := blk_fr ST.out.z 1
        have xx2 := blk_fr ST.out.z 2
        clear q1 q2 q3
        unfold putV at hV
        dsimp only at hV
        go_wp2_with fail
        rw [← hV]
        have t0 := blk_cell RV.out 0 (v := .int .i64 0) rfl
        have t1' := blk_cell RV.out 1 (v := .int .i64 0) rfl
        have t2' := blk_cell RV.out 2 (v := .string { data := #[] }) rfl
        refine bodyPost_ret (v := .agg #[.int .i64 0, .int .i64 0, .string { data := #[] }]) (by simp [results, Tryd.results31, go_sem, t0, t1', t2']) rfl ?_
        rw [R.out]
        exact ⟨rfl, RR.out, GV.out⟩
      · have t5 : (chk (4, 0, u1) != 0) = true := by simp [hc]
        clear hc
        generalize chk (4, 0, u1) = cc at *
        go_wp2_with fail
        refine (Wire.dead_fail (pt c) w6 e2 4 DE.out).mono ?_
        rintro _ w7 ⟨rfl, hw7⟩
        subst hw7
        go_wp2_with fail
        refine (Wire.err_live c t2 e2 w6 ST.out.r).mono ?_
        rintro _ w8 ⟨rfl, hw8⟩
        subst hw8
        obtain ⟨V, hV⟩ : ∃ V, V = putV w6 b1 (0, 0, { data := #[] }) := ⟨_, rfl⟩
        obtain ⟨q1, q2, q3⟩ := ST.out.out (0, 0, { data := #[] }) (by omega) (by have := HB1.out; omega)
        rw [← hV] at q1 q2 q3
        have RV := Lib.hid q2
        have RR := Lib.hid q1
        have GV := Lib.hid q3
        have zz0 := blk_cell ST.out.z 0 (v := .int .i64 0) rfl
        have zz1 := blk_cell ST.out.z 1 (v := .int .i64 0) rfl
        have zz2 := blk_cell ST.out.z 2 (v := .string { data := #[] }) rfl
        have xx0 := blk_fr ST.out.z 0
        have xx1 := blk_fr ST.out.z 1
        have xx2 := blk_fr ST.out.z 2
        clear q1 q2 q3
        unfold putV at hV
        dsimp only at hV
        go_wp2_with fail
        rw [← hV]
        have t0 := blk_cell RV.out 0 (v := .int .i64 0) rfl
        have t1' := blk_cell RV.out 1 (v := .int .i64 0) rfl
        have t2' := blk_cell RV.out 2 (v := .string { data := #[] }) rfl
        refine bodyPost_ret (v := .agg #[.int .i64 0, .int .i64 0, .string { data := #[] }]) (by simp [results, Tryd.results31, go_sem, t0, t1', t2']) rfl ?_
        rw [R.out]
        exact ⟨rfl, RR.out, GV.out⟩
  by_cases k1' : k = 1
  · have he1 : e1 = 0 := Classical.byContradiction fun q => by have := FB.out q; omega
    subst he1 k1'
    replace EQ := Lib.hid (EQ.out.trans ((if_neg (by decide)).trans ((if_neg (by decide)).trans (if_pos (by decide)))))
    have KT := Lib.hid (Wire.live_int c t1 W ht1 ST.out.r)
    obtain ⟨u1, t2, e2, hu⟩ : ∃ u1 t2 e2, fInt t1 = (u1, t2, e2) := ⟨_, _, _, rfl⟩
    have hus := Lib.hid (show (ByteArray.empty).size ≤ 9223372036854775807 by decide)
    rw [hu] at KT EQ
    dsimp only at KT EQ
    unfold Out at KT
    replace EQ := Lib.hid EQ.out
    have c0 := blk_cell ST.out.x 0 (v := .int .i64 1) rfl
    clear hu FB
    go_wp2_with fail
    refine KT.out.mono ?_
    rintro _ w2 ⟨rfl, hr2, hg2⟩
    have ST2 := ST.out.grown hg2 (by omega) (by omega) hr2
    have s2 := blk_cell ST2.x 1 (v := .int .i64 0) rfl
    have g2 := blk_fr ST2.x 1
    have ST3 := Lib.hid (ST2.box 1 (.int .i64 u1) (1, u1, { data := #[] }) (by omega) (by omega) (by have := HB1.out; omega) rfl)
    clear ST c0 KT hr2 hg2 ST2
    go_upto_region 9 with fail
    obtain ⟨W3, hW3⟩ : ∃ W3, w2.setCell ⟨b2, 1, none⟩ (.int .i64 u1) = W3 := ⟨_, rfl⟩
    rw [hW3] at ST3 ⊢
    clear hW3 s2 g2
    have ST := ST3
    clear ST3
    have u0c := blk_cell ST.out.x 0 (v := .int .i64 1) rfl
    have u1c := blk_cell ST.out.x 1 (v := .int .i64 u1) rfl
    have u2c := blk_cell ST.out.x 2 (v := .string { data := #[] }) rfl
    have KC := Lib.hid (pcheck_any (1, u1, { data := #[] }) W3 hus.out)
    unfold OutI at KC
    go_wp2_with fail
    refine KC.out.mono ?_
    rintro _ w6 ⟨rfl, hb6⟩
    replace ST := Lib.hid (ST.out.below hb6)
    clear hb6 KC u0c u1c u2c
    by_cases he : e2 = 0
    · have ST' := Lib.hid (show StP w w6 c b1 b2 t2 0 (1, u1, { data := #[] }) by have := ST.out; rw [he] at this; exact this)
      clear ST
      have ST := ST'
      clear ST'
      replace EQ := Lib.hid (EQ.out.trans (if_neg (fun q => q he)))
      clear he
      by_cases hc : chk (1, u1, { data := #[] }) = 0
      · have R := Lib.hid (EQ.out.trans (if_neg (fun q => q hc)))
        have t5 : (chk (1, u1, { data := #[] }) != 0) = false := by simp [hc]
        clear EQ hc
        generalize chk (1, u1, { data := #[] }) = cc at *
        go_wp2_with fail
        refine (Wire.err_live c t2 0 w6 ST.out.r).mono ?_
        rintro _ w7 ⟨rfl, hw7⟩
        subst hw7
        obtain ⟨V, hV⟩ : ∃ V, V = putV w6 b1 (1, u1, { data := #[] }) := ⟨_, rfl⟩
        obtain ⟨q1, q2, q3⟩ := ST.out.out (1, u1, { data := #[] }) (by omega) (by have := HB1.out; omega)
        rw [← hV] at q1 q2 q3
        have RV := Lib.hid q2
        have RR := Lib.hid q1
        have GV := Lib.hid q3
        have u0c := blk_cell ST.out.x 0 (v := .int .i64 1) rfl
        have u1c := blk_cell ST.out.x 1 (v := .int .i64 u1) rfl
        have u2c := blk_cell ST.out.x 2 (v := .string { data := #[] }) rfl
        have zz0 := blk_cell ST.out.z 0 (v := .int .i64 0) rfl
        have zz1 := blk_cell ST.out.z 1 (v := .int .i64 0) rfl
        have zz2 := blk_cell ST.out.z 2 (v := .string { data := #[] }) rfl
        have xx0 := blk_fr ST.out.z 0
        have xx1 := blk_fr ST.out.z 1
        have xx2 := blk_fr ST.out.z 2
        clear q1 q2 q3
        unfold putV at hV
        dsimp only at hV
        go_wp2_with fail
        rw [← hV]
        have t0 := blk_cell RV.out 0 (v := .int .i64 1) rfl
        have t1' := blk_cell RV.out 1 (v := .int .i64 u1) rfl
        have t2' := blk_cell RV.out 2 (v := .string { data := #[] }) rfl
        refine bodyPost_ret (v := .agg #[.int .i64 1, .int .i64 u1, .string { data := #[] }]) (by simp [results, Tryd.results31, go_sem, t0, t1', t2']) rfl ?_
        rw [R.out]
        exact ⟨rfl, RR.out, GV.out⟩
      · have R := Lib.hid (EQ.out.trans (if_pos hc))
        have t5 : (chk (1, u1, { data := #[] }) != 0) = true := by simp [hc]
        clear EQ hc
        generalize chk (1, u1, { data := #[] }) = cc at *
        go_wp2_with fail
        refine (Wire.live_fail c t2 4 w6 ST.out.r).mono ?_
        rintro _ w7 ⟨rfl, hr7, hg7⟩
        replace ST := Lib.hid (ST.out.grown hg7 (by omega) (by omega) hr7)
        clear hr7 hg7
        go_wp2_with fail
        refine (Wire.err_live c t2 4 w7 ST.out.r).mono ?_
        rintro _ w8 ⟨rfl, hw8⟩
        subst hw8
        obtain ⟨V, hV⟩ : ∃ V, V = putV w7 b1 (0, 0, { data := #[] }) := ⟨_, rfl⟩
        obtain ⟨q1, q2, q3⟩ := ST.out.out (0, 0, { data := #[] }) (by omega) (by have := HB1.out; omega)
        rw [← hV] at q1 q2 q3
        have RV := Lib.hid q2
        have RR := Lib.hid q1
        have GV := Lib.hid q3
        have zz0 := blk_cell ST.out.z 0 (v := .int .i64 0) rfl
        have zz1 := blk_cell ST.out.z 1 (v := .int .i64 0) rfl
        have zz2 := blk_cell ST.out.z 2 (v := .string { data := #[] }) rfl
        have xx0 := blk_fr ST.out.z 0
        have xx1 := blk_fr ST.out.z 1
        have xx2 := blk_fr ST.out.z 2
        clear q1 q2 q3
        unfold putV at hV
        dsimp only at hV
        go_wp2_with fail
        rw [← hV]
        have t0 := blk_cell RV.out 0 (v := .int .i64 0) rfl
        have t1' := blk_cell RV.out 1 (v := .int .i64 0) rfl
        have t2' := blk_cell RV.out 2 (v := .string { data := #[] }) rfl
        refine bodyPost_ret (v := .agg #[.int .i64 0, .int .i64 0, .string { data := #[] }]) (by simp [results, Tryd.results31, go_sem, t0, t1', t2']) rfl ?_
        rw [R.out]
        exact ⟨rfl, RR.out, GV.out⟩
    · have R := Lib.hid (EQ.out.trans (if_pos he))
      have t6 : (e2 != 0) = true := by simp [he]
      have DE := Lib.hid (Wire.pb_dead ST.out.r he)
      have HE := Lib.hid he
      clear EQ he
      by_cases hc : chk (1, u1, { data := #[] }) = 0
      · have t5 : (chk (1, u1, { data := #[] }) != 0) = false := by simp [hc]
        clear hc DE
        generalize chk (1, u1, { data := #[] }) = cc at *
        go_wp2_with fail
        refine (Wire.err_live c t2 e2 w6 ST.out.r).mono ?_
        rintro _ w7 ⟨rfl, hw7⟩
        subst hw7
        obtain ⟨V, hV⟩ : ∃ V, V = putV w6 b1 (0, 0, { data := #[] }) := ⟨_, rfl⟩
        obtain ⟨q1, q2, q3⟩ := ST.out.out (0, 0, { data := #[] }) (by omega) (by have := HB1.out; omega)
        rw [← hV] at q1 q2 q3
        have RV := Lib.hid q2
        have RR := Lib.hid q1
        have GV := Lib.hid q3
        have zz0 := blk_cell ST.out.z 0 (v := .int .i64 0) rfl
        have zz1 := blk_cell ST.out.z 1 (v := .int .i64 0) rfl
        have zz2 := blk_cell ST.out.z 2 (v := .string { data := #[] }) rfl
        have xx0 := blk_fr ST.out.z 0
        have xx1 := blk_fr ST.out.z 1
        have xx2 := blk_fr ST.out.z 2
        clear q1 q2 q3
        unfold putV at hV
        dsimp only at hV
        go_wp2_with fail
        rw [← hV]
        have t0 := blk_cell RV.out 0 (v := .int .i64 0) rfl
        have t1' := blk_cell RV.out 1 (v := .int .i64 0) rfl
        have t2' := blk_cell RV.out 2 (v := .string { data := #[] }) rfl
        refine bodyPost_ret (v := .agg #[.int .i64 0, .int .i64 0, .string { data := #[] }]) (by simp [results, Tryd.results31, go_sem, t0, t1', t2']) rfl ?_
        rw [R.out]
        exact ⟨rfl, RR.out, GV.out⟩
      · have t5 : (chk (1, u1, { data := #[] }) != 0) = true := by simp [hc]
        clear hc
        generalize chk (1, u1, { data := #[] }) = cc at *
        go_wp2_with fail
        refine (Wire.dead_fail (pt c) w6 e2 4 DE.out).mono ?_
        rintro _ w7 ⟨rfl, hw7⟩
        subst hw7
        go_wp2_with fail
        refine (Wire.err_live c t2 e2 w6 ST.out.r).mono ?_
        rintro _ w8 ⟨rfl, hw8⟩
        subst hw8
        obtain ⟨V, hV⟩ : ∃ V, V = putV w6 b1 (0, 0, { data := #[] }) := ⟨_, rfl⟩
        obtain ⟨q1, q2, q3⟩ := ST.out.out (0, 0, { data := #[] }) (by omega) (by have := HB1.out; omega)
        rw [← hV] at q1 q2 q3
        have RV := Lib.hid q2
        have RR := Lib.hid q1
        have GV := Lib.hid q3
        have zz0 := blk_cell ST.out.z 0 (v := .int .i64 0) rfl
        have zz1 := blk_cell ST.out.z 1 (v := .int .i64 0) rfl
        have zz2 := blk_cell ST.out.z 2 (v := .string { data := #[] }) rfl
        have xx0 := blk_fr ST.out.z 0
        have xx1 := blk_fr ST.out.z 1
        have xx2 := blk_fr ST.out.z 2
        clear q1 q2 q3
        unfold putV at hV
        dsimp only at hV
        go_wp2_with fail
        rw [← hV]
        have t0 := blk_cell RV.out 0 (v := .int .i64 0) rfl
        have t1' := blk_cell RV.out 1 (v := .int .i64 0) rfl
        have t2' := blk_cell RV.out 2 (v := .string { data := #[] }) rfl
        refine bodyPost_ret (v := .agg #[.int .i64 0, .int .i64 0, .string { data := #[] }]) (by simp [results, Tryd.results31, go_sem, t0, t1', t2']) rfl ?_
        rw [R.out]
        exact ⟨rfl, RR.out, GV.out⟩
  by_cases k2' : k = 2
  · have he1 : e1 = 0 := Classical.byContradiction fun q => by have := FB.out q; omega
    subst he1 k2'
    replace EQ := Lib.hid (EQ.out.trans ((if_neg (by decide)).trans ((if_neg (by decide)).trans (if_pos (by decide)))))
    have KT := Lib.hid (Wire.live_int c t1 W ht1 ST.out.r)
    obtain ⟨u1, t2, e2, hu⟩ : ∃ u1 t2 e2, fInt t1 = (u1, t2, e2) := ⟨_, _, _, rfl⟩
    have hus := Lib.hid (show (ByteArray.empty).size ≤ 9223372036854775807 by decide)
    rw [hu] at KT EQ
    dsimp only at KT EQ
    unfold Out at KT
    replace EQ := Lib.hid EQ.out
    have c0 := blk_cell ST.out.x 0 (v := .int .i64 2) rfl
    clear hu FB
    go_wp2_with fail
    refine KT.out.mono ?_
    rintro _ w2 ⟨rfl, hr2, hg2⟩
    have ST2 := ST.out.grown hg2 (by omega) (by omega) hr2
    have s2 := blk_cell ST2.x 1 (v := .int .i64 0) rfl
    have g2 := blk_fr ST2.x 1
    have ST3 := Lib.hid (ST2.box 1 (.int .i64 u1) (2, u1, { data := #[] }) (by omega) (by omega) (by have := HB1.out; omega) rfl)
    clear ST c0 KT hr2 hg2 ST2
    go_upto_region 9 with fail
    obtain ⟨W3, hW3⟩ : ∃ W3, w2.setCell ⟨b2, 1, none⟩ (.int .i64 u1) = W3 := ⟨_, rfl⟩
    rw [hW3] at ST3 ⊢
    clear hW3 s2 g2
    have ST := ST3
    clear ST3
    have u0c := blk_cell ST.out.x 0 (v := .int .i64 2) rfl
    have u1c := blk_cell ST.out.x 1 (v := .int .i64 u1) rfl
    have u2c := blk_cell ST.out.x 2 (v := .string { data := #[] }) rfl
    have KC := Lib.hid (pcheck_any (2, u1, { data := #[] }) W3 hus.out)
    unfold OutI at KC
    go_wp2_with fail
    refine KC.out.mono ?_
    rintro _ w6 ⟨rfl, hb6⟩
    replace ST := Lib.hid (ST.out.below hb6)
    clear hb6 KC u0c u1c u2c
    by_cases he : e2 = 0
    · have ST' := Lib.hid (show StP w w6 c b1 b2 t2 0 (2, u1, { data := #[] }) by have := ST.out; rw [he] at this; exact this)
      clear ST
      have ST := ST'
      clear ST'
      replace EQ := Lib.hid (EQ.out.trans (if_neg (fun q => q he)))
      clear he
      by_cases hc : chk (2, u1, { data := #[] }) = 0
      · have R := Lib.hid (EQ.out.trans (if_neg (fun q => q hc)))
        have t5 : (chk (2, u1, { data := #[] }) != 0) = false := by simp [hc]
        clear EQ hc
        generalize chk (2, u1, { data := #[] }) = cc at *
        go_wp2_with fail
        refine (Wire.err_live c t2 0 w6 ST.out.r).mono ?_
        rintro _ w7 ⟨rfl, hw7⟩
        subst hw7
        obtain ⟨V, hV⟩ : ∃ V, V = putV w6 b1 (2, u1, { data := #[] }) := ⟨_, rfl⟩
        obtain ⟨q1, q2, q3⟩ := ST.out.out (2, u1, { data := #[] }) (by omega) (by have := HB1.out; omega)
        rw [← hV] at q1 q2 q3
        have RV := Lib.hid q2
        have RR := Lib.hid q1
        have GV := Lib.hid q3
        have u0c := blk_cell ST.out.x 0 (v := .int .i64 2) rfl
        have u1c := blk_cell ST.out.x 1 (v := .int .i64 u1) rfl
        have u2c := blk_cell ST.out.x 2 (v := .string { data := #[] }) rfl
        have zz0 := blk_cell ST.out.z 0 (v := .int .i64 0) rfl
        have zz1 := blk_cell ST.out.z 1 (v := .int .i64 0) rfl
        have zz2 := blk_cell ST.out.z 2 (v := .string { data := #[] }) rfl
        have xx0 := blk_fr ST.out.z 0
        have xx1 := blk_fr ST.out.z 1
        have xx2 := blk_fr ST.out.z 2
        clear q1 q2 q3
        unfold putV at hV
        dsimp only at hV
        go_wp2_with fail
        rw [← hV]
        have t0 := blk_cell RV.out 0 (v := .int .i64 2) rfl
        have t1' := blk_cell RV.out 1 (v := .int .i64 u1) rfl
        have t2' := blk_cell RV.out 2 (v := .string { data := #[] }) rfl
        refine bodyPost_ret (v := .agg #[.int .i64 2, .int .i64 u1, .string { data := #[] }]) (by simp [results, Tryd.results31, go_sem, t0, t1', t2']) rfl ?_
        rw [R.out]
        exact ⟨rfl, RR.out, GV.out⟩
      · have R := Lib.hid (EQ.out.trans (if_pos hc))
        have t5 : (chk (2, u1, { data := #[] }) != 0) = true := by simp [hc]
        clear EQ hc
        generalize chk (2, u1, { data := #[] }) = cc at *
        go_wp2_with fail
        refine (Wire.live_fail c t2 4 w6 ST.out.r).mono ?_
        rintro _ w7 ⟨rfl, hr7, hg7⟩
        replace ST := Lib.hid (ST.out.grown hg7 (by omega) (by omega) hr7)
        clear hr7 hg7
        go_wp2_with fail
        refine (Wire.err_live c t2 4 w7 ST.out.r).mono ?_
        rintro _ w8 ⟨rfl, hw8⟩
        subst hw8
        obtain ⟨V, hV⟩ : ∃ V, V = putV w7 b1 (0, 0, { data := #[] }) := ⟨_, rfl⟩
        obtain ⟨q1, q2, q3⟩ := ST.out.out (0, 0, { data := #[] }) (by omega) (by have := HB1.out; omega)
        rw [← hV] at q1 q2 q3
        have RV := Lib.hid q2
        have RR := Lib.hid q1
        have GV := Lib.hid q3
        have zz0 := blk_cell ST.out.z 0 (v := .int .i64 0) rfl
        have zz1 := blk_cell ST.out.z 1 (v := .int .i64 0) rfl
        have zz2 := blk_cell ST.out.z 2 (v := .string { data := #[] }) rfl
        have xx0 := blk_fr ST.out.z 0
        have xx1 := blk_fr ST.out.z 1
        have xx2 := blk_fr ST.out.z 2
        clear q1 q2 q3
        unfold putV at hV
        dsimp only at hV
        go_wp2_with fail
        rw [← hV]
        have t0 := blk_cell RV.out 0 (v := .int .i64 0) rfl
        have t1' := blk_cell RV.out 1 (v := .int .i64 0) rfl
        have t2' := blk_cell RV.out 2 (v := .string { data := #[] }) rfl
        refine bodyPost_ret (v := .agg #[.int .i64 0, .int .i64 0, .string { data := #[] }]) (by simp [results, Tryd.results31, go_sem, t0, t1', t2']) rfl ?_
        rw [R.out]
        exact ⟨rfl, RR.out, GV.out⟩
    · have R := Lib.hid (EQ.out.trans (if_pos he))
      have t6 : (e2 != 0) = true := by simp [he]
      have DE := Lib.hid (Wire.pb_dead ST.out.r he)
      have HE := Lib.hid he
      clear EQ he
      by_cases hc : chk (2, u1, { data := #[] }) = 0
      · have t5 : (chk (2, u1, { data := #[] }) != 0) = false := by simp [hc]
        clear hc DE
        generalize chk (2, u1, { data := #[] }) = cc at *
        go_wp2_with fail
        refine (Wire.err_live c t2 e2 w6 ST.out.r).mono ?_
        rintro _ w7 ⟨rfl, hw7⟩
        subst hw7
        obtain ⟨V, hV⟩ : ∃ V, V = putV w6 b1 (0, 0, { data := #[] }) := ⟨_, rfl⟩
        obtain ⟨q1, q2, q3⟩ := ST.out.out (0, 0, { data := #[] }) (by omega) (by have := HB1.out; omega)
        rw [← hV] at q1 q2 q3
        have RV := Lib.hid q2
        have RR := Lib.hid q1
        have GV := Lib.hid q3
        have zz0 := blk_cell ST.out.z 0 (v := .int .i64 0) rfl
        have zz1 := blk_cell ST.out.z 1 (v := .int .i64 0) rfl
        have zz2 := blk_cell ST.out.z 2 (v := .string { data := #[] }) rfl
        have xx0 := blk_fr ST.out.z 0
        have xx1 := blk_fr ST.out.z 1
        have xx2 := blk_fr ST.out.z 2
        clear q1 q2 q3
        unfold putV at hV
        dsimp only at hV
        go_wp2_with fail
        rw [← hV]
        have t0 := blk_cell RV.out 0 (v := .int .i64 0) rfl
        have t1' := blk_cell RV.out 1 (v := .int .i64 0) rfl
        have t2' := blk_cell RV.out 2 (v := .string { data := #[] }) rfl
        refine bodyPost_ret (v := .agg #[.int .i64 0, .int .i64 0, .string { data := #[] }]) (by simp [results, Tryd.results31, go_sem, t0, t1', t2']) rfl ?_
        rw [R.out]
        exact ⟨rfl, RR.out, GV.out⟩
      · have t5 : (chk (2, u1, { data := #[] }) != 0) = true := by simp [hc]
        clear hc
        generalize chk (2, u1, { data := #[] }) = cc at *
        go_wp2_with fail
        refine (Wire.dead_fail (pt c) w6 e2 4 DE.out).mono ?_
        rintro _ w7 ⟨rfl, hw7⟩
        subst hw7
        go_wp2_with fail
        refine (Wire.err_live c t2 e2 w6 ST.out.r).mono ?_
        rintro _ w8 ⟨rfl, hw8⟩
        subst hw8
        obtain ⟨V, hV⟩ : ∃ V, V = putV w6 b1 (0, 0, { data := #[] }) := ⟨_, rfl⟩
        obtain ⟨q1, q2, q3⟩ := ST.out.out (0, 0, { data := #[] }) (by omega) (by have := HB1.out; omega)
        rw [← hV] at q1 q2 q3
        have RV := Lib.hid q2
        have RR := Lib.hid q1
        have GV := Lib.hid q3
        have zz0 := blk_cell ST.out.z 0 (v := .int .i64 0) rfl
        have zz1 := blk_cell ST.out.z 1 (v := .int .i64 0) rfl
        have zz2 := blk_cell ST.out.z 2 (v := .string { data := #[] }) rfl
        have xx0 := blk_fr ST.out.z 0
        have xx1 := blk_fr ST.out.z 1
        have xx2 := blk_fr ST.out.z 2
        clear q1 q2 q3
        unfold putV at hV
        dsimp only at hV
        go_wp2_with fail
        rw [← hV]
        have t0 := blk_cell RV.out 0 (v := .int .i64 0) rfl
        have t1' := blk_cell RV.out 1 (v := .int .i64 0) rfl
        have t2' := blk_cell RV.out 2 (v := .string { data := #[] }) rfl
        refine bodyPost_ret (v := .agg #[.int .i64 0, .int .i64 0, .string { data := #[] }]) (by simp [results, Tryd.results31, go_sem, t0, t1', t2']) rfl ?_
        rw [R.out]
        exact ⟨rfl, RR.out, GV.out⟩
  by_cases k3' : k = 3
  · have he1 : e1 = 0 := Classical.byContradiction fun q => by have := FB.out q; omega
    subst he1 k3'
    replace EQ := Lib.hid (EQ.out.trans ((if_neg (by decide)).trans ((if_neg (by decide)).trans (if_pos (by decide)))))
    have KT := Lib.hid (Wire.live_int c t1 W ht1 ST.out.r)
    obtain ⟨u1, t2, e2, hu⟩ : ∃ u1 t2 e2, fInt t1 = (u1, t2, e2) := ⟨_, _, _, rfl⟩
    have hus := Lib.hid (show (ByteArray.empty).size ≤ 9223372036854775807 by decide)
    rw [hu] at KT EQ
    dsimp only at KT EQ
    unfold Out at KT
    replace EQ := Lib.hid EQ.out
    have c0 := blk_cell ST.out.x 0 (v := .int .i64 3) rfl
    clear hu FB
    go_wp2_with fail
    refine KT.out.mono ?_
    rintro _ w2 ⟨rfl, hr2, hg2⟩
    have ST2 := ST.out.grown hg2 (by omega) (by omega) hr2
    have s2 := blk_cell ST2.x 1 (v := .int .i64 0) rfl
    have g2 := blk_fr ST2.x 1
    have ST3 := Lib.hid (ST2.box 1 (.int .i64 u1) (3, u1, { data := #[] }) (by omega) (by omega) (by have := HB1.out; omega) rfl)
    clear ST c0 KT hr2 hg2 ST2
    go_upto_region 9 with fail
    obtain ⟨W3, hW3⟩ : ∃ W3, w2.setCell ⟨b2, 1, none⟩ (.int .i64 u1) = W3 := ⟨_, rfl⟩
    rw [hW3] at ST3 ⊢
    clear hW3 s2 g2
    have ST := ST3
    clear ST3
    have u0c := blk_cell ST.out.x 0 (v := .int .i64 3) rfl
    have u1c := blk_cell ST.out.x 1 (v := .int .i64 u1) rfl
    have u2c := blk_cell ST.out.x 2 (v := .string { data := #[] }) rfl
    have KC := Lib.hid (pcheck_any (3, u1, { data := #[] }) W3 hus.out)
    unfold OutI at KC
    go_wp2_with fail
    refine KC.out.mono ?_
    rintro _ w6 ⟨rfl, hb6⟩
    replace ST := Lib.hid (ST.out.below hb6)
    clear hb6 KC u0c u1c u2c
    by_cases he : e2 = 0
    · have ST' := Lib.hid (show StP w w6 c b1 b2 t2 0 (3, u1, { data := #[] }) by have := ST.out; rw [he] at this; exact this)
      clear ST
      have ST := ST'
      clear ST'
      replace EQ := Lib.hid (EQ.out.trans (if_neg (fun q => q he)))
      clear he
      by_cases hc : chk (3, u1, { data := #[] }) = 0
      · have R := Lib.hid (EQ.out.trans (if_neg (fun q => q hc)))
        have t5 : (chk (3, u1, { data := #[] }) != 0) = false := by simp [hc]
        clear EQ hc
        generalize chk (3, u1, { data := #[] }) = cc at *
        go_wp2_with fail
        refine (Wire.err_live c t2 0 w6 ST.out.r).mono ?_
        rintro _ w7 ⟨rfl, hw7⟩
        subst hw7
        obtain ⟨V, hV⟩ : ∃ V, V = putV w6 b1 (3, u1, { data := #[] }) := ⟨_, rfl⟩
        obtain ⟨q1, q2, q3⟩ := ST.out.out (3, u1, { data := #[] }) (by omega) (by have := HB1.out; omega)
        rw [← hV] at q1 q2 q3
        have RV := Lib.hid q2
        have RR := Lib.hid q1
        have GV := Lib.hid q3
        have u0c := blk_cell ST.out.x 0 (v := .int .i64 3) rfl
        have u1c := blk_cell ST.out.x 1 (v := .int .i64 u1) rfl
        have u2c := blk_cell ST.out.x 2 (v := .string { data := #[] }) rfl
        have zz0 := blk_cell ST.out.z 0 (v := .int .i64 0) rfl
        have zz1 := blk_cell ST.out.z 1 (v := .int .i64 0) rfl
        have zz2 := blk_cell ST.out.z 2 (v := .string { data := #[] }) rfl
        have xx0 := blk_fr ST.out.z 0
        have xx1 := blk_fr ST.out.z 1
        have xx2 := blk_fr ST.out.z 2
        clear q1 q2 q3
        unfold putV at hV
        dsimp only at hV
        go_wp2_with fail
        rw [← hV]
        have t0 := blk_cell RV.out 0 (v := .int .i64 3) rfl
        have t1' := blk_cell RV.out 1 (v := .int .i64 u1) rfl
        have t2' := blk_cell RV.out 2 (v := .string { data := #[] }) rfl
        refine bodyPost_ret (v := .agg #[.int .i64 3, .int .i64 u1, .string { data := #[] }]) (by simp [results, Tryd.results31, go_sem, t0, t1', t2']) rfl ?_
        rw [R.out]
        exact ⟨rfl, RR.out, GV.out⟩
      · have R := Lib.hid (EQ.out.trans (if_pos hc))
        have t5 : (chk (3, u1, { data := #[] }) != 0) = true := by simp [hc]
        clear EQ hc
        generalize chk (3, u1, { data := #[] }) = cc at *
        go_wp2_with fail
        refine (Wire.live_fail c t2 4 w6 ST.out.r).mono ?_
        rintro _ w7 ⟨rfl, hr7, hg7⟩
        replace ST := Lib.hid (ST.out.grown hg7 (by omega) (by omega) hr7)
        clear hr7 hg7
        go_wp2_with fail
        refine (Wire.err_live c t2 4 w7 ST.out.r).mono ?_
        rintro _ w8 ⟨rfl, hw8⟩
        subst hw8
        obtain ⟨V, hV⟩ : ∃ V, V = putV w7 b1 (0, 0, { data := #[] }) := ⟨_, rfl⟩
        obtain ⟨q1, q2, q3⟩ := ST.out.out (0, 0, { data := #[] }) (by omega) (by have := HB1.out; omega)
        rw [← hV] at q1 q2 q3
        have RV := Lib.hid q2
        have RR := Lib.hid q1
        have GV := Lib.hid q3
        have zz0 := blk_cell ST.out.z 0 (v := .int .i64 0) rfl
        have zz1 := blk_cell ST.out.z 1 (v := .int .i64 0) rfl
        have zz2 := blk_cell ST.out.z 2 (v := .string { data := #[] }) rfl
        have xx0 := blk_fr ST.out.z 0
        have xx1 := blk_fr ST.out.z 1
        have xx2 := blk_fr ST.out.z 2
        clear q1 q2 q3
        unfold putV at hV
        dsimp only at hV
        go_wp2_with fail
        rw [← hV]
        have t0 := blk_cell RV.out 0 (v := .int .i64 0) rfl
        have t1' := blk_cell RV.out 1 (v := .int .i64 0) rfl
        have t2' := blk_cell RV.out 2 (v := .string { data := #[] }) rfl
        refine bodyPost_ret (v := .agg #[.int .i64 0, .int .i64 0, .string { data := #[] }]) (by simp [results, Tryd.results31, go_sem, t0, t1', t2']) rfl ?_
        rw [R.out]
        exact ⟨rfl, RR.out, GV.out⟩
    · have R := Lib.hid (EQ.out.trans (if_pos he))
      have t6 : (e2 != 0) = true := by simp [he]
      have DE := Lib.hid (Wire.pb_dead ST.out.r he)
      have HE := Lib.hid he
      clear EQ he
      by_cases hc : chk (3, u1, { data := #[] }) = 0
      · have t5 : (chk (3, u1, { data := #[] }) != 0) = false := by simp [hc]
        clear hc DE
        generalize chk (3, u1, { data := #[] }) = cc at *
        go_wp2_with fail
        refine (Wire.err_live c t2 e2 w6 ST.out.r).mono ?_
        rintro _ w7 ⟨rfl, hw7⟩
        subst hw7
        obtain ⟨V, hV⟩ : ∃ V, V = putV w6 b1 (0, 0, { data := #[] }) := ⟨_, rfl⟩
        obtain ⟨q1, q2, q3⟩ := ST.out.out (0, 0, { data := #[] }) (by omega) (by have := HB1.out; omega)
        rw [← hV] at q1 q2 q3
        have RV := Lib.hid q2
        have RR := Lib.hid q1
        have GV := Lib.hid q3
        have zz0 := blk_cell ST.out.z 0 (v := .int .i64 0) rfl
        have zz1 := blk_cell ST.out.z 1 (v := .int .i64 0) rfl
        have zz2 := blk_cell ST.out.z 2 (v := .string { data := #[] }) rfl
        have xx0 := blk_fr ST.out.z 0
        have xx1 := blk_fr ST.out.z 1
        have xx2 := blk_fr ST.out.z 2
        clear q1 q2 q3
        unfold putV at hV
        dsimp only at hV
        go_wp2_with fail
        rw [← hV]
        have t0 := blk_cell RV.out 0 (v := .int .i64 0) rfl
        have t1' := blk_cell RV.out 1 (v := .int .i64 0) rfl
        have t2' := blk_cell RV.out 2 (v := .string { data := #[] }) rfl
        refine bodyPost_ret (v := .agg #[.int .i64 0, .int .i64 0, .string { data := #[] }]) (by simp [results, Tryd.results31, go_sem, t0, t1', t2']) rfl ?_
        rw [R.out]
        exact ⟨rfl, RR.out, GV.out⟩
      · have t5 : (chk (3, u1, { data := #[] }) != 0) = true := by simp [hc]
        clear hc
        generalize chk (3, u1, { data := #[] }) = cc at *
        go_wp2_with fail
        refine (Wire.dead_fail (pt c) w6 e2 4 DE.out).mono ?_
        rintro _ w7 ⟨rfl, hw7⟩
        subst hw7
        go_wp2_with fail
        refine (Wire.err_live c t2 e2 w6 ST.out.r).mono ?_
        rintro _ w8 ⟨rfl, hw8⟩
        subst hw8
        obtain ⟨V, hV⟩ : ∃ V, V = putV w6 b1 (0, 0, { data := #[] }) := ⟨_, rfl⟩
        obtain ⟨q1, q2, q3⟩ := ST.out.out (0, 0, { data := #[] }) (by omega) (by have := HB1.out; omega)
        rw [← hV] at q1 q2 q3
        have RV := Lib.hid q2
        have RR := Lib.hid q1
        have GV := Lib.hid q3
        have zz0 := blk_cell ST.out.z 0 (v := .int .i64 0) rfl
        have zz1 := blk_cell ST.out.z 1 (v := .int .i64 0) rfl
        have zz2 := blk_cell ST.out.z 2 (v := .string { data := #[] }) rfl
        have xx0 := blk_fr ST.out.z 0
        have xx1 := blk_fr ST.out.z 1
        have xx2 := blk_fr ST.out.z 2
        clear q1 q2 q3
        unfold putV at hV
        dsimp only at hV
        go_wp2_with fail
        rw [← hV]
        have t0 := blk_cell RV.out 0 (v := .int .i64 0) rfl
        have t1' := blk_cell RV.out 1 (v := .int .i64 0) rfl
        have t2' := blk_cell RV.out 2 (v := .string { data := #[] }) rfl
        refine bodyPost_ret (v := .agg #[.int .i64 0, .int .i64 0, .string { data := #[] }]) (by simp [results, Tryd.results31, go_sem, t0, t1', t2']) rfl ?_
        rw [R.out]
        exact ⟨rfl, RR.out, GV.out⟩
  have f1 : (k == 1) = false := beq_false_of_ne k1'
  have f2 : (k == 2) = false := beq_false_of_ne k2'
  have f3 : (k == 3) = false := beq_false_of_ne k3'
  have f4 : (k == 4) = false := beq_false_of_ne k4
  have hus := Lib.hid (show (ByteArray.empty).size ≤ 9223372036854775807 by decide)
  replace EQ := Lib.hid (show X = if e1 ≠ 0 then (z0, t1, e1) else if chk (k, 0, ByteArray.empty) ≠ 0 then (z0, t1, 4) else ((k, 0, ByteArray.empty), t1, 0) by
    rw [EQ.out]
    by_cases he : e1 ≠ 0
    · rw [if_pos he, if_pos he]
    · rw [if_neg he, if_neg he, if_neg k4, if_neg (by omega)])
  clear k1' k2' k3' k4 FB
  have c0 := blk_cell ST.out.x 0 (v := .int .i64 k) rfl
  go_upto_region 9 with fail
  clear c0 f1 f2 f3 f4
  have u0c := blk_cell ST.out.x 0 (v := .int .i64 k) rfl
  have u1c := blk_cell ST.out.x 1 (v := .int .i64 0) rfl
  have u2c := blk_cell ST.out.x 2 (v := .string { data := #[] }) rfl
  have KC := Lib.hid (pcheck_any (k, 0, { data := #[] }) W hus.out)
  unfold OutI at KC
  go_wp2_with fail
  refine KC.out.mono ?_
  rintro _ w6 ⟨rfl, hb6⟩
  replace ST := Lib.hid (ST.out.below hb6)
  clear hb6 KC u0c u1c u2c
  by_cases he : e1 = 0
  · have ST' := Lib.hid (show StP w w6 c b1 b2 t1 0 (k, 0, { data := #[] }) by have := ST.out; rw [he] at this; exact this)
    clear ST
    have ST := ST'
    clear ST'
    replace EQ := Lib.hid (EQ.out.trans (if_neg (fun q => q he)))
    clear he
    by_cases hc : chk (k, 0, { data := #[] }) = 0
    · have R := Lib.hid (EQ.out.trans (if_neg (fun q => q hc)))
      have t5 : (chk (k, 0, { data := #[] }) != 0) = false := by simp [hc]
      clear EQ hc
      generalize chk (k, 0, { data := #[] }) = cc at *
      go_wp2_with fail
      refine (Wire.err_live c t1 0 w6 ST.out.r).mono ?_
      rintro _ w7 ⟨rfl, hw7⟩
      subst hw7
      obtain ⟨V, hV⟩ : ∃ V, V = putV w6 b1 (k, 0, { data := #[] }) := ⟨_, rfl⟩
      obtain ⟨q1, q2, q3⟩ := ST.out.out (k, 0, { data := #[] }) (by omega) (by have := HB1.out; omega)
      rw [← hV] at q1 q2 q3
      have RV := Lib.hid q2
      have RR := Lib.hid q1
      have GV := Lib.hid q3
      have u0c := blk_cell ST.out.x 0 (v := .int .i64 k) rfl
      have u1c := blk_cell ST.out.x 1 (v := .int .i64 0) rfl
      have u2c := blk_cell ST.out.x 2 (v := .string { data := #[] }) rfl
      have zz0 := blk_cell ST.out.z 0 (v := .int .i64 0) rfl
      have zz1 := blk_cell ST.out.z 1 (v := .int .i64 0) rfl
      have zz2 := blk_cell ST.out.z 2 (v := .string { data := #[] }) rfl
      have xx0 := blk_fr ST.out.z 0
      have xx1 := blk_fr ST.out.z 1
      have xx2 := blk_fr ST.out.z 2
      clear q1 q2 q3
      unfold putV at hV
      dsimp only at hV
      go_wp2_with fail
      rw [← hV]
      have t0 := blk_cell RV.out 0 (v := .int .i64 k) rfl
      have t1' := blk_cell RV.out 1 (v := .int .i64 0) rfl
      have t2' := blk_cell RV.out 2 (v := .string { data := #[] }) rfl
      refine bodyPost_ret (v := .agg #[.int .i64 k, .int .i64 0, .string { data := #[] }]) (by simp [results, Tryd.results31, go_sem, t0, t1', t2']) rfl ?_
      rw [R.out]
      exact ⟨rfl, RR.out, GV.out⟩
    · have R := Lib.hid (EQ.out.trans (if_pos hc))
      have t5 : (chk (k, 0, { data := #[] }) != 0) = true := by simp [hc]
      clear EQ hc
      generalize chk (k, 0, { data := #[] }) = cc at *
      go_wp2_with fail
      refine (Wire.live_fail c t1 4 w6 ST.out.r).mono ?_
      rintro _ w7 ⟨rfl, hr7, hg7⟩
      replace ST := Lib.hid (ST.out.grown hg7 (by omega) (by omega) hr7)
      clear hr7 hg7
      go_wp2_with fail
      refine (Wire.err_live c t1 4 w7 ST.out.r).mono ?_
      rintro _ w8 ⟨rfl, hw8⟩
      subst hw8
      obtain ⟨V, hV⟩ : ∃ V, V = putV w7 b1 (0, 0, { data := #[] }) := ⟨_, rfl⟩
      obtain ⟨q1, q2, q3⟩ := ST.out.out (0, 0, { data := #[] }) (by omega) (by have := HB1.out; omega)
      rw [← hV] at q1 q2 q3
      have RV := Lib.hid q2
      have RR := Lib.hid q1
      have GV := Lib.hid q3
      have zz0 := blk_cell ST.out.z 0 (v := .int .i64 0) rfl
      have zz1 := blk_cell ST.out.z 1 (v := .int .i64 0) rfl
      have zz2 := blk_cell ST.out.z 2 (v := .string { data := #[] }) rfl
      have xx0 := blk_fr ST.out.z 0
      have xx1 := blk_fr ST.out.z 1
      have xx2 := blk_fr ST.out.z 2
      clear q1 q2 q3
      unfold putV at hV
      dsimp only at hV
      go_wp2_with fail
      rw [← hV]
      have t0 := blk_cell RV.out 0 (v := .int .i64 0) rfl
      have t1' := blk_cell RV.out 1 (v := .int .i64 0) rfl
      have t2' := blk_cell RV.out 2 (v := .string { data := #[] }) rfl
      refine bodyPost_ret (v := .agg #[.int .i64 0, .int .i64 0, .string { data := #[] }]) (by simp [results, Tryd.results31, go_sem, t0, t1', t2']) rfl ?_
      rw [R.out]
      exact ⟨rfl, RR.out, GV.out⟩
  · have R := Lib.hid (EQ.out.trans (if_pos he))
    have t6 : (e1 != 0) = true := by simp [he]
    have DE := Lib.hid (Wire.pb_dead ST.out.r he)
    have HE := Lib.hid he
    clear EQ he
    by_cases hc : chk (k, 0, { data := #[] }) = 0
    · have t5 : (chk (k, 0, { data := #[] }) != 0) = false := by simp [hc]
      clear hc DE
      generalize chk (k, 0, { data := #[] }) = cc at *
      go_wp2_with fail
      refine (Wire.err_live c t1 e1 w6 ST.out.r).mono ?_
      rintro _ w7 ⟨rfl, hw7⟩
      subst hw7
      obtain ⟨V, hV⟩ : ∃ V, V = putV w6 b1 (0, 0, { data := #[] }) := ⟨_, rfl⟩
      obtain ⟨q1, q2, q3⟩ := ST.out.out (0, 0, { data := #[] }) (by omega) (by have := HB1.out; omega)
      rw [← hV] at q1 q2 q3
      have RV := Lib.hid q2
      have RR := Lib.hid q1
      have GV := Lib.hid q3
      have zz0 := blk_cell ST.out.z 0 (v := .int .i64 0) rfl
      have zz1 := blk_cell ST.out.z 1 (v := .int .i64 0) rfl
      have zz2 := blk_cell ST.out.z 2 (v := .string { data := #[] }) rfl
      have xx0 := blk_fr ST.out.z 0
      have xx1 := blk_fr ST.out.z 1
      have xx2 := blk_fr ST.out.z 2
      clear q1 q2 q3
      unfold putV at hV
      dsimp only at hV
      go_wp2_with fail
      rw [← hV]
      have t0 := blk_cell RV.out 0 (v := .int .i64 0) rfl
      have t1' := blk_cell RV.out 1 (v := .int .i64 0) rfl
      have t2' := blk_cell RV.out 2 (v := .string { data := #[] }) rfl
      refine bodyPost_ret (v := .agg #[.int .i64 0, .int .i64 0, .string { data := #[] }]) (by simp [results, Tryd.results31, go_sem, t0, t1', t2']) rfl ?_
      rw [R.out]
      exact ⟨rfl, RR.out, GV.out⟩
    · have t5 : (chk (k, 0, { data := #[] }) != 0) = true := by simp [hc]
      clear hc
      generalize chk (k, 0, { data := #[] }) = cc at *
      go_wp2_with fail
      refine (Wire.dead_fail (pt c) w6 e1 4 DE.out).mono ?_
      rintro _ w7 ⟨rfl, hw7⟩
      subst hw7
      go_wp2_with fail
      refine (Wire.err_live c t1 e1 w6 ST.out.r).mono ?_
      rintro _ w8 ⟨rfl, hw8⟩
      subst hw8
      obtain ⟨V, hV⟩ : ∃ V, V = putV w6 b1 (0, 0, { data := #[] }) := ⟨_, rfl⟩
      obtain ⟨q1, q2, q3⟩ := ST.out.out (0, 0, { data := #[] }) (by omega) (by have := HB1.out; omega)
      rw [← hV] at q1 q2 q3
      have RV := Lib.hid q2
      have RR := Lib.hid q1
      have GV := Lib.hid q3
      have zz0 := blk_cell ST.out.z 0 (v := .int .i64 0) rfl
      have zz1 := blk_cell ST.out.z 1 (v := .int .i64 0) rfl
      have zz2 := blk_cell ST.out.z 2 (v := .string { data := #[] }) rfl
      have xx0 := blk_fr ST.out.z 0
      have xx1 := blk_fr ST.out.z 1
      have xx2 := blk_fr ST.out.z 2
      clear q1 q2 q3
      unfold putV at hV
      dsimp only at hV
      go_wp2_with fail
      rw [← hV]
      have t0 := blk_cell RV.out 0 (v := .int .i64 0) rfl
      have t1' := blk_cell RV.out 1 (v := .int .i64 0) rfl
      have t2' := blk_cell RV.out 2 (v := .string { data := #[] }) rfl
      refine bodyPost_ret (v := .agg #[.int .i64 0, .int .i64 0, .string { data := #[] }]) (by simp [results, Tryd.results31, go_sem, t0, t1', t2']) rfl ?_
      rw [R.out]
      exact ⟨rfl, RR.out, GV.out⟩
end Go.Proofs.YtagkmfhicpcjnaaDoor.Vlu
/- Package value: Decode. -/
set_option linter.unusedVariables false
set_option maxRecDepth 100000
namespace Go.Proofs.YtagkmfhicpcjnaaDoor.Vlu
open Go.RowKit
open Wire (bs enI enT fInt fText pt PB Out)

set_option maxRecDepth 100000 in
set_option maxHeartbeats 4000000 in
theorem pdec_any (s : ByteArray) (w : World) (hs : s.size ≤ 100000) :
    Calls Tryd.prog 25 #[.string s] w (OutD w (dcd s)) := by
  have X0 := blk_new w (bxV z0)
  have hz : w.heap.size < (w.alloc (bxV z0)).heap.size := by simp
  have B0 := alloc_below w (bxV z0)
  have KN := Lib.hid (Wire.new_any s (w.alloc (bxV z0)))
  have KT := Lib.hid (fun (w1 : World) (c : Nat) (h : PB w1 c s 0 true) => ptake_live c s w1 hs h)
  have D : dcd s = if (tk s).2.2 ≠ 0 then (z0, (tk s).2.2) else if (tk s).2.1.size ≠ 0 then (z0, 23) else ((tk s).1, 0) := rfl
  obtain ⟨⟨k, n, u⟩, t, e, ht⟩ : ∃ u t e, tk s = (u, t, e) := ⟨_, _, _, rfl⟩
  rw [ht] at KT D
  dsimp only at KT D
  unfold Out at KT
  generalize dcd s = X at *
  replace D := Lib.hid D
  clear ht
  go_enter Tryd.func25, Tryd.ntmps25
  go_wp2_with fail
  refine KN.out.mono ?_
  rintro _ w1 ⟨rfl, hr1, hb1⟩
  have KT := Lib.hid (KT.out w1 _ hr1)
  have X1 := blk_below X0 hb1 hz
  have B1 := B0.trans (hb1.mono B0.size)
  have hc1 : w.heap.size < (w.alloc (bxV z0)).heap.size := hz
  obtain ⟨c, hc⟩ : ∃ c, (w.alloc (bxV z0)).heap.size = c := ⟨_, rfl⟩
  rw [hc] at KT hr1 hc1
  have HC := Lib.hid hc
  clear KN hb1 X0 B0 hz
  go_wp2_with fail
  refine KT.out.mono ?_
  rintro _ w2 ⟨rfl, hr2, hg2⟩
  have hb3 := alloc_below w2 (bxV (k, n, u))
  have hl2 : w.heap.size < w2.heap.size := by have := blk_lt hr2; omega
  have B3 := B1.trans (gr_below hg2 (fun g q => by simp only [Option.some.injEq] at q; omega) B1.size) |>.trans (hb3.mono (by omega))
  have X3 := blk_alloc (blk_grown X1 hg2 (fun q => by simp only [Option.some.injEq] at q; omega)) (bxV (k, n, u))
  have V3 := blk_new w2 (bxV (k, n, u))
  have hr3 : PB (w2.alloc (bxV (k, n, u))) c t e true := blk_alloc hr2 _
  go_upto_region 3 with fail
  obtain ⟨W, hW⟩ : ∃ W, w2.alloc (.cells #[.int .i64 k, .int .i64 n, .string u] 26) = W := ⟨_, rfl⟩
  have hW2 : w2.alloc (bxV (k, n, u)) = W := hW
  rw [hW2] at B3 X3 V3 hr3
  rw [hW]
  have B3 := Lib.hid B3
  have X3 := Lib.hid X3
  have V3 := Lib.hid V3
  have hr3 := Lib.hid hr3
  clear hb3 hl2 hW hW2 hr2 hg2 X1 B1 hr1 hc KT
  by_cases he : e = 0
  · replace D := Lib.hid (D.out.trans (if_neg (fun q => q he)))
    have KE := Lib.hid (Wire.live_end c t W (by have := hr3.out; rw [he] at this; exact this))
    by_cases hl : t.size = 0
    · rw [if_pos hl] at KE
      have R := Lib.hid (D.out.trans (if_neg (fun q => q hl)))
      clear D hl he
      go_wp2_with fail
      refine KE.out.mono ?_
      rintro _ W4 ⟨rfl, hw⟩
      subst hw
      have V4 := V3
      have X4 := X3
      have B4 := B3
      clear KE
      have v0c := blk_cell V4.out 0 (v := .int .i64 k) rfl
      have v1c := blk_cell V4.out 1 (v := .int .i64 n) rfl
      have v2c := blk_cell V4.out 2 (v := .string u) rfl
      obtain ⟨V, hV⟩ : ∃ V, V = putV W w.heap.size (k, n, u) := ⟨_, rfl⟩
      have RV := Lib.hid (show V.heap[w.heap.size]? = some (bxV (k, n, u)) by rw [hV]; exact putV_blk X4.out _)
      have BV := Lib.hid (show Below w.heap.size w V by rw [hV]; exact putV_below B4.out (Nat.le_refl _) _)
      have z0c := blk_cell X4.out 0 (v := .int .i64 0) rfl
      have z1c := blk_cell X4.out 1 (v := .int .i64 0) rfl
      have z2c := blk_cell X4.out 2 (v := .string { data := #[] }) rfl
      have x0c := blk_fr X4.out 0
      have x1c := blk_fr X4.out 1
      have x2c := blk_fr X4.out 2
      unfold putV at hV
      dsimp only at hV
      go_wp2_with fail
      rw [← hV]
      have t0 := blk_cell RV.out 0 (v := .int .i64 k) rfl
      have t1 := blk_cell RV.out 1 (v := .int .i64 n) rfl
      have t2 := blk_cell RV.out 2 (v := .string u) rfl
      refine bodyPost_ret (v := .tuple #[.agg #[.int .i64 k, .int .i64 n, .string u], .int .i64 0]) (by simp [results, Tryd.results25, go_sem, t0, t1, t2]) rfl ⟨?_, BV.out⟩
      rw [R.out]
    · rw [if_neg hl] at KE
      have R := Lib.hid (D.out.trans (if_pos hl))
      clear D hl he
      go_wp2_with fail
      refine KE.out.mono ?_
      rintro _ W4 ⟨rfl, hw⟩
      subst hw
      have X4 := X3
      have B4 := B3
      clear KE
      obtain ⟨V, hV⟩ : ∃ V, V = putV W w.heap.size (0, 0, { data := #[] }) := ⟨_, rfl⟩
      have RV := Lib.hid (show V.heap[w.heap.size]? = some (bxV (0, 0, { data := #[] })) by rw [hV]; exact putV_blk X4.out _)
      have BV := Lib.hid (show Below w.heap.size w V by rw [hV]; exact putV_below B4.out (Nat.le_refl _) _)
      have z0c := blk_cell X4.out 0 (v := .int .i64 0) rfl
      have z1c := blk_cell X4.out 1 (v := .int .i64 0) rfl
      have z2c := blk_cell X4.out 2 (v := .string { data := #[] }) rfl
      have x0c := blk_fr X4.out 0
      have x1c := blk_fr X4.out 1
      have x2c := blk_fr X4.out 2
      unfold putV at hV
      dsimp only at hV
      go_wp2_with fail
      rw [← hV]
      have t0 := blk_cell RV.out 0 (v := .int .i64 0) rfl
      have t1 := blk_cell RV.out 1 (v := .int .i64 0) rfl
      have t2 := blk_cell RV.out 2 (v := .string { data := #[] }) rfl
      refine bodyPost_ret (v := .tuple #[.agg #[.int .i64 0, .int .i64 0, .string { data := #[] }], .int .i64 23]) (by simp [results, Tryd.results25, go_sem, t0, t1, t2]) rfl ⟨?_, BV.out⟩
      rw [R.out]
      rfl
  · have R := Lib.hid (D.out.trans (if_pos he))
    have t5 : (e != 0) = true := by simp [he]
    have KE := Lib.hid (Wire.dead_end (pt c) W e (Wire.pb_dead hr3.out he))
    clear D he
    go_wp2_with fail
    refine KE.out.mono ?_
    rintro _ w4 ⟨rfl, hw⟩
    subst hw
    clear KE
    obtain ⟨V, hV⟩ : ∃ V, V = putV W w.heap.size (0, 0, { data := #[] }) := ⟨_, rfl⟩
    have RV := Lib.hid (show V.heap[w.heap.size]? = some (bxV (0, 0, { data := #[] })) by rw [hV]; exact putV_blk X3.out _)
    have BV := Lib.hid (show Below w.heap.size w V by rw [hV]; exact putV_below B3.out (Nat.le_refl _) _)
    have z0c := blk_cell X3.out 0 (v := .int .i64 0) rfl
    have z1c := blk_cell X3.out 1 (v := .int .i64 0) rfl
    have z2c := blk_cell X3.out 2 (v := .string { data := #[] }) rfl
    have x0c := blk_fr X3.out 0
    have x1c := blk_fr X3.out 1
    have x2c := blk_fr X3.out 2
    unfold putV at hV
    dsimp only at hV
    go_wp2_with fail
    rw [← hV]
    have t0 := blk_cell RV.out 0 (v := .int .i64 0) rfl
    have t1 := blk_cell RV.out 1 (v := .int .i64 0) rfl
    have t2 := blk_cell RV.out 2 (v := .string { data := #[] }) rfl
    refine bodyPost_ret (v := .tuple #[.agg #[.int .i64 0, .int .i64 0, .string { data := #[] }], .int .i64 e]) (by simp [results, Tryd.results25, go_sem, t0, t1, t2]) rfl ⟨?_, BV.out⟩
    rw [R.out]
    rfl
end Go.Proofs.YtagkmfhicpcjnaaDoor.Vlu
/- Package value's Take of a nil Reader. -/
set_option linter.unusedVariables false
set_option maxRecDepth 100000
namespace Go.Proofs.YtagkmfhicpcjnaaDoor.Vlu
open Go.RowKit
open Wire (Dead dead_mk dead_int err_nil)

theorem nil_dead (w : World) : Dead (.pointer none) w 15 := dead_mk (by decide) (err_nil w)
set_option maxRecDepth 100000 in
set_option maxHeartbeats 4000000 in
theorem ptake_nil (w : World) : Calls Tryd.prog 31 #[.pointer none] w (OutV w z0) := by
  have HD := Lib.hid nil_dead
  have b0 := alloc_below w (bxV z0)
  have b1 := b0.trans ((alloc_below (w.alloc (bxV z0)) (bxV z0)).mono (by simp))
  have X0 := blk_alloc (blk_new w (bxV z0)) (bxV z0)
  have X1 := blk_new (w.alloc (bxV z0)) (bxV z0)
  rw [show (w.alloc (bxV z0)).heap.size = w.heap.size + 1 by simp] at X1
  have hz : w.heap.size + 2 ≤ ((w.alloc (bxV z0)).alloc (bxV z0)).heap.size := by simp
  go_enter Tryd.func31, Tryd.ntmps31
  go_wp2_with fail
  refine (dead_int _ _ 15 (HD.out _)).mono ?_
  rintro _ w1 ⟨rfl, hw⟩
  subst hw
  go_upto_region 2 with fail
  obtain ⟨W, hW⟩ : ∃ W, (w.alloc (.cells #[.int .i64 0, .int .i64 0, .string { data := #[] }] 26)).alloc (.cells #[.int .i64 0, .int .i64 0, .string { data := #[] }] 26) = W := ⟨_, rfl⟩
  have hW2 : (w.alloc (bxV z0)).alloc (bxV z0) = W := hW
  rw [hW2] at X0 X1 hz b1
  rw [hW]
  clear hW hW2 b0
  have c0 := blk_cell X1 0 (v := .int .i64 0) rfl
  have c1 := blk_cell X1 1 (v := .int .i64 0) rfl
  have c2 := blk_cell X1 2 (v := .string { data := #[] }) rfl
  have KC := Lib.hid (pcheck_any z0 W (by decide))
  unfold OutI at KC
  rw [chk_z0] at KC
  go_wp2_with fail
  refine KC.out.mono ?_
  rintro _ w6 ⟨rfl, hb6⟩
  clear c0 c1 c2 KC
  replace X0 := blk_below X0 hb6 (by omega)
  replace b1 := b1.trans (hb6.mono b1.size)
  have z0c := blk_cell X0 0 (v := .int .i64 0) rfl
  have z1c := blk_cell X0 1 (v := .int .i64 0) rfl
  have z2c := blk_cell X0 2 (v := .string { data := #[] }) rfl
  have x0 := blk_fr X0 0
  have x1 := blk_fr X0 1
  have x2 := blk_fr X0 2
  have RV := Lib.hid (putV_blk X0 (0, 0, { data := #[] }))
  have GV := Lib.hid (putV_below b1 (Nat.le_refl _) (0, 0, { data := #[] }))
  obtain ⟨V, hV⟩ : ∃ V, V = putV w6 w.heap.size (0, 0, { data := #[] }) := ⟨_, rfl⟩
  rw [← hV] at RV GV
  unfold putV at hV
  dsimp only at hV
  clear X0 X1 hz b1 hb6
  go_wp2_with fail
  refine (HD.out _).2.2.mono ?_
  rintro _ w5 ⟨rfl, hw5⟩
  subst hw5
  go_wp2_with fail
  rw [← hV]
  have t0 := blk_cell RV.out 0 (v := .int .i64 0) rfl
  have t1' := blk_cell RV.out 1 (v := .int .i64 0) rfl
  have t2' := blk_cell RV.out 2 (v := .string { data := #[] }) rfl
  refine bodyPost_ret (v := .agg #[.int .i64 0, .int .i64 0, .string { data := #[] }]) (by simp [results, Tryd.results31, go_sem, t0, t1', t2']) rfl ?_
  exact ⟨rfl, GV.out⟩
end Go.Proofs.YtagkmfhicpcjnaaDoor.Vlu
/- Package value: the table of the words; Print, Parse. -/
set_option linter.unusedVariables false
set_option maxRecDepth 100000
namespace Go.Proofs.YtagkmfhicpcjnaaDoor.Vlu
open Go.RowKit
open Names (nm quo unq)
open Wire (bs)

def wds : List ByteArray := [sNone, sFals, sTrue, sHash, sQuot]
def wd (i : Nat) : ByteArray := wds.getD i sNone
/-- The table of the words lies as the program's text lays it. -/
def WTab (w : World) : Prop := ∀ i, i < 5 → w.cell? ⟨0, i, none⟩ = some (.string (wd i))
theorem WTab.below {w w' : World} (h : WTab w) (hb : Below w.heap.size w w') : WTab w' := fun i hi => (hb.cell (World.block_lt_of_cell? w _ (h i hi))).trans (h i hi)
/-- All tables lie as they were laid. -/
def Tabs (w : World) : Prop := Names.Tabs w ∧ WTab w
theorem Tabs.below {w w' : World} (h : Tabs w) (hb : Below w.heap.size w w') : Tabs w' := ⟨h.1.below hb, h.2.below hb⟩

set_option maxRecDepth 100000 in
set_option maxHeartbeats 4000000 in
theorem pprt_any (v : Vl) (w : World) (hv : v.2.2.size ≤ 100000) (hT : Tabs w) : Calls Tryd.prog 36 #[vlV v] w (OutY w (prt v)) := by
  have b0 := alloc_below w (bxV v)
  have X := blk_new w (bxV v)
  have hz : w.heap.size < (w.alloc (bxV v)).heap.size := by simp
  have KC := Lib.hid (pcheck_any v (w.alloc (bxV v)) (by omega))
  unfold OutI at KC
  have HT := Lib.hid (fun (w1 : World) (hb : Below w.heap.size w w1) => hT.below hb)
  have HX := Lib.hid (fun (w1 : World) (hb : Below (w.alloc (bxV v)).heap.size (w.alloc (bxV v)) w1) => And.intro (blk_below X hb hz) (b0.trans (hb.mono b0.size)))
  have P1 := Lib.hid (prt_bad (v := v))
  have P2 := Lib.hid (prt_is (v := v))
  have CI := Lib.hid (chk_iff (v := v))
  generalize prt v = P at *
  generalize chk v = cv at *
  obtain ⟨k, n, s⟩ := v
  dsimp only at KC CI hv
  have c0 := blk_cell X 0 (v := .int .i64 k) rfl
  have c1 := blk_cell X 1 (v := .int .i64 n) rfl
  have c2 := blk_cell X 2 (v := .string s) rfl
  clear X hz b0 hT
  go_enter Tryd.func36, Tryd.ntmps36
  go_wp2_with fail
  refine KC.out.mono ?_
  rintro _ w1 ⟨rfl, hb1⟩
  clear c0 c1 c2
  obtain ⟨X1, B1⟩ := HX.out w1 hb1
  clear HX KC hb1
  by_cases hc : cv = 0
  case neg =>
    have t1 : (cv != 0) = true := by simp [hc]
    have R := Lib.hid (P1.out hc)
    have B1 := Lib.hid B1
    clear P1 P2 CI hc X1
    go_wp2_with fail
    go_ret
    exact ⟨by rw [R.out]; rfl, B1.out⟩
  have t1 : (cv != 0) = false := by simp [hc]
  obtain ⟨k0, k4, l1, l2, _, _⟩ := CI.out.1 hc
  have R := Lib.hid (P2.out hc)
  have hT1 := HT.out w1 B1
  replace B1 := Lib.hid B1
  have c0 := blk_cell X1 0 (v := .int .i64 k) rfl
  have c1 := blk_cell X1 1 (v := .int .i64 n) rfl
  have c2 := blk_cell X1 2 (v := .string s) rfl
  have g0 : w1.cell? ⟨0, 0, none⟩ = some (.string sNone) := hT1.2 0 (by decide)
  have g1 : w1.cell? ⟨0, 1, none⟩ = some (.string sFals) := hT1.2 1 (by decide)
  have g2 : w1.cell? ⟨0, 2, none⟩ = some (.string sTrue) := hT1.2 2 (by decide)
  have g3 : w1.cell? ⟨0, 3, none⟩ = some (.string sHash) := hT1.2 3 (by decide)
  have hT1 := Lib.hid hT1
  clear P1 P2 CI hc HT
  have hk5 : k = 0 ∨ k = 1 ∨ k = 2 ∨ k = 3 ∨ k = 4 := by omega
  rcases hk5 with rfl | rfl | rfl | rfl | rfl
  · have R := Lib.hid (show P = sNone from R.out)
    clear X1
    go_wp2_with fail
    go_ret
    exact ⟨by rw [R.out]; rfl, B1.out⟩
  · have q1 : lo 1 = 0 := by decide
    have q2 : hi 1 = 1 := by decide
    have hn : n = 0 ∨ n = 1 := by omega
    clear X1 l1 l2 q1 q2
    rcases hn with rfl | rfl
    · have R := Lib.hid (show P = sFals from R.out)
      go_wp2_with fail
      go_ret
      exact ⟨by rw [R.out]; rfl, B1.out⟩
    · have R := Lib.hid (show P = sTrue from R.out)
      go_wp2_with fail
      go_ret
      exact ⟨by rw [R.out]; rfl, B1.out⟩
  · have KD := Lib.hid (ndig_any n w1 (by have := hi_le 2; have := lo_ge 2; unfold I64; omega))
    have R := Lib.hid (show P = digS n from R.out)
    clear l1 l2 X1
    go_wp2_with fail
    refine KD.out.mono ?_
    rintro _ w2 ⟨rfl, hg⟩
    have B2 := Lib.hid (B1.out.trans (hg.mono B1.out.size))
    clear hg
    go_wp2_with fail
    go_ret
    exact ⟨by rw [R.out]; rfl, B2.out⟩
  · have KD := Lib.hid (fun (w2 : World) => ndig_any n w2 (by have := hi_le 3; have := lo_ge 3; unfold I64; omega))
    have R := Lib.hid (show P = sHash ++ digS n from R.out)
    have LZ := digS_size n
    have LZ2 : sHash.size + (digS n).size ≤ 9223372036854775807 := by
      have : sHash.size = 1 := rfl
      omega
    have HS := Lib.hid (fun (w2 : World) (hb : Below w1.heap.size w1 w2) => (show w2.cell? ⟨0, 3, none⟩ = some (.string sHash) ∧ w2.cell? ⟨w.heap.size, 1, none⟩ = some (.int .i64 n) from ⟨(hT1.out.below hb).2 3 (by decide), blk_cell (blk_below X1 hb (blk_lt X1)) 1 rfl⟩))
    clear l1 l2 X1 g0 g1 g2 g3 LZ
    generalize digS n = D at *
    go_upto_region 9 with fail
    clear c0 c1 c2
    refine wp_region_held_drew (S := (fun wy : World => wy.cell? ⟨0, 3, none⟩ = some (.string sHash) ∧ wy.cell? ⟨w.heap.size, 1, none⟩ = some (.int .i64 n))) (by kernel_rfl) (HS.out _ (below_drewN (Below.refl _ _) 1)) (fun hHeld => ?_)
    refine wpAnyH_take (i := 0) (v := (.pointer (some ⟨0, 3, none⟩))) at_zero (by kernel_rfl) (by kernel_rfl) (by kernel_rfl) (fun _ _ _ h => h) (Or.inl ⟨by kernel_rfl, fun wy hSw => ?_⟩) (by assumption) ?_
    · (try dsimp only at hSw); go_simp
    try simp only [Act.put, List.setIfInBounds_toArray, List.set_cons_zero, List.set_cons_succ]
    refine wpAnyH_take (i := 1) (v := (.string sHash)) (at_succ at_zero) (by kernel_rfl) (by kernel_rfl) (by kernel_rfl) (fun _ _ _ h => h) (Or.inl ⟨by kernel_rfl, fun wy hSw => ?_⟩) (by assumption) ?_
    · obtain ⟨y0, y1⟩ := hSw; go_simp
    try simp only [Act.put, List.setIfInBounds_toArray, List.set_cons_zero, List.set_cons_succ]
    refine wpAnyH_take (i := 2) (v := (.pointer (some ⟨w.heap.size, 1, none⟩))) (at_succ (at_succ at_zero)) (by kernel_rfl) (by kernel_rfl) (by kernel_rfl) (fun _ _ _ h => h) (Or.inl ⟨by kernel_rfl, fun wy hSw => ?_⟩) (by assumption) ?_
    · (try dsimp only at hSw); go_simp
    try simp only [Act.put, List.setIfInBounds_toArray, List.set_cons_zero, List.set_cons_succ]
    refine wpAnyH_take (i := 3) (v := (.int .i64 n)) (at_succ (at_succ (at_succ at_zero))) (by kernel_rfl) (by kernel_rfl) (by kernel_rfl) (fun _ _ _ h => h) (Or.inl ⟨by kernel_rfl, fun wy hSw => ?_⟩) (by assumption) ?_
    · obtain ⟨y0, y1⟩ := hSw; go_simp
    try simp only [Act.put, List.setIfInBounds_toArray, List.set_cons_zero, List.set_cons_succ]
    refine wpAnyH_ready (rs := [4]) (by kernel_rfl) (by simp) ?_
    refine AllReadyH.cons (at_succ (at_succ (at_succ (at_succ at_zero)))) (fun K hK => ?_) AllReadyH.nil
    rw [if_pos (by kernel_rfl)]
    go_simp
    refine (KD.out _).mono ?_
    rintro _ w2 ⟨rfl, hg⟩
    have H2 := Lib.hid ((below_drewN (Below.refl _ _) 1).trans (hg.mono (below_drewN (Below.refl w1.heap.size w1) 1).size))
    clear hg hHeld
    go_wp2_with fail
    refine hK.out _ _ (HS.out _ H2.out) (fun hHeld => ?_)
    clear hK K
    try simp only [Act.put, List.setIfInBounds_toArray, List.set_cons_zero, List.set_cons_succ]
    refine wpAnyH_take (i := 5) (v := (.string (sHash ++ D))) (at_succ (at_succ (at_succ (at_succ (at_succ at_zero))))) (by kernel_rfl) (by kernel_rfl) (by kernel_rfl) (fun _ _ _ h => h) (Or.inl ⟨by kernel_rfl, fun wy hSw => ?_⟩) (by assumption) ?_
    · (try dsimp only at hSw); go_simp
    try simp only [Act.put, List.setIfInBounds_toArray, List.set_cons_zero, List.set_cons_succ]
    refine wpAnyH_take (i := 6) (v := (.string (sHash ++ D))) (at_succ (at_succ (at_succ (at_succ (at_succ (at_succ at_zero)))))) (by kernel_rfl) (by kernel_rfl) (by kernel_rfl) (fun _ _ _ h => h) (Or.inl ⟨by kernel_rfl, fun wy hSw => ?_⟩) (by assumption) ?_
    · (try dsimp only at hSw); go_simp
    try simp only [Act.put, List.setIfInBounds_toArray, List.set_cons_zero, List.set_cons_succ]
    refine wpAnyH_done (by kernel_rfl) ?_ _
    clear hHeld HS KD
    have B2 := Lib.hid (B1.out.trans (H2.out.mono B1.out.size))
    go_wp2_with fail
    go_ret
    exact ⟨by rw [R.out]; rfl, B2.out⟩
  · have KQ := Lib.hid (Names.quote_any s w1 hv hT1.out.1)
    unfold Names.OutS at KQ
    have R := Lib.hid (show P = bs (quo s.data.toList) from R.out)
    clear l1 l2 X1
    go_wp2_with fail
    refine KQ.out.mono ?_
    rintro _ w2 ⟨rfl, hb⟩
    have B2 := Lib.hid (B1.out.trans (hb.mono B1.out.size))
    clear hb
    go_wp2_with fail
    go_ret
    exact ⟨by rw [R.out]; rfl, B2.out⟩

/-! wordOf. -/
/-- The word by which a text begins. -/
def wix (s : ByteArray) : Nat := if pre sNone s = true then 0 else if pre sFals s = true then 1 else if pre sTrue s = true then 2 else if pre sHash s = true then 3 else if pre sQuot s = true then 4 else 5
theorem wix_at (s : ByteArray) (k : Nat) (hk : k < 5) (h : ∀ j, j < k → pre (wd j) s = false) (e : pre (wd k) s = true) : wix s = k := by
  have h0 := h 0; have h1 := h 1; have h2 := h 2; have h3 := h 3
  unfold wix
  match k, hk with
  | 0, _ => rw [if_pos (show pre sNone s = true from e)]
  | 1, _ => rw [if_neg (by rw [show pre sNone s = false from h0 (by decide)]; decide), if_pos (show pre sFals s = true from e)]
  | 2, _ => rw [if_neg (by rw [show pre sNone s = false from h0 (by decide)]; decide), if_neg (by rw [show pre sFals s = false from h1 (by decide)]; decide), if_pos (show pre sTrue s = true from e)]
  | 3, _ => rw [if_neg (by rw [show pre sNone s = false from h0 (by decide)]; decide), if_neg (by rw [show pre sFals s = false from h1 (by decide)]; decide), if_neg (by rw [show pre sTrue s = false from h2 (by decide)]; decide), if_pos (show pre sHash s = true from e)]
  | 4, _ => rw [if_neg (by rw [show pre sNone s = false from h0 (by decide)]; decide), if_neg (by rw [show pre sFals s = false from h1 (by decide)]; decide), if_neg (by rw [show pre sTrue s = false from h2 (by decide)]; decide), if_neg (by rw [show pre sHash s = false from h3 (by decide)]; decide), if_pos (show pre sQuot s = true from e)]
theorem wix_no (s : ByteArray) (h : ∀ j, j < 5 → pre (wd j) s = false) : wix s = 5 := by
  unfold wix
  rw [if_neg (by rw [show pre sNone s = false from h 0 (by decide)]; decide), if_neg (by rw [show pre sFals s = false from h 1 (by decide)]; decide), if_neg (by rw [show pre sTrue s = false from h 2 (by decide)]; decide), if_neg (by rw [show pre sHash s = false from h 3 (by decide)]; decide), if_neg (by rw [show pre sQuot s = false from h 4 (by decide)]; decide)]
theorem index_wd (k : Nat) (hk : k < 5) (w : World) : (Instr.index 75 (.agg #[.string (wd 0), .string (wd 1), .string (wd 2), .string (wd 3), .string (wd 4)]) (.int .i64 (k : Int))).run Tryd.prog w = .ok (.string (wd k)) w := by
  match k, hk with
  | 0, _ => simp [Instr.index, asIntOf, run_underlying Tryd.underlying75, go_sem]
  | 1, _ => simp [Instr.index, asIntOf, run_underlying Tryd.underlying75, go_sem]
  | 2, _ => simp [Instr.index, asIntOf, run_underlying Tryd.underlying75, go_sem]
  | 3, _ => simp [Instr.index, asIntOf, run_underlying Tryd.underlying75, go_sem]
  | 4, _ => simp [Instr.index, asIntOf, run_underlying Tryd.underlying75, go_sem]
set_option maxRecDepth 100000 in
set_option maxHeartbeats 4000000 in
theorem pword_any (s : ByteArray) (w : World) (hT : WTab w) : Calls Tryd.prog 81 #[.string s] w fun e w' => e = .returned (.int .i64 (wix s : Int)) ∧ w = w' := by
  have KY := Lib.hid (wix_at s)
  have KN := Lib.hid (wix_no s)
  have KP := Lib.hid (fun (k : Nat) (w1 : World) => (show Calls Tryd.prog 95 #[.string s, .string (wd k)] w1 fun e w' => e = .returned (.bool (pre (wd k) s)) ∧ w' = w1 from Tryd.strings_HasPrefix s (wd k) w1))
  have KX := Lib.hid index_wd
  have g0 := hT 0 (by decide)
  have g1 := hT 1 (by decide)
  have g2 := hT 2 (by decide)
  have g3 := hT 3 (by decide)
  have g4 := hT 4 (by decide)
  clear hT
  generalize wix s = F at *
  obtain ⟨PR, hPR⟩ : ∃ PR : Nat → Bool, ∀ k, pre (wd k) s = PR k := ⟨_, fun _ => rfl⟩
  simp only [hPR] at KY KN KP
  clear hPR
  obtain ⟨WD, hWD⟩ : ∃ WD : Nat → ByteArray, wd = WD := ⟨_, rfl⟩
  rw [hWD] at KP KX g0 g1 g2 g3 g4
  clear hWD
  go_enter Tryd.func81, Tryd.ntmps81
  go_wp2_with fail
  clear g0 g1 g2 g3 g4
  go_loop [6] (fun vi => ∃ k : Nat, vi = .int .i64 k ∧ k ≤ 5 ∧ Hid (∀ j, j < k → PR j = false)) (fun vi => 5 - (intOf vi).toNat)
  case atStart => exact ⟨0, rfl, by decide, Lib.hid (fun j h => absurd h (by omega))⟩
  case round =>
    obtain ⟨k, rfl, hk, HN⟩ := hrel
    by_cases hlt : k < 5
    · have KX := KX.out k hlt w
      have d1 := dt (show (k : Int) < 5 by omega)
      cases hp : PR k with
      | true =>
        have R := Lib.hid (KY.out k hlt HN.out hp)
        have KP := Lib.hid (KP.out k w)
        rw [hp] at KP
        clear KY KN HN hp
        go_wp2_with fail
        refine KP.out.mono ?_
        rintro _ w2 ⟨rfl, hw⟩
        subst hw
        clear KP KX
        go_wp2_with fail
        go_ret
        exact ⟨ret_int (by rw [R.out]), rfl⟩
      | false =>
        have KP := Lib.hid (KP.out k w)
        rw [hp] at KP
        have HN := Lib.hid (show ∀ j, j < k + 1 → PR j = false from fun j hj => by
          by_cases q : j = k
          · subst q; exact hp
          · exact HN.out j (by omega))
        clear KY KN hp
        go_wp2_with fail
        refine KP.out.mono ?_
        rintro _ w2 ⟨rfl, hw⟩
        subst hw
        clear KP KX
        go_wp2_with fail
        go_round
        case rel => exact ⟨k + 1, by go_num, hlt, HN⟩
        case measure => simp [intOf]; omega
    · obtain rfl : k = 5 := by omega
      have R := Lib.hid (KN.out HN.out)
      clear KY KN HN KX
      go_wp2_with fail
      go_ret
      exact ⟨ret_int (by rw [R.out]; rfl), rfl⟩

/-! candidate. -/
theorem cnd_ways (s : ByteArray) : (wix s = 0 ∧ cnd s = z0) ∨ (wix s = 1 ∧ cnd s = (1, 0, ByteArray.empty)) ∨ (wix s = 2 ∧ cnd s = (1, 1, ByteArray.empty)) ∨ (wix s = 3 ∧ pre sHash s = true ∧ cnd s = (3, numS (s.extract 1 s.size), ByteArray.empty)) ∨ (wix s = 4 ∧ cnd s = (4, 0, bs (unq s.data.toList).1)) ∨ (wix s = 5 ∧ cnd s = (2, numS s, ByteArray.empty)) := by
  unfold wix cnd
  by_cases h0 : pre sNone s = true
  · rw [if_pos h0, if_pos h0]; exact Or.inl ⟨rfl, rfl⟩
  rw [if_neg h0, if_neg h0]
  by_cases h1 : pre sFals s = true
  · rw [if_pos h1, if_pos h1]; exact Or.inr (Or.inl ⟨rfl, rfl⟩)
  rw [if_neg h1, if_neg h1]
  by_cases h2 : pre sTrue s = true
  · rw [if_pos h2, if_pos h2]; exact Or.inr (Or.inr (Or.inl ⟨rfl, rfl⟩))
  rw [if_neg h2, if_neg h2]
  by_cases h3 : pre sHash s = true
  · rw [if_pos h3, if_pos h3]; exact Or.inr (Or.inr (Or.inr (Or.inl ⟨rfl, h3, rfl⟩)))
  rw [if_neg h3, if_neg h3]
  by_cases h4 : pre sQuot s = true
  · rw [if_pos h4, if_pos h4]; exact Or.inr (Or.inr (Or.inr (Or.inr (Or.inl ⟨rfl, rfl⟩))))
  rw [if_neg h4, if_neg h4]
  exact Or.inr (Or.inr (Or.inr (Or.inr (Or.inr ⟨rfl, rfl⟩))))
theorem trim_hash {s : ByteArray} (h : pre sHash s = true) : (⟨(Lib.trimPrefix s.data.toList sHash.data.toList).toArray⟩ : ByteArray) = s.extract 1 s.size := by
  have e : Lib.trimPrefix s.data.toList sHash.data.toList = s.data.toList.drop 1 := if_pos h
  rw [e]
  have := Wire.extract_bs (s.data.toList.take 1) (s.data.toList.drop 1) 1
  apply ByteArray.ext
  apply Array.toList_inj.1
  rw [ByteArray.data_extract, Array.toList_extract]
  show s.data.toList.drop 1 = (s.data.toList.drop 1).take (s.size - 1)
  rw [List.take_of_length_le (by simp)]
set_option maxRecDepth 100000 in
set_option maxHeartbeats 4000000 in
theorem pcnd_any (s : ByteArray) (w : World) (hs : s.size ≤ 10000) (hT : WTab w) : Calls Tryd.prog 63 #[.string s] w (OutV w (cnd s)) := by
  have X := blk_new w (bxV z0)
  have B0 := alloc_below w (bxV z0)
  have hz : w.heap.size < (w.alloc (bxV z0)).heap.size := by simp
  have CW := cnd_ways s
  have g3 : (w.alloc (bxV z0)).cell? ⟨0, 3, none⟩ = some (.string sHash) := (hT.below B0) 3 (by decide)
  have KW := Lib.hid (pword_any s (w.alloc (bxV z0)) (hT.below B0))
  have KT := Lib.hid (fun (h : pre sHash s = true) (w1 : World) => (show Calls Tryd.prog 83 #[.string s, .string sHash] w1 fun e w' => e = .returned (.string (s.extract 1 s.size)) ∧ w' = w1 from by rw [← trim_hash h]; exact Tryd.strings_TrimPrefix s sHash w1))
  have KE := Lib.hid (fun (w1 : World) => nparse_two (s.extract 1 s.size) w1 (by simp; omega))
  have KP := Lib.hid (fun (w1 : World) => nparse_two s w1 hs)
  have KU := Lib.hid (fun (w1 : World) => Names.uq_any s w1 (by omega) _ rfl)
  unfold Names.OutUq at KU
  generalize cnd s = F at *
  generalize wix s = wi at *
  obtain ⟨W, hW⟩ : ∃ W, w.alloc (bxV z0) = W := ⟨_, rfl⟩
  have hW' : w.alloc (.cells #[.int .i64 0, .int .i64 0, .string { data := #[] }] 26) = W := hW
  rw [hW] at X B0 hz g3 KW
  have HX := Lib.hid (fun (w1 : World) (hb : Below W.heap.size W w1) => And.intro (blk_below X hb hz) (B0.trans (hb.mono B0.size)))
  clear hW X B0 hz hT
  go_enter Tryd.func63, Tryd.ntmps63
  go_upto_region 1 with fail
  try rw [hW']
  clear hW'
  go_wp2_with fail
  refine KW.out.mono ?_
  rintro _ w0 ⟨rfl, hw0⟩
  subst hw0
  clear KW
  rcases CW with ⟨rfl, R⟩ | ⟨rfl, R⟩ | ⟨rfl, R⟩ | ⟨rfl, hp, R⟩ | ⟨rfl, R⟩ | ⟨rfl, R⟩
  · replace R := Lib.hid R
    obtain ⟨X1, B1⟩ := HX.out W (Below.refl _ _)
    replace X1 := Lib.hid X1
    replace B1 := Lib.hid B1
    clear HX KT KE KP KU
    obtain ⟨V, hV⟩ : ∃ V, V = putV W w.heap.size (0, 0, { data := #[] }) := ⟨_, rfl⟩
    have RV := Lib.hid (show V.heap[w.heap.size]? = some (bxV (0, 0, { data := #[] })) by rw [hV]; exact putV_blk X1.out _)
    have BV := Lib.hid (show Below w.heap.size w V by rw [hV]; exact putV_below B1.out (by omega) _)
    have zz0 := blk_cell X1.out 0 (v := .int .i64 0) rfl
    have zz1 := blk_cell X1.out 1 (v := .int .i64 0) rfl
    have zz2 := blk_cell X1.out 2 (v := .string { data := #[] }) rfl
    have xx0 := blk_fr X1.out 0
    have xx1 := blk_fr X1.out 1
    have xx2 := blk_fr X1.out 2
    unfold putV at hV
    dsimp only at hV
    go_wp2_with fail
    rw [← hV]
    have t0 := blk_cell RV.out 0 (v := .int .i64 0) rfl
    have t1 := blk_cell RV.out 1 (v := .int .i64 0) rfl
    have t2 := blk_cell RV.out 2 (v := .string { data := #[] }) rfl
    refine bodyPost_ret (v := .agg #[.int .i64 0, .int .i64 0, .string { data := #[] }]) (by simp [results, Tryd.results63, go_sem, t0, t1, t2]) rfl ⟨?_, BV.out⟩
    rw [R.out]
    first | done | rfl
  · replace R := Lib.hid R
    obtain ⟨X1, B1⟩ := HX.out W (Below.refl _ _)
    replace X1 := Lib.hid X1
    replace B1 := Lib.hid B1
    clear HX KT KE KP KU
    obtain ⟨V, hV⟩ : ∃ V, V = putV W w.heap.size (1, 0, { data := #[] }) := ⟨_, rfl⟩
    have RV := Lib.hid (show V.heap[w.heap.size]? = some (bxV (1, 0, { data := #[] })) by rw [hV]; exact putV_blk X1.out _)
    have BV := Lib.hid (show Below w.heap.size w V by rw [hV]; exact putV_below B1.out (by omega) _)
    have zz0 := blk_cell X1.out 0 (v := .int .i64 0) rfl
    have zz1 := blk_cell X1.out 1 (v := .int .i64 0) rfl
    have zz2 := blk_cell X1.out 2 (v := .string { data := #[] }) rfl
    have xx0 := blk_fr X1.out 0
    have xx1 := blk_fr X1.out 1
    have xx2 := blk_fr X1.out 2
    unfold putV at hV
    dsimp only at hV
    go_wp2_with fail
    rw [← hV]
    have t0 := blk_cell RV.out 0 (v := .int .i64 1) rfl
    have t1 := blk_cell RV.out 1 (v := .int .i64 0) rfl
    have t2 := blk_cell RV.out 2 (v := .string { data := #[] }) rfl
    refine bodyPost_ret (v := .agg #[.int .i64 1, .int .i64 0, .string { data := #[] }]) (by simp [results, Tryd.results63, go_sem, t0, t1, t2]) rfl ⟨?_, BV.out⟩
    rw [R.out]
    first | done | rfl
  · replace R := Lib.hid R
    obtain ⟨X1, B1⟩ := HX.out W (Below.refl _ _)
    replace X1 := Lib.hid X1
    replace B1 := Lib.hid B1
    clear HX KT KE KP KU
    obtain ⟨V, hV⟩ : ∃ V, V = putV W w.heap.size (1, 1, { data := #[] }) := ⟨_, rfl⟩
    have RV := Lib.hid (show V.heap[w.heap.size]? = some (bxV (1, 1, { data := #[] })) by rw [hV]; exact putV_blk X1.out _)
    have BV := Lib.hid (show Below w.heap.size w V by rw [hV]; exact putV_below B1.out (by omega) _)
    have zz0 := blk_cell X1.out 0 (v := .int .i64 0) rfl
    have zz1 := blk_cell X1.out 1 (v := .int .i64 0) rfl
    have zz2 := blk_cell X1.out 2 (v := .string { data := #[] }) rfl
    have xx0 := blk_fr X1.out 0
    have xx1 := blk_fr X1.out 1
    have xx2 := blk_fr X1.out 2
    unfold putV at hV
    dsimp only at hV
    go_wp2_with fail
    rw [← hV]
    have t0 := blk_cell RV.out 0 (v := .int .i64 1) rfl
    have t1 := blk_cell RV.out 1 (v := .int .i64 1) rfl
    have t2 := blk_cell RV.out 2 (v := .string { data := #[] }) rfl
    refine bodyPost_ret (v := .agg #[.int .i64 1, .int .i64 1, .string { data := #[] }]) (by simp [results, Tryd.results63, go_sem, t0, t1, t2]) rfl ⟨?_, BV.out⟩
    rw [R.out]
    first | done | rfl
  · replace R := Lib.hid R
    replace KT := Lib.hid (KT.out hp)
    generalize s.extract 1 s.size = s1 at *
    obtain ⟨m, hm⟩ : ∃ m, numS s1 = m := ⟨_, rfl⟩
    rw [hm] at R KE
    clear hm hp KP KU
    go_wp2_with fail
    refine (KT.out _).mono ?_
    rintro _ w2 ⟨rfl, hw2⟩
    subst hw2
    go_wp2_with fail
    refine (KE.out _).mono ?_
    rintro _ w1 ⟨rfl, hb1⟩
    obtain ⟨X1, B1⟩ := HX.out w1 hb1
    replace X1 := Lib.hid X1
    replace B1 := Lib.hid B1
    clear HX hb1
    clear KT KE g3
    obtain ⟨V, hV⟩ : ∃ V, V = putV w1 w.heap.size (3, m, { data := #[] }) := ⟨_, rfl⟩
    have RV := Lib.hid (show V.heap[w.heap.size]? = some (bxV (3, m, { data := #[] })) by rw [hV]; exact putV_blk X1.out _)
    have BV := Lib.hid (show Below w.heap.size w V by rw [hV]; exact putV_below B1.out (by omega) _)
    have zz0 := blk_cell X1.out 0 (v := .int .i64 0) rfl
    have zz1 := blk_cell X1.out 1 (v := .int .i64 0) rfl
    have zz2 := blk_cell X1.out 2 (v := .string { data := #[] }) rfl
    have xx0 := blk_fr X1.out 0
    have xx1 := blk_fr X1.out 1
    have xx2 := blk_fr X1.out 2
    unfold putV at hV
    dsimp only at hV
    go_wp2_with fail
    rw [← hV]
    have t0 := blk_cell RV.out 0 (v := .int .i64 3) rfl
    have t1 := blk_cell RV.out 1 (v := .int .i64 m) rfl
    have t2 := blk_cell RV.out 2 (v := .string { data := #[] }) rfl
    refine bodyPost_ret (v := .agg #[.int .i64 3, .int .i64 m, .string { data := #[] }]) (by simp [results, Tryd.results63, go_sem, t0, t1, t2]) rfl ⟨?_, BV.out⟩
    rw [R.out]
    first | done | rfl
  · replace R := Lib.hid R
    generalize unq s.data.toList = uq at *
    obtain ⟨u, ue⟩ := uq
    clear KT KE KP
    go_wp2_with fail
    refine (KU.out _).mono ?_
    rintro _ w1 ⟨rfl, hb1⟩
    obtain ⟨X1, B1⟩ := HX.out w1 hb1
    replace X1 := Lib.hid X1
    replace B1 := Lib.hid B1
    clear HX hb1
    clear KU g3
    dsimp only
    obtain ⟨V, hV⟩ : ∃ V, V = putV w1 w.heap.size (4, 0, Names.bs u) := ⟨_, rfl⟩
    have RV := Lib.hid (show V.heap[w.heap.size]? = some (bxV (4, 0, Names.bs u)) by rw [hV]; exact putV_blk X1.out _)
    have BV := Lib.hid (show Below w.heap.size w V by rw [hV]; exact putV_below B1.out (by omega) _)
    have zz0 := blk_cell X1.out 0 (v := .int .i64 0) rfl
    have zz1 := blk_cell X1.out 1 (v := .int .i64 0) rfl
    have zz2 := blk_cell X1.out 2 (v := .string { data := #[] }) rfl
    have xx0 := blk_fr X1.out 0
    have xx1 := blk_fr X1.out 1
    have xx2 := blk_fr X1.out 2
    unfold putV at hV
    dsimp only at hV
    go_wp2_with fail
    rw [← hV]
    have t0 := blk_cell RV.out 0 (v := .int .i64 4) rfl
    have t1 := blk_cell RV.out 1 (v := .int .i64 0) rfl
    have t2 := blk_cell RV.out 2 (v := .string (Names.bs u)) rfl
    refine bodyPost_ret (v := .agg #[.int .i64 4, .int .i64 0, .string (Names.bs u)]) (by simp [results, Tryd.results63, go_sem, t0, t1, t2]) rfl ⟨?_, BV.out⟩
    rw [R.out]
    first | done | rfl
  · replace R := Lib.hid R
    obtain ⟨m, hm⟩ : ∃ m, numS s = m := ⟨_, rfl⟩
    rw [hm] at R KP
    clear hm KT KE KU
    go_wp2_with fail
    refine (KP.out _).mono ?_
    rintro _ w1 ⟨rfl, hb1⟩
    obtain ⟨X1, B1⟩ := HX.out w1 hb1
    replace X1 := Lib.hid X1
    replace B1 := Lib.hid B1
    clear HX hb1
    clear KP g3
    obtain ⟨V, hV⟩ : ∃ V, V = putV w1 w.heap.size (2, m, { data := #[] }) := ⟨_, rfl⟩
    have RV := Lib.hid (show V.heap[w.heap.size]? = some (bxV (2, m, { data := #[] })) by rw [hV]; exact putV_blk X1.out _)
    have BV := Lib.hid (show Below w.heap.size w V by rw [hV]; exact putV_below B1.out (by omega) _)
    have zz0 := blk_cell X1.out 0 (v := .int .i64 0) rfl
    have zz1 := blk_cell X1.out 1 (v := .int .i64 0) rfl
    have zz2 := blk_cell X1.out 2 (v := .string { data := #[] }) rfl
    have xx0 := blk_fr X1.out 0
    have xx1 := blk_fr X1.out 1
    have xx2 := blk_fr X1.out 2
    unfold putV at hV
    dsimp only at hV
    go_wp2_with fail
    rw [← hV]
    have t0 := blk_cell RV.out 0 (v := .int .i64 2) rfl
    have t1 := blk_cell RV.out 1 (v := .int .i64 m) rfl
    have t2 := blk_cell RV.out 2 (v := .string { data := #[] }) rfl
    refine bodyPost_ret (v := .agg #[.int .i64 2, .int .i64 m, .string { data := #[] }]) (by simp [results, Tryd.results63, go_sem, t0, t1, t2]) rfl ⟨?_, BV.out⟩
    rw [R.out]
    first | done | rfl

set_option maxRecDepth 100000 in
set_option maxHeartbeats 4000000 in
theorem pprs_any (s : ByteArray) (w : World) (hs : s.size ≤ 10000) (hT : Tabs w) : Calls Tryd.prog 34 #[.string s] w (OutD w (prs s)) := by
  have X := blk_new w (bxV z0)
  have B0 := alloc_below w (bxV z0)
  have hz : w.heap.size < (w.alloc (bxV z0)).heap.size := by simp
  have KG := Lib.hid (pcnd_any s (w.alloc (bxV z0)) hs (hT.2.below B0))
  have KP := Lib.hid (fun (w1 : World) (hT1 : Tabs w1) => pprt_any (cnd s) w1 (cnd_size s) hT1)
  have HT := Lib.hid (fun (w1 : World) (hb : Below w.heap.size w w1) => hT.below hb)
  have q1 := seq_test (prt (cnd s)) s
  have D := prs_cnd s
  unfold OutV at KG
  unfold OutY at KP
  generalize prs s = F at *
  generalize prt (cnd s) = P at *
  obtain ⟨⟨k, n, u⟩, hg⟩ : ∃ g, cnd s = g := ⟨_, rfl⟩
  rw [hg] at KG KP D
  replace D := Lib.hid D
  clear hg hT
  go_enter Tryd.func34, Tryd.ntmps34
  go_wp2_with fail
  refine KG.out.mono ?_
  rintro _ w2 ⟨rfl, hb1⟩
  have hb3 := alloc_below w2 (bxV (k, n, u))
  have X2 := blk_below X hb1 hz
  have B2 := B0.trans (hb1.mono B0.size)
  have B3 := B2.trans (hb3.mono B2.size)
  have X3 := blk_alloc X2 (bxV (k, n, u))
  have V3 := blk_new w2 (bxV (k, n, u))
  go_upto_region 2 with fail
  obtain ⟨W, hW⟩ : ∃ W, w2.alloc (.cells #[.int .i64 k, .int .i64 n, .string u] 26) = W := ⟨_, rfl⟩
  have hW2 : w2.alloc (bxV (k, n, u)) = W := hW
  rw [hW2] at B3 X3 V3
  rw [hW]
  have KP := Lib.hid (KP.out W (HT.out W B3))
  have HX := Lib.hid (fun (w1 : World) (hb : Below W.heap.size W w1) => And.intro (blk_below X3 hb (blk_lt X3)) (And.intro (blk_below V3 hb (blk_lt V3)) (B3.trans (hb.mono B3.size))))
  have v0c := blk_cell V3 0 (v := .int .i64 k) rfl
  have v1c := blk_cell V3 1 (v := .int .i64 n) rfl
  have v2c := blk_cell V3 2 (v := .string u) rfl
  clear hb3 hW hW2 X2 B2 X B0 hb1 KG hz B3 X3 V3 HT
  by_cases hP : P = s
  · have R := Lib.hid (D.out.trans (if_neg (fun q => q hP)))
    rw [decide_eq_true hP] at q1
    have q2 : (P.toList != s.toList) = false := by rw [bne, q1]; rfl
    have q3 : P.toList = s.toList := by rw [hP]
    clear D hP
    go_wp2_with fail
    refine KP.out.mono ?_
    rintro _ w4 ⟨rfl, hb4⟩
    obtain ⟨X4, V4, B4⟩ := HX.out w4 hb4
    replace X4 := Lib.hid X4
    replace V4 := Lib.hid V4
    replace B4 := Lib.hid B4
    clear hb4 HX KP v0c v1c v2c
    have y0c := blk_cell V4.out 0 (v := .int .i64 k) rfl
    have y1c := blk_cell V4.out 1 (v := .int .i64 n) rfl
    have y2c := blk_cell V4.out 2 (v := .string u) rfl
    obtain ⟨V, hV⟩ : ∃ V, V = putV w4 w.heap.size (k, n, u) := ⟨_, rfl⟩
    have RV := Lib.hid (show V.heap[w.heap.size]? = some (bxV (k, n, u)) by rw [hV]; exact putV_blk X4.out _)
    have BV := Lib.hid (show Below w.heap.size w V by rw [hV]; exact putV_below B4.out (Nat.le_refl _) _)
    have zz0 := blk_cell X4.out 0 (v := .int .i64 0) rfl
    have zz1 := blk_cell X4.out 1 (v := .int .i64 0) rfl
    have zz2 := blk_cell X4.out 2 (v := .string { data := #[] }) rfl
    have xx0 := blk_fr X4.out 0
    have xx1 := blk_fr X4.out 1
    have xx2 := blk_fr X4.out 2
    unfold putV at hV
    dsimp only at hV
    go_wp2_with fail
    rw [← hV]
    have t0 := blk_cell RV.out 0 (v := .int .i64 k) rfl
    have t1 := blk_cell RV.out 1 (v := .int .i64 n) rfl
    have t2 := blk_cell RV.out 2 (v := .string u) rfl
    refine bodyPost_ret (v := .tuple #[.agg #[.int .i64 k, .int .i64 n, .string u], .int .i64 0]) (by simp [results, Tryd.results34, go_sem, t0, t1, t2]) rfl ⟨?_, BV.out⟩
    rw [R.out]
    first | done | rfl
  · have R := Lib.hid (D.out.trans (if_pos hP))
    rw [decide_eq_false hP] at q1
    have q2 : (P.toList != s.toList) = true := by rw [bne, q1]; rfl
    have q3 : ¬ P.toList = s.toList := by intro e; rw [e] at q1; simp at q1
    clear D hP
    go_wp2_with fail
    refine KP.out.mono ?_
    rintro _ w4 ⟨rfl, hb4⟩
    obtain ⟨X4, V4, B4⟩ := HX.out w4 hb4
    replace X4 := Lib.hid X4
    replace B4 := Lib.hid B4
    clear hb4 HX KP v0c v1c v2c V4
    obtain ⟨V, hV⟩ : ∃ V, V = putV w4 w.heap.size (0, 0, { data := #[] }) := ⟨_, rfl⟩
    have RV := Lib.hid (show V.heap[w.heap.size]? = some (bxV (0, 0, { data := #[] })) by rw [hV]; exact putV_blk X4.out _)
    have BV := Lib.hid (show Below w.heap.size w V by rw [hV]; exact putV_below B4.out (Nat.le_refl _) _)
    have zz0 := blk_cell X4.out 0 (v := .int .i64 0) rfl
    have zz1 := blk_cell X4.out 1 (v := .int .i64 0) rfl
    have zz2 := blk_cell X4.out 2 (v := .string { data := #[] }) rfl
    have xx0 := blk_fr X4.out 0
    have xx1 := blk_fr X4.out 1
    have xx2 := blk_fr X4.out 2
    unfold putV at hV
    dsimp only at hV
    go_wp2_with fail
    rw [← hV]
    have t0 := blk_cell RV.out 0 (v := .int .i64 0) rfl
    have t1 := blk_cell RV.out 1 (v := .int .i64 0) rfl
    have t2 := blk_cell RV.out 2 (v := .string { data := #[] }) rfl
    refine bodyPost_ret (v := .tuple #[.agg #[.int .i64 0, .int .i64 0, .string { data := #[] }], .int .i64 4]) (by simp [results, Tryd.results34, go_sem, t0, t1, t2]) rfl ⟨?_, BV.out⟩
    rw [R.out]
    first | done | rfl
end Go.Proofs.YtagkmfhicpcjnaaDoor.Vlu
/- The tables lie as they were laid: out of what the rows list. -/
set_option linter.unusedVariables false
set_option maxRecDepth 100000
namespace Go.Proofs.YtagkmfhicpcjnaaDoor.Vlu
open Go.RowKit

/-- An array of strings that reads as a list of texts holds them, cell for cell. -/
theorem cells_of_strs {H : Type} {enc : TypeId × Value → H} {P : Program} {w : World} {base : Nat} {sp : Nat → Bool} {held : Bool} {fuel : Nat} {t e : TypeId} {n : Nat} {cs : List Value} {zs : List (List UInt8)} {p : List MemPlace}
    (ht : P.underlying t = some (.array n e)) (he : P.underlying e = some .string) (hce : P.cellsOf e = 1) (hct : P.cellsOf t = n)
    (h : DataW.trod enc P w base sp held fuel t cs = some (.agg (zs.map fun z => .lit (.string z)), p)) (i : Nat) (hi : i < n) : ∃ s : ByteArray, cs[i]? = some (.string s) ∧ zs[i]? = some s.data.toList := by
  cases fuel with
  | zero => simp [DataW.trod] at h
  | succ fuel =>
    simp only [DataW.trod, ht, hce, hct, Nat.mul_one] at h
    split at h
    · rename_i hl
      obtain ⟨xs, hm, hx⟩ := Option.map_eq_some_iff.1 h
      have hxs : xs.map (·.1) = zs.map fun z => (DataW.lit (.string z) : DataW H) := by
        have := congrArg Prod.fst hx
        simpa using this
      obtain ⟨b, hb, hf⟩ := Lib.mapM_at hm i i (by simp [hi])
      obtain ⟨s, hc, rfl, _⟩ := DataW.trod_string he hf
      have h1 : cs[i]? = some (.string s) := by
        have := congrArg (·[0]?) hc
        simpa [List.getElem?_take, List.getElem?_drop] using this
      have h2 : (xs.map (·.1))[i]? = some (DataW.lit (.string s.data.toList) : DataW H) := by simp [hb]
      rw [hxs] at h2
      simp only [List.getElem?_map, Option.map_eq_some_iff, DataW.lit.injEq, Lit.string.injEq] at h2
      obtain ⟨z', hz', rfl⟩ := h2
      exact ⟨s, h1, hz'⟩
    · cases h
theorem g_name : Tryd.prog.globalNamed "homehub/value.words" = some 0 := by kernel_rfl
theorem g_type : (Tryd.prog.globals[0]?).map (·.type) = some 75 := by kernel_rfl
theorem words_of {W : World} (h : Lib.VarReads Tryd.prog W "homehub/value.words" (.agg ([[110, 111, 110, 101], [102, 97, 108, 115, 101], [116, 114, 117, 101], [35], [34]].map fun z => .lit (.string z)))) : WTab W := fun i hi => by
  obtain ⟨g, t, cs, fuel, p, hg, ht, hv, hd⟩ := h
  obtain rfl := Option.some.inj (g_name.symm.trans hg)
  obtain rfl := Option.some.inj (g_type.symm.trans ht)
  obtain ⟨s, hs, hz⟩ := cells_of_strs Tryd.underlying75 Tryd.underlying9 (by kernel_rfl) (by kernel_rfl) hd i hi
  rw [World.var?_cell hg hv i, ← Array.getElem?_toList, hs]
  have hw : wd i = s := by
    apply ba_ext
    match i, hi with
    | 0, _ => exact Option.some.inj hz
    | 1, _ => exact Option.some.inj hz
    | 2, _ => exact Option.some.inj hz
    | 3, _ => exact Option.some.inj hz
    | 4, _ => exact Option.some.inj hz
  rw [hw]
theorem xU8 : U8Extra Tryd.prog Tryd.lays260_ren := ⟨by kernel_rfl, by kernel_rfl, by kernel_rfl, by kernel_rfl, by kernel_rfl, by kernel_rfl, by kernel_rfl⟩
theorem accept_eq : (Rows.laid_unicode_utf8_acceptRanges : DataW Unit) = Lib.acceptData := by kernel_rfl
theorem first_eq : Rows.laid_unicode_utf8_first = Lib.firstData := Pinned.utf8First_eq
theorem tabs_of {W : World} (h : laidMet Tryd.prog Rows.valueChecksRow.laid W) : Tabs W :=
  ⟨utf8Tabs_of_reads Tryd.lays260 xU8 (first_eq ▸ Lib.laidMet.reads h (List.mem_cons_of_mem _ (List.mem_cons_of_mem _ List.mem_cons_self))) (accept_eq ▸ Lib.laidMet.reads h List.mem_cons_self),
    words_of (Lib.laidMet.reads h (List.mem_cons_of_mem _ List.mem_cons_self))⟩
end Go.Proofs.YtagkmfhicpcjnaaDoor.Vlu
