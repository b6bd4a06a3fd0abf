/- The stable sort of entries by their cost, whole. -/
import Derived.Test.YthfkmmgckiijcaaLI
set_option linter.unusedVariables false
namespace Go.Proofs.Ythfkmmgckiijcaa.Lnk
open Go.RowKit Go.Sort
variable {lt : VL → VL → Bool}

theorem sym_all (hO : SWO lt) (blk cap : Nat) (d0 : Array VL) (w0 : World) (R : RowK encV 3 w0 blk 0 d0) (hsz : d0.size ≤ 1000000) : ∀ (N a m b : Nat) (d : Array VL) (w : World), b - a < N → a < m → m < b → b ≤ d.size → d.size = d0.size → SortedIn lt a m d → SortedIn lt m b d → Agr lt (ltOf cmpV) a m b d → SWV w0 blk d w →
    Calls Try.prog 56 #[.slice (some ⟨blk, 0, none⟩) d.size cap, .int .i64 a, .int .i64 m, .int .i64 b, .func (.func 42) #[] #[]] w (OutS lt w0 blk a b d) := by
  intro N
  induction N with
  | zero => intro a m b d w h; exact absurd h (Nat.not_lt_zero _)
  | succ N ih =>
    intro a m b d w hN h1 h2 hb hs hl hr hg S
    by_cases c1 : m = a + 1
    · exact symA_any hO blk cap a m b d0 d w0 w R hs S c1 h2 hb (by omega) hr hg
    · by_cases c2 : b = m + 1
      · exact symB_any hO blk cap a m b d0 d w0 w R hs S (by omega) c2 hb (by omega) hl hg
      · exact symC_any hO blk cap a m b d0 d w0 w R hs S (by omega) (by omega) hb (by omega) hl hr hg fun a' m' b' d' w' p1 p2 p3 p4 p5 p6 p7 p8 p9 => ih a' m' b' d' w' (by omega) p2 p3 p4 p5 p6 p7 p8 p9

/-- Of lesser cost, or of equal cost and a lesser number. -/
def ltB (x y : VL) : Bool := decide (cst x.1 < cst y.1 ∨ (cst x.1 = cst y.1 ∧ x.1.1 < y.1.1))
theorem ltB_iff (x y : VL) : ltB x y = true ↔ cst x.1 < cst y.1 ∨ (cst x.1 = cst y.1 ∧ x.1.1 < y.1.1) := by unfold ltB; simp
theorem ltB_not (x y : VL) : ltB x y = false ↔ ¬ (cst x.1 < cst y.1 ∨ (cst x.1 = cst y.1 ∧ x.1.1 < y.1.1)) := by unfold ltB; simp
theorem swoB : SWO ltB where
  irrefl x := (ltB_not x x).2 (by omega)
  trans x y z h1 h2 := (ltB_iff x z).2 (by have := (ltB_iff x y).1 h1; have := (ltB_iff y z).1 h2; omega)
  ntrans x y z h1 h2 := (ltB_not x z).2 (by have := (ltB_not x y).1 h1; have := (ltB_not y z).1 h2; omega)
theorem ltV (x y : VL) : ltOf cmpV x y = decide (cst x.1 < cst y.1) := by
  unfold ltOf cmpV cmpB
  rw [cmp_eq]
  by_cases h1 : cst x.1 < cst y.1
  · simp [h1]
  · by_cases h2 : cst y.1 < cst x.1 <;> simp [h1, h2]
theorem swoV : SWO (ltOf cmpV) where
  irrefl x := by rw [ltV]; simp
  trans x y z h1 h2 := by rw [ltV] at *; simp at *; omega
  ntrans x y z h1 h2 := by rw [ltV] at *; simp at *; omega
theorem stbB : Stb ltB (ltOf cmpV) (fun x => x.1.1) where
  agr x y h := by
    rw [ltV]
    have h : y.1.1 < x.1.1 := h
    unfold ltB
    by_cases h1 : cst x.1 < cst y.1
    · simp [h1]
    · have : ¬ (cst x.1 < cst y.1 ∨ (cst x.1 = cst y.1 ∧ x.1.1 < y.1.1)) := by omega
      rw [decide_eq_false h1, decide_eq_false this]
/-- The numbers ascend. -/
def Asc (a b : Nat) (d : Array VL) : Prop := ∀ p q, a ≤ p → p < q → q < b → d[p]!.1.1 < d[q]!.1.1
theorem ins_same (d : Array VL) (a b : Nat) (hb : b ≤ d.size) (h : Asc a b d) : Sort.insertionSort (ltOf cmpV) d a b = Sort.insertionSort ltB d a b := by
  unfold Sort.insertionSort
  exact insOuter_agr swoB stbB a b (b - (a + 1)) (a + 1) d rfl (by omega) hb fun p q h1 h2 h3 h4 => h p q h1 h2 h4
theorem insB_any (blk cap a b : Nat) (d0 d : Array VL) (w0 w : World) (R : RowK encV 3 w0 blk 0 d0) (hs : d.size = d0.size) (S : SWV w0 blk d w) (hab : a ≤ b) (hb : b ≤ d.size) (hsz : d.size ≤ 1000000) (h : Asc a b d) :
    Calls Try.prog 55 #[.slice (some ⟨blk, 0, none⟩) d.size cap, .int .i64 a, .int .i64 b, .func (.func 42) #[] #[]] w (OutS ltB w0 blk a b d) := by
  refine (insV_any () blk cap a b d0 d w0 w R hs S swoV hab hb hsz).mono ?_
  rintro e w' ⟨rfl, hS⟩
  rw [ins_same d a b hb h] at hS
  obtain ⟨h1, h2⟩ := insertionSort_holds swoB d a b hab hb
  exact ⟨rfl, _, h1, h2, hS⟩
/-- In a part all of whose numbers lie behind those of the one before, the comparisons agree. -/
theorem agr_asc {d0 d : Array VL} {m b : Nat} (hb : b ≤ d0.size) (h0 : Asc 0 b d0) (h1 : ∀ i, i < m → ∃ i', i' < m ∧ d[i]! = d0[i']!) (h2 : ∀ j, m ≤ j → j < b → ∃ j', m ≤ j' ∧ j' < b ∧ d[j]! = d0[j']!) : Agr ltB (ltOf cmpV) 0 m b d := by
  intro i j _ hi hj hjb
  obtain ⟨i', p1, e1⟩ := h1 i hi
  obtain ⟨j', p2, p3, e2⟩ := h2 j hj hjb
  rw [e1, e2]
  exact stbB.agr _ _ (h0 i' j' (Nat.zero_le _) (by omega) p3)
/-- Behind a permutation of a part every one of it is an old one of it. -/
theorem perm_from {d d' : Array VL} {a b : Nat} (hb : b ≤ d.size) (h : PermIn a b d d') (i : Nat) (h1 : a ≤ i) (h2 : i < b) : ∃ i', a ≤ i' ∧ i' < b ∧ d'[i]! = d[i']! :=
  permIn_all d d' a b (fun x => ∃ i', a ≤ i' ∧ i' < b ∧ x = d[i']!) hb h (fun i p1 p2 => ⟨i, p1, p2, rfl⟩) i h1 h2

/-- What stands before the last merge, if any. -/
def Mid (d dk : Array VL) (bs : Nat) : Prop := PermIn 0 d.size d dk ∧ (bs < d.size → bs = 20 ∧ SortedIn ltB 0 20 dk ∧ SortedIn ltB 20 d.size dk ∧ Agr ltB (ltOf cmpV) 0 20 d.size dk) ∧ (d.size ≤ bs → SortedIn ltB 0 d.size dk)
theorem mid_short {d dk : Array VL} (h : d.size ≤ 20) (h1 : PermIn 0 d.size d dk) (h2 : SortedIn ltB 0 d.size dk) : Mid d dk 20 := ⟨h1, fun h' => by omega, fun _ => h2⟩
theorem mid_long {d d1 d2 : Array VL} (hA : Asc 0 d.size d) (h : 20 ≤ d.size) (p1 : PermIn 0 20 d d1) (s1 : SortedIn ltB 0 20 d1) (p2 : PermIn 20 d.size d1 d2) (s2 : SortedIn ltB 20 d.size d2) : Mid d d2 20 := by
  have hz : d1.size = d.size := p1.1
  have e1 : ∀ p, p < 20 → d2[p]! = d1[p]! := fun p hp => p2.2.1 p (Or.inl hp)
  have e2 : ∀ p, 20 ≤ p → d1[p]! = d[p]! := fun p hp => p1.2.1 p (Or.inr hp)
  have s1' : SortedIn ltB 0 20 d2 := sorted_of s1 fun p _ hp => e1 p hp
  refine ⟨permIn_trans _ _ _ _ _ (permIn_mono _ _ 0 20 0 d.size (Nat.le_refl _) h (Nat.le_refl _) p1) (permIn_mono _ _ 20 d.size 0 d.size (Nat.zero_le _) (Nat.le_refl _) (by omega) p2), fun _ => ⟨rfl, s1', s2, ?_⟩, fun h' => ?_⟩
  · refine agr_asc (d0 := d) (Nat.le_refl _) hA (fun i hi => ?_) (fun j hj hjb => ?_)
    · obtain ⟨i', q1, q2, q3⟩ := perm_from h p1 i (Nat.zero_le _) hi
      exact ⟨i', q2, by rw [e1 i hi]; exact q3⟩
    · obtain ⟨j', q1, q2, q3⟩ := perm_from (by omega) p2 j hj hjb
      exact ⟨j', q1, q2, by rw [q3]; exact e2 j' q1⟩
  · rw [show d.size = 20 by omega]; exact s1'
theorem mid_last {d dk d3 : Array VL} (hn : d.size ≤ 24) (h : Mid d dk 20) (hp : PermIn 0 d.size dk d3) (hs : SortedIn ltB 0 d.size d3) : Mid d d3 40 := ⟨permIn_trans _ _ _ _ _ h.1 hp, fun h' => by omega, fun _ => hs⟩
theorem asc_tail {d d1 : Array VL} (hA : Asc 0 d.size d) (p1 : PermIn 0 20 d d1) : Asc 20 d.size d1 := fun p q h1 h2 h3 => by
  rw [p1.2.1 p (Or.inr h1), p1.2.1 q (Or.inr (by omega))]; exact hA p q (Nat.zero_le _) h2 h3

set_option maxRecDepth 100000 in
set_option maxHeartbeats 2000000 in
/-- Of at most 24 elements. -/
theorem stable_any (blk cap : Nat) (d : Array VL) (w : World) (R : RowK encV 3 w blk 0 d) (hsz : d.size ≤ 24) (h : Asc 0 d.size d) :
    Calls Try.prog 50 #[.slice (some ⟨blk, 0, none⟩) d.size cap, .int .i64 d.size, .func (.func 42) #[] #[]] w (OutS ltB w blk 0 d.size d) := by
  have S0 := Lib.hid (show SWV w blk d w from SWK.start R.hH)
  have HA := Lib.hid h
  clear h
  go_enter Try.func50, Try.ntmps50
  go_wp2_with fail
  go_loopw [7, 8] (fun va vb wr => ∃ (k : Nat) (dk : Array VL), va = .int .i64 ((20 * k : Nat) : Int) ∧ vb = .int .i64 ((20 * k + 20 : Nat) : Int) ∧ ((k = 0 ∧ Hid (dk = d)) ∨ (k = 1 ∧ 20 ≤ d.size ∧ Hid (PermIn 0 20 d dk ∧ SortedIn ltB 0 20 dk))) ∧ SWV w blk dk wr) (fun va vb _ => (60 - intOf vb).toNat)
  case atStart => exact ⟨0, d, rfl, rfl, Or.inl ⟨rfl, Lib.hid rfl⟩, S0.out⟩
  case round =>
    clear S0
    obtain ⟨k, dk, rfl, rfl, hk, hS⟩ := hrel
    rcases hk with ⟨hk, hd⟩ | ⟨hk, h20, hd⟩
    · obtain rfl := hk
      obtain rfl : d = dk := hd.out.symm
      have SS := Lib.hid hS
      clear hd hS
      by_cases h20 : 20 ≤ d.size
      · have K1 := Lib.hid (insB_any blk cap 0 20 d d w wr R rfl SS.out (by omega) h20 (by omega) (fun p q h1 h2 h3 => HA.out p q h1 h2 (by omega)))
        go_wp2_with fail
        refine K1.out.mono ?_
        rintro _ w2 ⟨rfl, d1, hp, hs, hS⟩
        have Z := Lib.hid (And.intro hp hs)
        have SS := Lib.hid hS
        clear hp hs hS
        go_wp2_with fail
        go_roundw
        case rel => exact ⟨1, d1, by go_num, by go_num, Or.inr ⟨rfl, h20, Z⟩, SS.out⟩
        case measure => simp [intOf]
      · have K1 := Lib.hid (insB_any blk cap 0 d.size d d w wr R rfl SS.out (by omega) (Nat.le_refl _) (by omega) HA.out)
        go_wp2_with fail
        refine K1.out.mono ?_
        rintro _ w2 ⟨rfl, d2, hp, hs, hS⟩
        have MD := Lib.hid (mid_short (by omega) hp hs)
        have SS := Lib.hid hS
        clear hp hs hS
        go_wp2_with fail
        go_loopw [6, 7, 8, 9] (fun v6 v7 v8 v9 wr => ∃ (bs : Nat) (dk : Array VL), v6 = .int .i64 bs ∧ (bs = 20 ∨ bs = 40) ∧ Hid (Mid d dk bs) ∧ SWV w blk dk wr) (fun v6 _ _ _ _ => (40 - intOf v6).toNat)
        case atStart => exact ⟨20, d2, rfl, Or.inl rfl, MD, SS.out⟩
        case round =>
          clear MD SS
          obtain ⟨bs, dk, rfl, hbs, MD, hS⟩ := hrel
          by_cases hlt : bs < d.size
          · exfalso; omega
          · have SS := Lib.hid hS
            have Z := Lib.hid (And.intro MD.out.1 (MD.out.2.2 (by omega)))
            clear hS hbs
            go_wp2_with fail
            go_end0
            exact ⟨rfl, dk, Z.out.1, Z.out.2, SS.out⟩
    · obtain rfl := hk
      have SS := Lib.hid hS
      have ZD := Lib.hid hd.out.1.1
      have K1 : Hid (Calls Try.prog 55 #[.slice (some ⟨blk, 0, none⟩) d.size cap, .int .i64 20, .int .i64 d.size, .func (.func 42) #[] #[]] wr (OutS ltB w blk 20 d.size dk)) := Lib.hid (by
        have := insB_any blk cap 20 d.size d dk w wr R ZD.out SS.out h20 (by rw [ZD.out]; exact Nat.le_refl _) (by rw [ZD.out]; omega) (asc_tail HA.out hd.out.1)
        rw [ZD.out] at this
        exact this)
      have d40 := df (show ¬ 40 ≤ d.size by omega)
      have HD := Lib.hid hd.out
      clear hd hS
      go_wp2_with fail
      refine K1.out.mono ?_
      rintro _ w2 ⟨rfl, d2, hp, hs, hS⟩
      have MD := Lib.hid (mid_long HA.out h20 HD.out.1 HD.out.2 hp hs)
      have SS := Lib.hid hS
      clear hp hs hS K1 ZD HD
      go_wp2_with fail
      go_loopw [6, 7, 8, 9] (fun v6 v7 v8 v9 wr => ∃ (bs : Nat) (dk : Array VL), v6 = .int .i64 bs ∧ (bs = 20 ∨ bs = 40) ∧ Hid (Mid d dk bs) ∧ SWV w blk dk wr) (fun v6 _ _ _ _ => (40 - intOf v6).toNat)
      case atStart => exact ⟨20, d2, rfl, Or.inl rfl, MD, SS.out⟩
      case round =>
        clear MD SS
        obtain ⟨bs, dk, rfl, hbs, MD, hS⟩ := hrel
        by_cases hlt : bs < d.size
        · obtain ⟨hb20, m1, m2, m3⟩ := MD.out.2.1 hlt
          subst hb20
          have SS := Lib.hid hS
          have ZS := Lib.hid MD.out.1.1
          have K3 := Lib.hid (fun wx (h : SWV w blk dk wx) => (show Calls Try.prog 56 #[.slice (some ⟨blk, 0, none⟩) d.size cap, .int .i64 0, .int .i64 20, .int .i64 d.size, .func (.func 42) #[] #[]] wx (OutS ltB w blk 0 d.size dk) from by
            have := sym_all swoB blk cap d w R (by omega) (d.size + 1) 0 20 d.size dk wx (by omega) (by omega) hlt (by rw [ZS.out]; exact Nat.le_refl _) ZS.out m1 m2 m3 h
            rw [ZS.out] at this
            exact this))
          have d40 := df (show ¬ 40 ≤ d.size by omega)
          clear m1 m2 m3 hS hbs
          go_wp2_with fail
          go_loopw [7, 8] (fun v7 v8 wx => v7 = .int .i64 0 ∧ v8 = .int .i64 40 ∧ SWV w blk dk wx) (fun _ _ _ => 0)
          case atStart => exact ⟨rfl, rfl, SS.out⟩
          case round =>
            clear SS
            obtain ⟨rfl, rfl, hS⟩ := hrel
            have K4 := Lib.hid (K3.out _ hS)
            clear hS K3
            go_wp2_with fail
            refine K4.out.mono ?_
            rintro _ w3 ⟨rfl, d3, hp, hs, hS⟩
            have MD := Lib.hid (mid_last hsz MD.out hp hs)
            have SS := Lib.hid hS
            clear hp hs hS
            go_wp2_with fail
            go_roundw
            case rel => exact ⟨40, d3, by go_num, Or.inr rfl, MD, SS.out⟩
            case measure => simp [intOf]
        · have SS := Lib.hid hS
          have Z := Lib.hid (And.intro MD.out.1 (MD.out.2.2 (by omega)))
          clear hS hbs
          go_wp2_with fail
          go_end0
          exact ⟨rfl, dk, Z.out.1, Z.out.2, SS.out⟩

/-- What the sort does to the row. -/
theorem stableF_any (blk cap : Nat) (d : Array VL) (w : World) (R : RowK encV 3 w blk 0 d) (hsz : d.size ≤ 24) (h : Asc 0 d.size d) :
    Calls Try.prog 41 #[.slice (some ⟨blk, 0, none⟩) d.size cap, .func (.func 42) #[] #[]] w (OutS ltB w blk 0 d.size d) := by
  have K := Lib.hid (stable_any blk cap d w R hsz h)
  go_enter Try.func41, Try.ntmps41
  go_wp2_with fail
  refine K.out.mono ?_
  rintro _ w2 ⟨rfl, hX⟩
  have HX := Lib.hid hX
  clear hX
  go_wp2_with fail
  go_end0
  exact ⟨rfl, HX.out⟩
end Go.Proofs.Ythfkmmgckiijcaa.Lnk
