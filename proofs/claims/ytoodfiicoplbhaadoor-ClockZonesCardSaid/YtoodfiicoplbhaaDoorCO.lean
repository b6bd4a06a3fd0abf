/- The walks of ClockUtc and ClockLeast. -/
import Derived.Test.YtoodfiicoplbhaaDoorCM
set_option linter.unusedVariables false
namespace Go.Proofs.YtoodfiicoplbhaaDoor
open Go.RowKit

set_option maxRecDepth 100000 in
set_option maxHeartbeats 2000000 in
theorem law_long (o : Int) (A : Option Addr) (c : Nat) (l : List Chg) (L : Int) (w : World) (hn : 70 < l.length) (hl : l.length ≤ 9223372036854775807) (hT : Tab w) :
    Calls Tryd.prog 6 #[zV o A l.length c, .int .i64 L] w (OutB w true) ∧ Calls Tryd.prog 5 #[zV o A l.length c, .int .i64 L] w (OutB w true) ∧
    ∀ k, Calls Tryd.prog 10 #[zV o A l.length c, .int .i64 L, .int .i64 k] w (OutB w true) := by
  have T := Lib.hid (hT.alloc (.cells #[.int .i64 o, .slice A l.length c] 34))
  have BB := Lib.hid ((Below.refl w.heap.size w).alloc (Nat.le_refl _) (.cells #[.int .i64 o, .slice A l.length c] 34))
  have d1 := dt (show (70 : Int) < (l.length : Int) by omega)
  unfold zV
  clear hT
  refine ⟨?_, ?_, fun k => ?_⟩
  · go_enter Tryd.func6, Tryd.ntmps6
    go_wp2_with fail
    refine (awake_any _ T.out).mono ?_
    rintro e w1 ⟨rfl, hb⟩
    go_wp2_with fail
    go_ret
    exact outB rfl (BB.out.trans (hb.mono BB.out.size))
  · go_enter Tryd.func5, Tryd.ntmps5
    go_wp2_with fail
    refine (awake_any _ T.out).mono ?_
    rintro e w1 ⟨rfl, hb⟩
    go_wp2_with fail
    go_ret
    exact outB rfl (BB.out.trans (hb.mono BB.out.size))
  · go_enter Tryd.func10, Tryd.ntmps10
    go_wp2_with fail
    refine (awake_any _ T.out).mono ?_
    rintro e w1 ⟨rfl, hb⟩
    go_wp2_with fail
    go_ret
    exact outB rfl (BB.out.trans (hb.mono BB.out.size))

/-- What a boxed zone's world gives, however it has grown. -/
theorem zone_facts {w : World} {o : Int} {A : Option Addr} {c : Nat} {l : List Chg} (hA : ChgAt w w.heap.size A l) (hT : Tab w) : ∀ wr, BxZ w o A l.length c wr →
    ChgAt wr wr.heap.size A l ∧ Tab wr ∧ Below w.heap.size w wr ∧ wr.cell? ⟨w.heap.size, 0, none⟩ = some (.int .i64 o) ∧ wr.cell? ⟨w.heap.size, 1, none⟩ = some (.slice A l.length c) :=
  fun wr h => ⟨(hA.below h.below).mono (Nat.le_of_lt h.lt), hT.below h.below, h.below, h.c0, h.c1⟩

set_option maxRecDepth 100000 in
set_option maxHeartbeats 2000000 in
theorem law_utc (o : Int) (A : Option Addr) (c : Nat) (l : List Chg) (L : Int) (w : World) (hL : I64 L) (hl : l.length ≤ 9223372036854775807) (hA : ChgAt w w.heap.size A l) (hT : Tab w) :
    Calls Tryd.prog 6 #[zV o A l.length c, .int .i64 L] w (OutB w true) := by
  by_cases hn : 70 < l.length
  · exact (law_long o A c l L w hn hl hT).1
  have HC := Lib.hid (zone_facts (o := o) (c := c) hA hT)
  have U := Lib.hid (fun w h => utc_any o A c l L w hL (by omega) h)
  have RU := Lib.hid (fun w h => rutc_any o A c l L w hL (by omega) h)
  have X0 := BxZ.start w o A l.length c
  have d1 := df (show ¬ (70 : Int) < (l.length : Int) by omega)
  unfold zV at *
  clear hA hT
  generalize utc o l L = u at *
  go_enter Tryd.func6, Tryd.ntmps6
  go_wp2_with fail
  refine (U.out _ (HC.out _ X0).1).mono ?_
  rintro e w1 ⟨rfl, hb⟩
  have X1 := X0.next hb
  have c0 := (HC.out _ X1).2.2.2.1
  have c1 := (HC.out _ X1).2.2.2.2
  clear X0 hb
  go_wp2_with fail
  refine (RU.out _ (HC.out _ X1).1).mono ?_
  rintro e w2 ⟨rfl, hb⟩
  have X2 := X1.next hb
  clear X1 hb
  go_wp2_with fail
  refine (awake_any _ (HC.out _ X2).2.1).mono ?_
  rintro e w3 ⟨rfl, hb⟩
  go_wp2_with fail
  go_ret
  exact outB rfl (X2.next hb).below

set_option maxRecDepth 100000 in
set_option maxHeartbeats 2000000 in
theorem law_least (o : Int) (A : Option Addr) (c : Nat) (l : List Chg) (L k : Int) (w : World) (hL : I64 L) (hl : l.length ≤ 9223372036854775807) (hA : ChgAt w w.heap.size A l) (hT : Tab w) :
    Calls Tryd.prog 10 #[zV o A l.length c, .int .i64 L, .int .i64 k] w (OutB w true) := by
  by_cases hn : 70 < l.length
  · exact (law_long o A c l L w hn hl hT).2.2 k
  have HC := Lib.hid (zone_facts (o := o) (c := c) hA hT)
  have U := Lib.hid (fun w h => utc_any o A c l L w hL (by omega) h)
  have LO := Lib.hid (fun m w h => local_any o A c l m w (by omega) h)
  have X0 := BxZ.start w o A l.length c
  have d1 := df (show ¬ (70 : Int) < (l.length : Int) by omega)
  unfold zV at *
  clear hA hT
  cases hu : utc o l L with
  | some m =>
    obtain ⟨g1, g2, g3, g4⟩ := utc_some hu
    rw [hu] at U
    have d2 := df (show ¬ m < 0 by omega)
    have d3 := df (show ¬ 1073741824 < m by omega)
    have d4 : (loc o l m == L) = true := by simpa using g3
    have d5 : (loc o l m != L) = false := by simpa using g3
    clear hu g3
    by_cases k0 : k < 0
    · have e1 := dt k0
      clear k0
      go_enter Tryd.func10, Tryd.ntmps10
      go_wp2_with fail
      refine (U.out _ (HC.out _ X0).1).mono ?_
      rintro e w1 ⟨he, hb⟩
      obtain rfl : e = .returned (.tuple #[.int .i64 m, .bool true]) := he
      have X1 := X0.next hb
      have c0 := (HC.out _ X1).2.2.2.1
      have c1 := (HC.out _ X1).2.2.2.2
      clear X0 hb
      go_wp2_with fail
      refine (LO.out m _ (HC.out _ X1).1).mono ?_
      rintro e w2 ⟨rfl, hb⟩
      clear c0 c1
      have X2 := X1.next hb
      have c0 := (HC.out _ X2).2.2.2.1
      have c1 := (HC.out _ X2).2.2.2.2
      clear X1 hb
      go_wp2_with fail
      refine (awake_any _ (HC.out _ X2).2.1).mono ?_
      rintro e wz ⟨rfl, hb⟩
      go_wp2_with fail
      go_ret
      exact outB rfl (X2.next hb).below
    by_cases k1 : 1073741824 < k
    · have e1 := df k0
      have e2 := dt k1
      clear k0 k1
      go_enter Tryd.func10, Tryd.ntmps10
      go_wp2_with fail
      refine (U.out _ (HC.out _ X0).1).mono ?_
      rintro e w1 ⟨he, hb⟩
      obtain rfl : e = .returned (.tuple #[.int .i64 m, .bool true]) := he
      have X1 := X0.next hb
      have c0 := (HC.out _ X1).2.2.2.1
      have c1 := (HC.out _ X1).2.2.2.2
      clear X0 hb
      go_wp2_with fail
      refine (LO.out m _ (HC.out _ X1).1).mono ?_
      rintro e w2 ⟨rfl, hb⟩
      clear c0 c1
      have X2 := X1.next hb
      have c0 := (HC.out _ X2).2.2.2.1
      have c1 := (HC.out _ X2).2.2.2.2
      clear X1 hb
      go_wp2_with fail
      refine (awake_any _ (HC.out _ X2).2.1).mono ?_
      rintro e wz ⟨rfl, hb⟩
      go_wp2_with fail
      go_ret
      exact outB rfl (X2.next hb).below
    have e1 := df k0
    have e2 := df k1
    by_cases hk : loc o l k = L
    · have t1 : (loc o l k == L) = true := by simpa using hk
      have t2 : (loc o l k != L) = false := by simpa using hk
      have e3 := dt (show m ≤ k by
        rcases ilt_or k m with h | h
        · exact absurd hk (g4 k (by omega) h)
        · exact h)
      have LK := Lib.hid hk
      clear k0 k1 hk g4
      go_enter Tryd.func10, Tryd.ntmps10
      go_wp2_with fail
      refine (U.out _ (HC.out _ X0).1).mono ?_
      rintro e w1 ⟨he, hb⟩
      obtain rfl : e = .returned (.tuple #[.int .i64 m, .bool true]) := he
      have X1 := X0.next hb
      have c0 := (HC.out _ X1).2.2.2.1
      have c1 := (HC.out _ X1).2.2.2.2
      clear X0 hb
      go_wp2_with fail
      refine (LO.out m _ (HC.out _ X1).1).mono ?_
      rintro e w2 ⟨rfl, hb⟩
      clear c0 c1
      have X2 := X1.next hb
      have c0 := (HC.out _ X2).2.2.2.1
      have c1 := (HC.out _ X2).2.2.2.2
      clear X1 hb
      go_wp2_with fail
      refine (LO.out k _ (HC.out _ X2).1).mono ?_
      rintro e w3 ⟨rfl, hb⟩
      clear c0 c1
      have X3 := X2.next hb
      have c0 := (HC.out _ X3).2.2.2.1
      have c1 := (HC.out _ X3).2.2.2.2
      clear X2 hb
      go_wp2_with fail
      refine (awake_any _ (HC.out _ X3).2.1).mono ?_
      rintro e wz ⟨rfl, hb⟩
      go_wp2_with fail
      go_ret
      exact outB rfl (X3.next hb).below
    have t1 : (loc o l k == L) = false := by simpa using hk
    have t2 : (loc o l k != L) = true := by simpa using hk
    clear k0 k1 hk g4
    go_enter Tryd.func10, Tryd.ntmps10
    go_wp2_with fail
    refine (U.out _ (HC.out _ X0).1).mono ?_
    rintro e w1 ⟨he, hb⟩
    obtain rfl : e = .returned (.tuple #[.int .i64 m, .bool true]) := he
    have X1 := X0.next hb
    have c0 := (HC.out _ X1).2.2.2.1
    have c1 := (HC.out _ X1).2.2.2.2
    clear X0 hb
    go_wp2_with fail
    refine (LO.out m _ (HC.out _ X1).1).mono ?_
    rintro e w2 ⟨rfl, hb⟩
    clear c0 c1
    have X2 := X1.next hb
    have c0 := (HC.out _ X2).2.2.2.1
    have c1 := (HC.out _ X2).2.2.2.2
    clear X1 hb
    go_wp2_with fail
    refine (LO.out k _ (HC.out _ X2).1).mono ?_
    rintro e w3 ⟨rfl, hb⟩
    clear c0 c1
    have X3 := X2.next hb
    have c0 := (HC.out _ X3).2.2.2.1
    have c1 := (HC.out _ X3).2.2.2.2
    clear X2 hb
    go_wp2_with fail
    refine (awake_any _ (HC.out _ X3).2.1).mono ?_
    rintro e wz ⟨rfl, hb⟩
    go_wp2_with fail
    go_ret
    exact outB rfl (X3.next hb).below
  | none =>
    rw [hu] at U
    by_cases k0 : k < 0
    · have e1 := dt k0
      clear k0 hu
      go_enter Tryd.func10, Tryd.ntmps10
      go_wp2_with fail
      refine (U.out _ (HC.out _ X0).1).mono ?_
      rintro e w1 ⟨he, hb⟩
      obtain rfl : e = .returned (.tuple #[.int .i64 0, .bool false]) := he
      have X1 := X0.next hb
      have c0 := (HC.out _ X1).2.2.2.1
      have c1 := (HC.out _ X1).2.2.2.2
      clear X0 hb
      go_wp2_with fail
      refine (awake_any _ (HC.out _ X1).2.1).mono ?_
      rintro e wz ⟨rfl, hb⟩
      go_wp2_with fail
      go_ret
      exact outB rfl (X1.next hb).below
    by_cases k1 : 1073741824 < k
    · have e1 := df k0
      have e2 := dt k1
      clear k0 k1 hu
      go_enter Tryd.func10, Tryd.ntmps10
      go_wp2_with fail
      refine (U.out _ (HC.out _ X0).1).mono ?_
      rintro e w1 ⟨he, hb⟩
      obtain rfl : e = .returned (.tuple #[.int .i64 0, .bool false]) := he
      have X1 := X0.next hb
      have c0 := (HC.out _ X1).2.2.2.1
      have c1 := (HC.out _ X1).2.2.2.2
      clear X0 hb
      go_wp2_with fail
      refine (awake_any _ (HC.out _ X1).2.1).mono ?_
      rintro e wz ⟨rfl, hb⟩
      go_wp2_with fail
      go_ret
      exact outB rfl (X1.next hb).below
    have e1 := df k0
    have e2 := df k1
    by_cases hk : loc o l k = L
    · exact absurd hk (utc_none hu k (by omega) (by omega))
    have t1 : (loc o l k == L) = false := by simpa using hk
    have t2 : (loc o l k != L) = true := by simpa using hk
    clear k0 k1 hk hu
    go_enter Tryd.func10, Tryd.ntmps10
    go_wp2_with fail
    refine (U.out _ (HC.out _ X0).1).mono ?_
    rintro e w1 ⟨he, hb⟩
    obtain rfl : e = .returned (.tuple #[.int .i64 0, .bool false]) := he
    have X1 := X0.next hb
    have c0 := (HC.out _ X1).2.2.2.1
    have c1 := (HC.out _ X1).2.2.2.2
    clear X0 hb
    go_wp2_with fail
    refine (LO.out k _ (HC.out _ X1).1).mono ?_
    rintro e w3 ⟨rfl, hb⟩
    clear c0 c1
    have X3 := X1.next hb
    have c0 := (HC.out _ X3).2.2.2.1
    have c1 := (HC.out _ X3).2.2.2.2
    clear X1 hb
    go_wp2_with fail
    refine (awake_any _ (HC.out _ X3).2.1).mono ?_
    rintro e wz ⟨rfl, hb⟩
    go_wp2_with fail
    go_ret
    exact outB rfl (X3.next hb).below
end Go.Proofs.YtoodfiicoplbhaaDoor
