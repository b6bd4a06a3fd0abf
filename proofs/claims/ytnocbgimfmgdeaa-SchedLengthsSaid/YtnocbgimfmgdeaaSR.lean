/- The walks of SchedCombines, SchedSets, SchedLengths. -/
import Derived.Test.YtnocbgimfmgdeaaSO
set_option linter.unusedVariables false
namespace Go.Proofs.Ytnocbgimfmgdeaa
open Go.RowKit

/-- Two lists as arguments, in a world that has only grown. -/
structure TwoL (w wr : World) (A1 A2 : Option Addr) (l1 l2 : List Spn) : Prop where
  a : SpAt wr wr.heap.size A1 l1
  b : SpAt wr wr.heap.size A2 l2
  below : Below w.heap.size w wr
theorem TwoL.next {w wr wt : World} {A1 A2 : Option Addr} {l1 l2 : List Spn} (h : TwoL w wr A1 A2 l1 l2) (hb : Below wr.heap.size wr wt) : TwoL w wt A1 A2 l1 l2 :=
  ⟨(h.a.below hb).mono hb.size, (h.b.below hb).mono hb.size, h.below.trans (hb.mono h.below.size)⟩
theorem shas_nf {A : Option Addr} {c : Nat} {F : List Spn} {S : Int → Bool} (m : Int) (w : World) (hn : NF F S) (hA : SpAt w w.heap.size A F) :
    Calls Try.prog 20 #[.slice A F.length c, .int .i64 m] w (OutB w (S (m % 10080))) := by
  have := shas_any A c F m w (by have := hn.len; omega) hA
  rwa [hn.2] at this
theorem slength_nf {A : Option Addr} {c : Nat} {F : List Spn} {S : Int → Bool} (w : World) (hn : NF F S) (hA : SpAt w w.heap.size A F) :
    Calls Try.prog 18 #[.slice A F.length c] w (OutI w (cntS S 10080)) := by
  have := slength_any w A c F (by have := hn.len; omega) hA
  rwa [cnt_congr (T := S) 10080 fun m _ _ => hn.2 m] at this

section
variable (w : World) (A1 A2 : Option Addr) (c1 c2 : Nat) (l1 l2 : List Spn)

set_option maxRecDepth 100000 in
set_option maxHeartbeats 8000000 in
theorem law_combines (hl1 : l1.length ≤ 9223372036854775807) (hl2 : l2.length ≤ 9223372036854775807) (hA1 : SpAt w w.heap.size A1 l1) (hA2 : SpAt w w.heap.size A2 l2) : Calls Try.prog 6 #[.slice A1 l1.length c1, .slice A2 l2.length c2] w (OutB w true) := by
  have T0 := Lib.hid (TwoL.mk (w := w) hA1 hA2 (Below.refl _ _))
  clear hA1 hA2
  by_cases h1 : 40 < l1.length
  · go_enter Try.func6, Try.ntmps6
    go_wp2_with fail
    refine (sawake_any _).mono ?_
    rintro e w1 ⟨rfl, hb⟩
    go_wp2_with fail
    go_ret
    exact outB rfl hb
  by_cases h2 : 40 < l2.length
  · go_enter Try.func6, Try.ntmps6
    go_wp2_with fail
    refine (sawake_any _).mono ?_
    rintro e w1 ⟨rfl, hb⟩
    go_wp2_with fail
    go_ret
    exact outB rfl hb
  go_enter Try.func6, Try.ntmps6
  go_wp2_with fail
  refine (sunion_any _ A1 A2 c1 c2 l1 l2 (by omega) (by omega) T0.out.a T0.out.b).mono ?_
  rintro e w1 ⟨B1, d1, F, rfl, hs, hn, hb⟩
  have T1 := Lib.hid (T0.out.next hb)
  have S1 := Lib.hid hs
  have N1 := Lib.hid hn
  clear hb hs hn
  go_wp2_with fail
  refine (runion_any _ A1 A2 c1 c2 l1 l2 (by omega) (by omega) T1.out.a T1.out.b).mono ?_
  rintro e w2 ⟨B2, d2, F2, rfl, hs, hn, hb⟩
  obtain rfl := hn.one N1.out
  have T2 := Lib.hid (T1.out.next hb)
  have S2 := Lib.hid ((S1.out.below hb).mono hb.size)
  have S3 := Lib.hid hs
  have LF := Lib.hid hn.len
  clear hb hs hn
  go_wp2_with fail
  refine (rsame_true B1 B2 d1 d2 _ _ (by have := LF.out; omega) S2.out S3.out).mono ?_
  rintro e w3 ⟨rfl, hb⟩
  have T3 := Lib.hid (T2.out.next hb)
  clear hb S1 S2 S3 N1 LF
  go_wp2_with fail
  refine (scross_any _ A1 A2 c1 c2 l1 l2 (by omega) (by omega) T3.out.a T3.out.b).mono ?_
  rintro e w4 ⟨B1, d1, F, rfl, hs, hn, hb⟩
  have T4 := Lib.hid (T3.out.next hb)
  have S1 := Lib.hid hs
  have N1 := Lib.hid hn
  clear hb hs hn
  go_wp2_with fail
  refine (rcross_any _ A1 A2 c1 c2 l1 l2 (by omega) (by omega) T4.out.a T4.out.b).mono ?_
  rintro e w5 ⟨B2, d2, F2, rfl, hs, hn, hb⟩
  obtain rfl := hn.one N1.out
  have T5 := Lib.hid (T4.out.next hb)
  have S2 := Lib.hid ((S1.out.below hb).mono hb.size)
  have S3 := Lib.hid hs
  have LF := Lib.hid hn.len
  clear hb hs hn
  go_wp2_with fail
  refine (rsame_true B1 B2 d1 d2 _ _ (by have := LF.out; omega) S2.out S3.out).mono ?_
  rintro e w6 ⟨rfl, hb⟩
  have T6 := Lib.hid (T5.out.next hb)
  clear hb S1 S2 S3 N1 LF
  go_wp2_with fail
  refine (sminus_any _ A1 A2 c1 c2 l1 l2 (by omega) (by omega) T6.out.a T6.out.b).mono ?_
  rintro e w7 ⟨B1, d1, F, rfl, hs, hn, hb⟩
  have T7 := Lib.hid (T6.out.next hb)
  have S1 := Lib.hid hs
  have N1 := Lib.hid hn
  clear hb hs hn
  go_wp2_with fail
  refine (rminus_any _ A1 A2 c1 c2 l1 l2 (by omega) (by omega) T7.out.a T7.out.b).mono ?_
  rintro e w8 ⟨B2, d2, F2, rfl, hs, hn, hb⟩
  obtain rfl := hn.one N1.out
  have T8 := Lib.hid (T7.out.next hb)
  have S2 := Lib.hid ((S1.out.below hb).mono hb.size)
  have S3 := Lib.hid hs
  have LF := Lib.hid hn.len
  clear hb hs hn
  go_wp2_with fail
  refine (rsame_true B1 B2 d1 d2 _ _ (by have := LF.out; omega) S2.out S3.out).mono ?_
  rintro e w9 ⟨rfl, hb⟩
  have T9 := Lib.hid (T8.out.next hb)
  clear hb S1 S2 S3 N1 LF
  go_wp2_with fail
  refine (sawake_any _).mono ?_
  rintro e wz ⟨rfl, hb⟩
  have TZ := Lib.hid (T9.out.next hb)
  clear hb
  go_wp2_with fail
  go_ret
  exact outB rfl TZ.out.below

set_option maxRecDepth 100000 in
set_option maxHeartbeats 8000000 in
theorem law_sets (hl1 : l1.length ≤ 9223372036854775807) (hl2 : l2.length ≤ 9223372036854775807) (hA1 : SpAt w w.heap.size A1 l1) (hA2 : SpAt w w.heap.size A2 l2) (m : Int) : Calls Try.prog 8 #[.slice A1 l1.length c1, .slice A2 l2.length c2, .int .i64 m] w (OutB w true) := by
  have T0 := Lib.hid (TwoL.mk (w := w) hA1 hA2 (Below.refl _ _))
  clear hA1 hA2
  by_cases h1 : 40 < l1.length
  · go_enter Try.func8, Try.ntmps8
    go_wp2_with fail
    refine (sawake_any _).mono ?_
    rintro e w1 ⟨rfl, hb⟩
    go_wp2_with fail
    go_ret
    exact outB rfl hb
  by_cases h2 : 40 < l2.length
  · go_enter Try.func8, Try.ntmps8
    go_wp2_with fail
    refine (sawake_any _).mono ?_
    rintro e w1 ⟨rfl, hb⟩
    go_wp2_with fail
    go_ret
    exact outB rfl hb
  have HX := Lib.hid (fun w hA => shas_any A1 c1 l1 m w (by omega) hA)
  have HY := Lib.hid (fun w hA => shas_any A2 c2 l2 m w (by omega) hA)
  have HU := Lib.hid (fun A c F w (hn : NF F fun m => inS l1 m || inS l2 m) hA => shas_nf (A := A) (c := c) m w hn hA)
  have HC := Lib.hid (fun A c F w (hn : NF F fun m => inS l1 m && inS l2 m) hA => shas_nf (A := A) (c := c) m w hn hA)
  have HM := Lib.hid (fun A c F w (hn : NF F fun m => inS l1 m && !inS l2 m) hA => shas_nf (A := A) (c := c) m w hn hA)
  generalize hx : inS l1 (m % 10080) = x at HX HU HC HM
  generalize hy : inS l2 (m % 10080) = y at HY HU HC HM
  clear hx hy
  cases x <;> cases y
  all_goals
    go_enter Try.func8, Try.ntmps8
    go_wp2_with fail
    refine (HX.out _ T0.out.a).mono ?_
    rintro e w1 ⟨rfl, hb⟩
    have T1 := Lib.hid (T0.out.next hb)
    clear hb
    go_wp2_with fail
    refine (HY.out _ T1.out.b).mono ?_
    rintro e w2 ⟨rfl, hb⟩
    have T2 := Lib.hid (T1.out.next hb)
    clear hb
    go_wp2_with fail
    refine (sunion_any _ A1 A2 c1 c2 l1 l2 (by omega) (by omega) T2.out.a T2.out.b).mono ?_
    rintro e w3 ⟨B1, d1, F, rfl, hs, hn, hb⟩
    have T3 := Lib.hid (T2.out.next hb)
    have CH := Lib.hid (HU.out B1 d1 F _ hn hs)
    clear hb hs hn
    go_wp2_with fail
    refine CH.out.mono ?_
    rintro e w4 ⟨rfl, hb⟩
    have T4 := Lib.hid (T3.out.next hb)
    clear hb CH
    go_wp2_with fail
    refine (scross_any _ A1 A2 c1 c2 l1 l2 (by omega) (by omega) T4.out.a T4.out.b).mono ?_
    rintro e w5 ⟨B1, d1, F, rfl, hs, hn, hb⟩
    have T5 := Lib.hid (T4.out.next hb)
    have CH := Lib.hid (HC.out B1 d1 F _ hn hs)
    clear hb hs hn
    go_wp2_with fail
    refine CH.out.mono ?_
    rintro e w6 ⟨rfl, hb⟩
    have T6 := Lib.hid (T5.out.next hb)
    clear hb CH
    go_wp2_with fail
    refine (sminus_any _ A1 A2 c1 c2 l1 l2 (by omega) (by omega) T6.out.a T6.out.b).mono ?_
    rintro e w7 ⟨B1, d1, F, rfl, hs, hn, hb⟩
    have T7 := Lib.hid (T6.out.next hb)
    have CH := Lib.hid (HM.out B1 d1 F _ hn hs)
    clear hb hs hn
    go_wp2_with fail
    refine CH.out.mono ?_
    rintro e w8 ⟨rfl, hb⟩
    have T8 := Lib.hid (T7.out.next hb)
    clear hb CH
    go_wp2_with fail
    refine (sawake_any _).mono ?_
    rintro e wz ⟨rfl, hb⟩
    have TZ := Lib.hid (T8.out.next hb)
    clear hb
    go_wp2_with fail
    go_ret
    exact outB rfl TZ.out.below

set_option maxRecDepth 100000 in
set_option maxHeartbeats 8000000 in
theorem law_lengths (hl1 : l1.length ≤ 9223372036854775807) (hl2 : l2.length ≤ 9223372036854775807) (hA1 : SpAt w w.heap.size A1 l1) (hA2 : SpAt w w.heap.size A2 l2) : Calls Try.prog 9 #[.slice A1 l1.length c1, .slice A2 l2.length c2] w (OutB w true) := by
  have T0 := Lib.hid (TwoL.mk (w := w) hA1 hA2 (Below.refl _ _))
  clear hA1 hA2
  by_cases h1 : 40 < l1.length
  · go_enter Try.func9, Try.ntmps9
    go_wp2_with fail
    refine (sawake_any _).mono ?_
    rintro e w1 ⟨rfl, hb⟩
    go_wp2_with fail
    go_ret
    exact outB rfl hb
  by_cases h2 : 40 < l2.length
  · go_enter Try.func9, Try.ntmps9
    go_wp2_with fail
    refine (sawake_any _).mono ?_
    rintro e w1 ⟨rfl, hb⟩
    go_wp2_with fail
    go_ret
    exact outB rfl hb
  have LA := Lib.hid (fun w hA => slength_any w A1 c1 l1 (by omega) hA)
  have LU := Lib.hid (fun A c F w (hn : NF F fun m => inS l1 m || inS l2 m) hA => slength_nf (A := A) (c := c) w hn hA)
  have LC := Lib.hid (fun A c F w (hn : NF F fun m => inS l1 m && inS l2 m) hA => slength_nf (A := A) (c := c) w hn hA)
  have LM := Lib.hid (fun A c F w (hn : NF F fun m => inS l1 m && !inS l2 m) hA => slength_nf (A := A) (c := c) w hn hA)
  have LN := Lib.hid (fun A c F w (hn : NF F fun m => inS l2 m && !inS l1 m) hA => slength_nf (A := A) (c := c) w hn hA)
  have e1 := cnt_split (inS l1) (inS l2) 10080
  have e2 := cnt_union (inS l1) (inS l2) 10080
  have b1 := cnt_in (inS l1) 10080
  have b2 := cnt_in (fun m => inS l1 m && inS l2 m) 10080
  have b3 := cnt_in (fun m => inS l1 m && !inS l2 m) 10080
  have b4 := cnt_in (fun m => inS l2 m && !inS l1 m) 10080
  have b5 := cnt_in (fun m => inS l1 m || inS l2 m) 10080
  generalize cntS (inS l1) 10080 = n at *
  generalize cntS (fun m => inS l1 m && inS l2 m) 10080 = x at *
  generalize cntS (fun m => inS l1 m && !inS l2 m) 10080 = y at *
  generalize cntS (fun m => inS l2 m && !inS l1 m) 10080 = z at *
  generalize cntS (fun m => inS l1 m || inS l2 m) 10080 = u at *
  obtain ⟨b11, b12⟩ := b1
  obtain ⟨b21, b22⟩ := b2
  obtain ⟨b31, b32⟩ := b3
  obtain ⟨b41, b42⟩ := b4
  obtain ⟨b51, b52⟩ := b5
  have q1 : (x + y == n) = true := by simp; omega
  have q2 : (u == n + z) = true := by simp; omega
  clear e1 e2
  go_enter Try.func9, Try.ntmps9
  go_wp2_with fail
  refine (LA.out _ T0.out.a).mono ?_
  rintro e w1 ⟨rfl, hb⟩
  have T1 := Lib.hid (T0.out.next hb)
  clear hb
  go_wp2_with fail
  refine (scross_any _ A1 A2 c1 c2 l1 l2 (by omega) (by omega) T1.out.a T1.out.b).mono ?_
  rintro e w2 ⟨B1, d1, F, rfl, hs, hn, hb⟩
  have T2 := Lib.hid (T1.out.next hb)
  have CH := Lib.hid (LC.out B1 d1 F _ hn hs)
  clear hb hs hn
  go_wp2_with fail
  refine CH.out.mono ?_
  rintro e w3 ⟨rfl, hb⟩
  have T3 := Lib.hid (T2.out.next hb)
  clear hb CH
  go_wp2_with fail
  refine (sminus_any _ A1 A2 c1 c2 l1 l2 (by omega) (by omega) T3.out.a T3.out.b).mono ?_
  rintro e w4 ⟨B1, d1, F, rfl, hs, hn, hb⟩
  have T4 := Lib.hid (T3.out.next hb)
  have CH := Lib.hid (LM.out B1 d1 F _ hn hs)
  clear hb hs hn
  go_wp2_with fail
  refine CH.out.mono ?_
  rintro e w5 ⟨rfl, hb⟩
  have T5 := Lib.hid (T4.out.next hb)
  clear hb CH
  go_wp2_with fail
  refine (sunion_any _ A1 A2 c1 c2 l1 l2 (by omega) (by omega) T5.out.a T5.out.b).mono ?_
  rintro e w6 ⟨B1, d1, F, rfl, hs, hn, hb⟩
  have T6 := Lib.hid (T5.out.next hb)
  have CH := Lib.hid (LU.out B1 d1 F _ hn hs)
  clear hb hs hn
  go_wp2_with fail
  refine CH.out.mono ?_
  rintro e w7 ⟨rfl, hb⟩
  have T7 := Lib.hid (T6.out.next hb)
  clear hb CH
  go_wp2_with fail
  refine (sminus_any _ A2 A1 c2 c1 l2 l1 (by omega) (by omega) T7.out.b T7.out.a).mono ?_
  rintro e w8 ⟨B1, d1, F, rfl, hs, hn, hb⟩
  have T8 := Lib.hid (T7.out.next hb)
  have CH := Lib.hid (LN.out B1 d1 F _ hn hs)
  clear hb hs hn
  go_wp2_with fail
  refine CH.out.mono ?_
  rintro e w9 ⟨rfl, hb⟩
  have T9 := Lib.hid (T8.out.next hb)
  clear hb CH
  go_wp2_with fail
  refine (sawake_any _).mono ?_
  rintro e wz ⟨rfl, hb⟩
  have TZ := Lib.hid (T9.out.next hb)
  clear hb
  go_wp2_with fail
  go_ret
  exact outB rfl TZ.out.below
end
end Go.Proofs.Ytnocbgimfmgdeaa
