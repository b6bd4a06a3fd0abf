/- The laws Splits, Checks, Adds, Expires. -/
import Derived.Test.YtljcjflbfjleoaaFgL
set_option linter.unusedVariables false
namespace Go.Proofs.Ytljcjflbfjleoaa.Frg
open Go.RowKit

theorem split_len (s : ByteArray) (id : Int) : (split s id).1.length ≤ 16 := by
  unfold split
  split
  · exact Nat.zero_le _
  · split
    · exact Nat.zero_le _
    · rw [pcs_len]; exact cnt_le (by omega)
theorem add_lens (l : List Pt) (s now : Int) (p : ByteArray) : (add l s now p).1.length ≤ 8 ∧ ∀ x ∈ (add l s now p).1, x.h.length ≤ 16 ∧ x.d.length ≤ 16 := by
  by_cases h : chk p = 0
  · have o := add_ok (l := l) (s := s) (now := now) h
    refine ⟨o.len, fun x hx => ?_⟩
    have v := o.val x hx
    have := v.hl; have := v.dl; have := v.ct
    omega
  · rw [show add l s now p = ([], eb, false, chk p) from if_pos h]
    exact ⟨Nat.zero_le _, fun x hx => by cases hx⟩
theorem expi_lens (l : List Pt) (now life : Int) : (expi l now life).length ≤ 8 ∧ ∀ x ∈ expi l now life, x.h.length ≤ 16 ∧ x.d.length ≤ 16 := by
  have o := ord_ok l
  refine ⟨Nat.le_trans (List.length_filter_le _ _) o.len, fun x hx => ?_⟩
  have v := o.val x (List.mem_filter.1 hx).1
  have := v.hl; have := v.dl; have := v.ct
  omega
theorem xs_lens {ys : List Hp} {x : List Pt} (h : xs ys = x) (hx : x.length ≤ 8 ∧ ∀ z ∈ x, z.h.length ≤ 16 ∧ z.d.length ≤ 16) : ys.length ≤ 8 ∧ ∀ y ∈ ys, y.x.h.length ≤ 9223372036854775807 ∧ y.x.d.length ≤ 9223372036854775807 := by
  subst h
  refine ⟨by simpa using hx.1, fun y hy => ?_⟩
  have := hx.2 y.x (List.mem_map_of_mem hy)
  omega
set_option maxRecDepth 100000 in
set_option maxHeartbeats 4000000 in
theorem law_splits (w : World) (s : ByteArray) (id : Int) (hs : s.size ≤ 9223372036854775807) : Calls Try.prog 3 #[.string s, .int .i64 id] w (OutB w true) := by
  have KW := Lib.hid (fun w => awake_any w)
  unfold OutB at KW
  have B0 := Lib.hid (Below.refl w.heap.size w)
  by_cases h : 1100 < s.size
  · have d0 := dt (show (1100 : Int) < (s.size : Int) by omega)
    go_enter Try.func3, Try.ntmps3
    go_wp2_with fail
    refine (KW.out _).mono ?_
    rintro _ wz ⟨rfl, hb⟩
    have BZ := Lib.hid (B0.out.trans (hb.mono B0.out.size))
    clear hb
    go_wp2_with fail
    go_ret
    exact outB rfl BZ.out
  have d0 := df (show ¬ (1100 : Int) < (s.size : Int) by omega)
  have K1 := Lib.hid (fun w => psplit_any s id w hs)
  have K2 := Lib.hid (fun w => rsplit_any s id w hs)
  have LL := split_len s id
  generalize split s id = r at *
  obtain ⟨L, e⟩ := r
  unfold SplitR at K1 K2
  simp only at K1 K2 LL
  go_enter Try.func3, Try.ntmps3
  go_wp2_with fail
  refine (K1.out _).mono ?_
  rintro _ w1 ⟨A1, c1, rfl, h1, hb⟩
  have B1 := Lib.hid hb
  have H1 := Lib.hid h1
  clear hb h1
  go_wp2_with fail
  refine (K2.out _).mono ?_
  rintro _ w2 ⟨A2, c2, rfl, h2, hb⟩
  have B2 := Lib.hid (B1.out.trans (hb.mono B1.out.size))
  have KS := Lib.hid (rpieces_any A1 A2 c1 c2 L w2 (by omega) (H1.out.next hb) h2)
  unfold OutB at KS
  clear hb h2 H1
  go_wp2_with fail
  refine KS.out.mono ?_
  rintro _ w3 ⟨rfl, hb⟩
  have B3 := Lib.hid (B2.out.trans (hb.mono B2.out.size))
  clear hb KS
  go_wp2_with fail
  refine (KW.out _).mono ?_
  rintro _ wz ⟨rfl, hb⟩
  have BZ := Lib.hid (B3.out.trans (hb.mono B3.out.size))
  clear hb
  go_wp2_with fail
  go_ret
  exact outB rfl BZ.out
set_option maxRecDepth 100000 in
set_option maxHeartbeats 4000000 in
theorem law_checks (w : World) (p : ByteArray) (hs : p.size ≤ 9223372036854775807) : Calls Try.prog 4 #[.string p] w (OutB w true) := by
  have KW := Lib.hid (fun w => awake_any w)
  unfold OutB at KW
  have B0 := Lib.hid (Below.refl w.heap.size w)
  by_cases h : 200 < p.size
  · have d0 := dt (show (200 : Int) < (p.size : Int) by omega)
    go_enter Try.func4, Try.ntmps4
    go_wp2_with fail
    refine (KW.out _).mono ?_
    rintro _ wz ⟨rfl, hb⟩
    have BZ := Lib.hid (B0.out.trans (hb.mono B0.out.size))
    clear hb
    go_wp2_with fail
    go_ret
    exact outB rfl BZ.out
  have d0 := df (show ¬ (200 : Int) < (p.size : Int) by omega)
  have K1 := Lib.hid (fun w => pcheck_any p w hs)
  have K2 := Lib.hid (fun w => rcheck_any p w hs)
  generalize chk p = e at *
  unfold OutI at K1 K2
  go_enter Try.func4, Try.ntmps4
  go_wp2_with fail
  refine (K1.out _).mono ?_
  rintro _ w1 ⟨rfl, hb⟩
  have B1 := Lib.hid hb
  clear hb
  go_wp2_with fail
  refine (K2.out _).mono ?_
  rintro _ w2 ⟨rfl, hb⟩
  have B2 := Lib.hid (B1.out.trans (hb.mono B1.out.size))
  clear hb
  go_wp2_with fail
  refine (KW.out _).mono ?_
  rintro _ wz ⟨rfl, hb⟩
  have BZ := Lib.hid (B2.out.trans (hb.mono B2.out.size))
  clear hb
  go_wp2_with fail
  go_ret
  exact outB rfl BZ.out
set_option maxRecDepth 100000 in
set_option maxHeartbeats 4000000 in
theorem law_adds (w : World) (A : Option Addr) (c : Nat) (l : List Hp) (s now : Int) (p : ByteArray) (hl : l.length ≤ 9223372036854775807) (hm : ∀ y ∈ l, y.x.h.length ≤ 9223372036854775807 ∧ y.x.d.length ≤ 9223372036854775807) (hi : I64 s) (hs : p.size ≤ 9223372036854775807) (hA : PsS w A c l) :
    Calls Try.prog 5 #[.slice A l.length c, .int .i64 s, .int .i64 now, .string p] w (OutB w true) := by
  have KW := Lib.hid (fun w => awake_any w)
  unfold OutB at KW
  have KF := Lib.hid (few_any A c l w hl hm hA)
  have HA := Lib.hid hA
  have HM := Lib.hid hm
  clear hA hm
  go_enter Try.func5, Try.ntmps5
  go_wp2_with fail
  refine KF.out.mono ?_
  rintro _ w0 ⟨b, rfl, hf, hb⟩
  have B0 := Lib.hid hb
  have HF := Lib.hid hf
  clear hb hf KF
  cases b with
  | false =>
    go_wp2_with fail
    refine (KW.out _).mono ?_
    rintro _ wz ⟨rfl, hb⟩
    have BZ := Lib.hid (B0.out.trans (hb.mono B0.out.size))
    clear hb
    go_wp2_with fail
    go_ret
    exact outB rfl BZ.out
  | true =>
  have FW := HF.out rfl
  have l20 := FW.1
  clear FW HF
  by_cases h : 200 < p.size
  · have d0 := dt (show (200 : Int) < (p.size : Int) by omega)
    go_wp2_with fail
    refine (KW.out _).mono ?_
    rintro _ wz ⟨rfl, hb⟩
    have BZ := Lib.hid (B0.out.trans (hb.mono B0.out.size))
    clear hb
    go_wp2_with fail
    go_ret
    exact outB rfl BZ.out
  have d0 := df (show ¬ (200 : Int) < (p.size : Int) by omega)
  have K1 := Lib.hid (fun w hA => padd_any A c l s now p w hi (by omega) hs HM.out hA)
  have K2 := Lib.hid (fun w hA => radd_q A c l s now p w hi (by omega) hs HM.out hA)
  have LL := Lib.hid (add_lens (xs l) s now p)
  generalize add (xs l) s now p = r at *
  obtain ⟨X, t, b, e⟩ := r
  unfold AddQ at K1 K2
  simp only at K1 K2 LL
  have tt : (t.toList == t.toList) = true := by simp
  go_wp2_with fail
  refine (K1.out _ (HA.out.next B0.out)).mono ?_
  rintro _ w1 ⟨A1, c1, ys1, rfl, h1, x1, hb⟩
  have B1 := Lib.hid (B0.out.trans (hb.mono B0.out.size))
  have H1 := Lib.hid h1.psS
  have X1 := Lib.hid x1
  clear hb h1 x1 K1
  go_wp2_with fail
  refine (K2.out _ (HA.out.next B1.out)).mono ?_
  rintro _ w2 ⟨A2, c2, ys2, rfl, h2, x2, hb⟩
  have B2 := Lib.hid (B1.out.trans (hb.mono B1.out.size))
  have xl := xs_lens X1.out LL.out
  have KS := Lib.hid (rlist_any A1 A2 c1 c2 ys1 ys2 w2 (by have := X1.out; exact this.trans x2.symm) (by omega) xl.2 (H1.out.next hb) h2.psS)
  unfold OutB at KS
  clear hb h2 H1 X1 x2 LL K2 HA HM xl
  cases b with
  | false =>
    go_wp2_with fail
    refine KS.out.mono ?_
    rintro _ w3 ⟨rfl, hb⟩
    have B3 := Lib.hid (B2.out.trans (hb.mono B2.out.size))
    clear hb KS
    go_wp2_with fail
    refine (KW.out _).mono ?_
    rintro _ wz ⟨rfl, hb⟩
    have BZ := Lib.hid (B3.out.trans (hb.mono B3.out.size))
    clear hb
    go_wp2_with fail
    go_ret
    exact outB rfl BZ.out
  | true =>
    go_wp2_with fail
    refine KS.out.mono ?_
    rintro _ w3 ⟨rfl, hb⟩
    have B3 := Lib.hid (B2.out.trans (hb.mono B2.out.size))
    clear hb KS
    go_wp2_with fail
    refine (KW.out _).mono ?_
    rintro _ wz ⟨rfl, hb⟩
    have BZ := Lib.hid (B3.out.trans (hb.mono B3.out.size))
    clear hb
    go_wp2_with fail
    go_ret
    exact outB rfl BZ.out
set_option maxRecDepth 100000 in
set_option maxHeartbeats 4000000 in
theorem law_expires (w : World) (A : Option Addr) (c : Nat) (l : List Hp) (now life : Int) (hl : l.length ≤ 9223372036854775807) (hm : ∀ y ∈ l, y.x.h.length ≤ 9223372036854775807 ∧ y.x.d.length ≤ 9223372036854775807) (hA : PsS w A c l) :
    Calls Try.prog 6 #[.slice A l.length c, .int .i64 now, .int .i64 life] w (OutB w true) := by
  have KW := Lib.hid (fun w => awake_any w)
  unfold OutB at KW
  have KF := Lib.hid (few_any A c l w hl hm hA)
  have HA := Lib.hid hA
  have HM := Lib.hid hm
  clear hA hm
  go_enter Try.func6, Try.ntmps6
  go_wp2_with fail
  refine KF.out.mono ?_
  rintro _ w0 ⟨b, rfl, hf, hb⟩
  have B0 := Lib.hid hb
  have HF := Lib.hid hf
  clear hb hf KF
  cases b with
  | false =>
    go_wp2_with fail
    refine (KW.out _).mono ?_
    rintro _ wz ⟨rfl, hb⟩
    have BZ := Lib.hid (B0.out.trans (hb.mono B0.out.size))
    clear hb
    go_wp2_with fail
    go_ret
    exact outB rfl BZ.out
  | true =>
  have FW := HF.out rfl
  have l20 := FW.1
  clear FW HF
  have K1 := Lib.hid (fun w hA => pexpire_any A c l now life w (by omega) HM.out hA)
  have K2 := Lib.hid (fun w hA => rexpire_any A c l now life w (by omega) HM.out hA)
  have LL := Lib.hid (expi_lens (xs l) now life)
  generalize expi (xs l) now life = X at *
  unfold PsR at K1 K2
  go_wp2_with fail
  refine (K1.out _ (HA.out.next B0.out)).mono ?_
  rintro _ w1 ⟨A1, c1, ys1, rfl, h1, x1, hb⟩
  have B1 := Lib.hid (B0.out.trans (hb.mono B0.out.size))
  have H1 := Lib.hid h1
  have X1 := Lib.hid x1
  clear hb h1 x1 K1
  go_wp2_with fail
  refine (K2.out _ (HA.out.next B1.out)).mono ?_
  rintro _ w2 ⟨A2, c2, ys2, rfl, h2, x2, hb⟩
  have B2 := Lib.hid (B1.out.trans (hb.mono B1.out.size))
  have xl := xs_lens X1.out LL.out
  have KS := Lib.hid (rlist_any A1 A2 c1 c2 ys1 ys2 w2 (by have := X1.out; exact this.trans x2.symm) (by omega) xl.2 (H1.out.next hb) h2)
  unfold OutB at KS
  clear hb h2 H1 X1 x2 LL K2 HA HM xl
  go_wp2_with fail
  refine KS.out.mono ?_
  rintro _ w3 ⟨rfl, hb⟩
  have B3 := Lib.hid (B2.out.trans (hb.mono B2.out.size))
  clear hb KS
  go_wp2_with fail
  refine (KW.out _).mono ?_
  rintro _ wz ⟨rfl, hb⟩
  have BZ := Lib.hid (B3.out.trans (hb.mono B3.out.size))
  clear hb
  go_wp2_with fail
  go_ret
  exact outB rfl BZ.out
end Go.Proofs.Ytljcjflbfjleoaa.Frg
