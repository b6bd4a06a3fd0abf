/- Round and Settle, on both sides. -/
import Derived.Test.YtjhnilfnnongeaaAdI
import Derived.Deep.LoopGhost
set_option linter.unusedVariables false
namespace Go.Proofs.Ytjhnilfnnongeaa.Adr
open Go.RowKit

theorem itR_len : ∀ (n : Nat) (l : List Clm), (itR n l).length = l.length
  | 0, _ => rfl
  | n + 1, l => by show (itR n (rnd l)).length = _; rw [itR_len n, rnd_len]
theorem itR_try {l : List Clm} {b : Int} (h : ∀ c ∈ l, 0 ≤ c.2.2 ∧ c.2.2 ≤ b) : ∀ n : Nat, ∀ c ∈ itR n l, 0 ≤ c.2.2 ∧ c.2.2 ≤ b + n := by
  intro n
  induction n with
  | zero => exact fun c hc => by have := h c hc; omega
  | succ n ih =>
    intro c hc
    rw [itR_succ] at hc
    obtain ⟨d, hd, rfl⟩ := List.mem_map.1 hc
    have := ih d hd
    unfold stp
    split
    · omega
    · simp only; omega
/-- What Round hands back. -/
def rdL (l : List Clm) : List Clm := if chk l = 0 then rnd l else []
def rdN (l : List Clm) : Int := if chk l = 0 then (nch l : Nat) else 0
def OutRo (w : World) (l : List Clm) (e : Ending) (w' : World) : Prop := ∃ A c, e = .returned (.tuple #[.slice A (rdL l).length c, .int .i64 (rdN l)]) ∧ ClAt w' w'.heap.size A (rdL l) ∧ Below w.heap.size w w'
theorem outRo_yes {w w' : World} {l : List Clm} {v : Value} {B : Nat} (h : chk l = 0) (ho : OwnC w' B v (rnd l)) (hb : Below w.heap.size w w') : OutRo w l (.returned (.tuple #[v, .int .i64 (nch l : Nat)])) w' := by
  obtain ⟨A, c, rfl, h1, _⟩ := ho.read
  have e1 : rdL l = rnd l := if_pos h
  have e2 : rdN l = (nch l : Nat) := if_pos h
  exact ⟨A, c, by rw [e1, e2], by rw [e1]; exact h1, hb⟩
theorem outRo_no {w w' : World} {l : List Clm} (h : ¬ chk l = 0) (hb : Below w.heap.size w w') : OutRo w l (.returned (.tuple #[.slice none 0 0, .int .i64 0])) w' := by
  have e1 : rdL l = [] := if_neg h
  have e2 : rdN l = 0 := if_neg h
  exact ⟨none, 0, by rw [e1, e2]; rfl, by rw [e1]; exact FlAt.nil _ _ _, hb⟩
theorem chk_try {l : List Clm} (h : chk l = 0) : ∀ c ∈ l, 0 ≤ c.2.2 ∧ c.2.2 ≤ 100000 := fun c hc => ⟨(((chk_zero l).1 h).2.1 c hc).1, (((chk_zero l).1 h).2.1 c hc).2.1⟩

set_option maxRecDepth 100000 in
set_option maxHeartbeats 2000000 in
theorem around_any (A : Option Addr) (c : Nat) (l : List Clm) (w : World) (hl : l.length ≤ 9223372036854775807) (hA : ClAt w w.heap.size A l) :
    Calls Try.prog 15 #[.slice A l.length c] w (OutRo w l) := by
  have HA := Lib.hid hA
  clear hA
  have CK := Lib.hid (fun w h => acheck_any A c l w hl h)
  by_cases h0 : chk l = 0
  · have L24 := Lib.hid ((chk_zero l).1 h0).1
    have TR := Lib.hid (chk_try h0)
    have H0 := Lib.hid h0
    clear h0
    rw [show chk l = 0 from H0.out] at CK
    go_enter Try.func15, Try.ntmps15
    go_wp2_with fail
    refine (CK.out _ HA.out).mono ?_
    rintro _ w1 ⟨rfl, hb⟩
    have B1 := Lib.hid hb
    have hz1 := hb.size
    clear hb
    go_wp2_with fail
    refine (advance_any A c l _ (by have := L24.out; omega) (fun c hc => ⟨(TR.out c hc).1, by have := (TR.out c hc).2; omega⟩) (HA.out.next B1.out)).mono ?_
    rintro _ w2 ⟨v, rfl, ho, hb⟩
    have B2 := Lib.hid (B1.out.trans (hb.mono hz1))
    have O := Lib.hid ho
    clear hb ho
    go_wp2_with fail
    go_ret2
    exact outRo_yes H0.out O.out B2.out
  · have n1 : (chk l != 0) = true := by simpa using h0
    have n2 : (chk l == 0) = false := by simpa using h0
    have RN := Lib.hid (fun w' hb => outRo_no (w := w) (w' := w') h0 hb)
    generalize chk l = q at *
    have n3 : decide (q = 0) = false := df h0
    clear h0
    go_enter Try.func15, Try.ntmps15
    go_wp2_with fail
    refine (CK.out _ HA.out).mono ?_
    rintro _ w1 ⟨rfl, hb⟩
    have B1 := Lib.hid hb
    clear hb
    go_wp2_with fail
    go_ret2
    exact RN.out _ B1.out

set_option maxRecDepth 100000 in
set_option maxHeartbeats 2000000 in
theorem rRound_any (A : Option Addr) (c : Nat) (l : List Clm) (w : World) (hl : l.length ≤ 9223372036854775807) (hA : ClAt w w.heap.size A l) :
    Calls Try.prog 16 #[.slice A l.length c] w (OutRo w l) := by
  have HA := Lib.hid hA
  clear hA
  have CK := Lib.hid (fun w h => rcheck_any A c l w hl h)
  by_cases h0 : chk l = 0
  · have L24 := Lib.hid ((chk_zero l).1 h0).1
    have TR := Lib.hid (chk_try h0)
    have H0 := Lib.hid h0
    clear h0
    rw [show chk l = 0 from H0.out] at CK
    go_enter Try.func16, Try.ntmps16
    go_wp2_with fail
    refine (CK.out _ HA.out).mono ?_
    rintro _ w1 ⟨rfl, hb⟩
    have B1 := Lib.hid hb
    have hz1 := hb.size
    clear hb
    go_wp2_with fail
    refine (rround_any A c l _ (by have := L24.out; omega) (fun c hc => ⟨(TR.out c hc).1, by have := (TR.out c hc).2; omega⟩) (HA.out.next B1.out)).mono ?_
    rintro _ w2 ⟨v, rfl, ho, hb⟩
    have B2 := Lib.hid (B1.out.trans (hb.mono hz1))
    have O := Lib.hid ho
    clear hb ho
    go_wp2_with fail
    go_ret2
    exact outRo_yes H0.out O.out B2.out
  · have n1 : (chk l != 0) = true := by simpa using h0
    have n2 : (chk l == 0) = false := by simpa using h0
    have RN := Lib.hid (fun w' hb => outRo_no (w := w) (w' := w') h0 hb)
    generalize chk l = q at *
    have n3 : decide (q = 0) = false := df h0
    clear h0
    go_enter Try.func16, Try.ntmps16
    go_wp2_with fail
    refine (CK.out _ HA.out).mono ?_
    rintro _ w1 ⟨rfl, hb⟩
    have B1 := Lib.hid hb
    clear hb
    go_wp2_with fail
    go_ret2
    exact RN.out _ B1.out

theorem out_stl_no {w w' : World} {l : List Clm} {v : Value} {B : Nat} (h : ¬ chk l = 0) (ho : OwnC w' B v l) (hb : Below w.heap.size w w') : OutF fC w (stl l) (.returned v) w' := outF_own (if_neg h) ho hb
theorem out_stl_self {w w' : World} {l : List Clm} {A : Option Addr} {c : Nat} (h : ¬ chk l = 0) (ho : ClAt w' w'.heap.size A l) (hc : l.length ≤ c) (h0 : A = none → c = 0) (hb : Below w.heap.size w w') : OutF fC w (stl l) (.returned (.slice A l.length c)) w' :=
  have e : stl l = l := if_neg h
  outF e (by rw [e]) ho hc h0 hb
/-- The claims after a number of rounds, and how many changed in the last one. -/
def StA (w : World) (l : List Clm) (gk : Nat) (s n : Value) (wr : World) : Prop := ∃ k A c, gk + k = 700 ∧ s = .slice A (itR (k + 1) l).length c ∧ n = .int .i64 (nch (itR k l) : Nat) ∧ ClAt wr wr.heap.size A (itR (k + 1) l) ∧ (itR (k + 1) l).length ≤ c ∧ (A = none → c = 0) ∧ Below w.heap.size w wr

set_option maxRecDepth 100000 in
set_option maxHeartbeats 2000000 in
theorem asettle_any (A : Option Addr) (c : Nat) (l : List Clm) (w : World) (hl : l.length ≤ 100000000) (hA : ClAt w w.heap.size A l) :
    Calls Try.prog 23 #[.slice A l.length c] w (OutF fC w (stl l)) := by
  have HA := Lib.hid hA
  clear hA
  have CK := Lib.hid (fun w h => acheck_any A c l w (by omega) h)
  by_cases h0 : chk l = 0
  · have L24 := ((chk_zero l).1 h0).1
    have TR := Lib.hid (chk_try h0)
    have IL := Lib.hid (fun n => itR_len n l)
    have IT := Lib.hid (fun n => itR_try (chk_try h0) n)
    have SI := Lib.hid (fun k => stl_is h0 k)
    have NE := Lib.hid (fun k => nch_end h0 k)
    have H0 := Lib.hid h0
    clear h0
    rw [show chk l = 0 from H0.out] at CK
    go_enter Try.func23, Try.ntmps23
    go_wp2_with fail
    refine (CK.out _ HA.out).mono ?_
    rintro _ w1 ⟨rfl, hb⟩
    have B1 := Lib.hid hb
    have hz1 := hb.size
    clear hb
    go_wp2_with fail
    refine (advance_any A c l _ (by omega) (fun c hc => ⟨(TR.out c hc).1, by have := (TR.out c hc).2; omega⟩) (HA.out.next B1.out)).mono ?_
    rintro _ w2 ⟨v, rfl, ho, hb⟩
    have S2 := Lib.hid (show StA w l 700 v (.int .i64 (nch l : Nat)) w2 by
      obtain ⟨A1, c1, rfl, h1, h2, h3⟩ := ho.read
      exact ⟨0, A1, c1, rfl, rfl, rfl, h1, h2, h3, B1.out.trans (hb.mono hz1)⟩)
    clear hb ho
    go_wp2_with fail
    go_loopg [3, 4] 700 (fun gk s n wr => StA w l gk s n wr)
    case atStart => exact S2.out
    case round =>
      obtain ⟨k, A1, c1, hgk, rfl, rfl, hcl, hc1, hc2, hb⟩ := hrel
      have B := Lib.hid hb
      have hz := hb.size
      have C := Lib.hid hcl
      have C1 := Lib.hid hc1
      have C2 := Lib.hid hc2
      clear hb hcl hc1 hc2
      have IT1 := Lib.hid (IT.out (k + 1))
      have NK := Lib.hid (NE.out k)
      have IL1 := Lib.hid (IL.out (k + 1))
      by_cases hn : 0 < nch (itR k l)
      · have hk : k < 636 := by
          rcases Nat.lt_or_ge k 636 with h | h
          · exact h
          · have := NK.out h; omega
        have d1 := dt hn
        have AD := Lib.hid (fun w hw => advance_any A1 c1 (itR (k + 1) l) w (by rw [IL1.out]; omega) (fun c hc => ⟨(IT1.out c hc).1, by have := (IT1.out c hc).2; omega⟩) hw)
        have IS := Lib.hid (itR_succ (k + 1) l)
        clear hn
        go_wp2_with fail
        refine (AD.out _ C.out).mono ?_
        rintro _ w2 ⟨v, rfl, ho, hb⟩
        have S3 := Lib.hid (show StA w l (gk - 1) v (.int .i64 (nch (itR (k + 1) l) : Nat)) w2 by
          obtain ⟨A2, c2, rfl, h1, h2, h3⟩ := ho.read
          rw [← IS.out] at h1 h2 ⊢
          exact ⟨k + 1, A2, c2, by omega, rfl, rfl, h1, h2, h3, B.out.trans (hb.mono hz)⟩)
        clear hb ho
        go_wp2_with fail
        go_roundg (gk - 1)
        case measure => omega
        case rel => exact S3.out
      · have hn0 : nch (itR k l) = 0 := by omega
        have E := Lib.hid (show itR (k + 1) l = stl l by rw [itR_succ, rnd_fix hn0]; exact SI.out k hn0)
        have d1 := df hn
        rw [E.out] at C C1 ⊢
        clear hn hn0
        go_wp2_with fail
        go_ret
        exact outF rfl rfl C.out C1.out C2.out B.out
  · have n1 : (chk l != 0) = true := by simpa using h0
    have n2 : (chk l == 0) = false := by simpa using h0
    have RN := Lib.hid (fun v w' B ho hb => out_stl_no (w := w) (w' := w') (v := v) (B := B) h0 ho hb)
    generalize stl l = r at *
    generalize chk l = q at *
    have n3 : decide (q = 0) = false := df h0
    clear h0
    go_enter Try.func23, Try.ntmps23
    go_wp2_with fail
    refine (CK.out _ HA.out).mono ?_
    rintro _ w1 ⟨rfl, hb⟩
    have B1 := Lib.hid hb
    have hz1 := hb.size
    clear hb
    go_wp2_with fail
    refine (clone_any A c l _ hl (HA.out.next B1.out)).mono ?_
    rintro _ w2 ⟨v, rfl, ho, hb⟩
    have B2 := Lib.hid (B1.out.trans (hb.mono hz1))
    have O := Lib.hid ho
    clear hb ho
    go_wp2_with fail
    go_ret
    exact RN.out _ _ _ O.out B2.out

def StR (w : World) (l : List Clm) (s i : Value) (wr : World) : Prop := ∃ k A c, i = .int .i64 ((k : Nat) : Int) ∧ k ≤ 636 ∧ s = .slice A (itR k l).length c ∧ ClAt wr wr.heap.size A (itR k l) ∧ Below w.heap.size w wr

set_option maxRecDepth 100000 in
set_option maxHeartbeats 2000000 in
theorem rsettle_any (A : Option Addr) (c : Nat) (l : List Clm) (w : World) (hl : l.length ≤ 9223372036854775807) (hc : l.length ≤ c) (hc0 : A = none → c = 0) (hA : ClAt w w.heap.size A l) :
    Calls Try.prog 24 #[.slice A l.length c] w (OutF fC w (stl l)) := by
  have HA := Lib.hid hA
  have HC := Lib.hid hc
  have HC0 := Lib.hid hc0
  clear hA hc hc0
  have CK := Lib.hid (fun w h => rcheck_any A c l w hl h)
  by_cases h0 : chk l = 0
  · have L24 := ((chk_zero l).1 h0).1
    have IL := Lib.hid (fun n => itR_len n l)
    have IT := Lib.hid (fun n => itR_try (chk_try h0) n)
    have SI := Lib.hid (fun k => stl_is h0 k)
    have NE := Lib.hid (fun k => nch_end h0 k)
    have H0 := Lib.hid h0
    clear h0
    rw [show chk l = 0 from H0.out] at CK
    go_enter Try.func24, Try.ntmps24
    go_wp2_with fail
    refine (CK.out _ HA.out).mono ?_
    rintro _ w1 ⟨rfl, hb⟩
    have S1 := Lib.hid (show StR w l (.slice A l.length c) (.int .i64 0) w1 from ⟨0, A, c, rfl, Nat.zero_le _, rfl, HA.out.next hb, hb⟩)
    clear hb
    go_wp2_with fail
    go_loopw [0, 3] (fun s i wr => StR w l s i wr) (fun _ i _ => 1000 - (intOf i).toNat)
    case atStart => exact S1.out
    case round =>
      obtain ⟨k, A1, c1, rfl, hk, rfl, hcl, hb⟩ := hrel
      have B := Lib.hid hb
      have hz := hb.size
      have C := Lib.hid hcl
      clear hb hcl
      have AD := Lib.hid (fun w hw => rround_any A1 c1 (itR k l) w (by rw [IL.out]; omega) (fun c hc => ⟨(IT.out k c hc).1, by have := (IT.out k c hc).2; omega⟩) hw)
      have IS := Lib.hid (itR_succ k l)
      have d0 := dt (show (k : Int) < 1000 by omega)
      have NK := Lib.hid (NE.out k)
      go_wp2_with fail
      refine (AD.out _ C.out).mono ?_
      rintro _ w2 ⟨v, rfl, ho, hb⟩
      have B2 := Lib.hid (B.out.trans (hb.mono hz))
      by_cases hn : nch (itR k l) = 0
      · have E := Lib.hid (show rnd (itR k l) = stl l by rw [rnd_fix hn]; exact SI.out k hn)
        have O := Lib.hid ho
        rw [E.out] at O
        rw [hn]
        clear hn hb ho
        go_wp2_with fail
        go_ret
        exact outF_own rfl O.out B2.out
      · have hk2 : k < 636 := by
          rcases Nat.lt_or_ge k 636 with h | h
          · exact h
          · exact absurd (NK.out h) hn
        have S3 := Lib.hid (show StR w l v (.int .i64 ((k : Int) + 1)) w2 by
          obtain ⟨A2, c2, rfl, h1, h2, h3⟩ := ho.read
          rw [← IS.out] at h1 ⊢
          exact ⟨k + 1, A2, c2, by go_num, by omega, rfl, h1, B2.out⟩)
        have n1 : ((nch (itR k l) : Int) == 0) = false := by simpa using hn
        have n2 : decide ((nch (itR k l) : Int) = 0) = false := df (by omega)
        have n3 : ((nch (itR k l)) == 0) = false := by simpa using hn
        generalize nch (itR k l) = q at *
        clear hn hb ho
        go_wp2_with fail
        go_roundw
        case rel => exact S3.out
        case measure => simp [intOf]; omega
  · have n1 : (chk l != 0) = true := by simpa using h0
    have n2 : (chk l == 0) = false := by simpa using h0
    have RN := Lib.hid (fun w' ho hb => out_stl_self (w := w) (w' := w') (A := A) (c := c) h0 ho HC.out HC0.out hb)
    generalize stl l = r at *
    generalize chk l = q at *
    have n3 : decide (q = 0) = false := df h0
    clear h0
    go_enter Try.func24, Try.ntmps24
    go_wp2_with fail
    refine (CK.out _ HA.out).mono ?_
    rintro _ w1 ⟨rfl, hb⟩
    have B1 := Lib.hid hb
    clear hb
    go_wp2_with fail
    go_ret
    exact RN.out _ (HA.out.next B1.out) B1.out
end Go.Proofs.Ytjhnilfnnongeaa.Adr
