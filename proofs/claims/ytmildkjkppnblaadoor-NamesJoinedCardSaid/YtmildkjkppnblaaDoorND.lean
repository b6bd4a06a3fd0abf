/- Contracts of Unquote, partSize and Fields of names. -/
import Derived.Test.YtmildkjkppnblaaDoorNC
set_option linter.unusedVariables false
namespace Go.Proofs.YtmildkjkppnblaaDoor
open Go.RowKit

/-- What Unquote hands back. -/
def OutUq (x : List UInt8 × Int) (w : World) (e : Ending) (w' : World) : Prop :=
  e = .returned (.tuple #[.string (bs x.1), .int .i64 x.2]) ∧ Below w.heap.size w w'
theorem outu {x : List UInt8 × Int} {w w' : World} {s : ByteArray} {t : List UInt8} {n : Int} (h : x = (t, n)) (hs : s = bs t) (hb : Below w.heap.size w w') : OutUq x w (.returned (.tuple #[.string s, .int .i64 n])) w' := by
  subst h; subst hs; exact ⟨rfl, hb⟩
theorem unq_none {l : List UInt8} (h : rdq l = none) : unq l = ([], 4) := by unfold unq; rw [h]
theorem unq_more {l t : List UInt8} {n : Nat} (h : rdq l = some (t, n)) (h2 : n < l.length) : unq l = ([], 4) := by unfold unq; rw [h]; dsimp only; rw [if_pos h2]
theorem unq_long {l t : List UInt8} {n : Nat} (h : rdq l = some (t, n)) (h2 : ¬ n < l.length) (h3 : 60 < t.length) : unq l = ([], 3) := by unfold unq; rw [h]; dsimp only; rw [if_neg h2, if_pos h3]
theorem unq_good {l t : List UInt8} {n : Nat} (h : rdq l = some (t, n)) (h2 : ¬ n < l.length) (h3 : ¬ 60 < t.length) : unq l = (t, 0) := by unfold unq; rw [h]; dsimp only; rw [if_neg h2, if_neg h3]

set_option maxHeartbeats 1000000 in
theorem uq_any (s : ByteArray) (w : World) (hs : s.size ≤ 100000) (x : List UInt8 × Int) (hx : unq s.data.toList = x) :
    Calls Tryd.prog 10 #[.string s] w (OutUq x w) := by
  rcases hr : rdq s.data.toList with _ | ⟨t, n⟩
  · have X := Lib.hid (hx.symm.trans (unq_none hr))
    have Q := Lib.hid (rq_any s w hs none hr)
    clear hx hr
    go_enter Tryd.func10, Tryd.ntmps10
    go_wp2_with fail
    refine Q.out.mono ?_
    rintro e w1 ⟨rfl, hb⟩
    have B := Lib.hid hb
    clear hb
    simp only [rqV, Option.getD_none]
    go_wp2_with fail
    exact bodyPost_ret (v := .tuple #[.string (bs []), .int .i64 4]) (by simp [results, Tryd.results10, go_sem]; rfl) rfl (outu X.out rfl B.out)
  · have Q := Lib.hid (rq_any s w hs (some (t, n)) hr)
    have hz := rdq_size hr
    rw [toNat_bytes] at hz
    have hn0 : ((n : Int) == 0) = false := by simp; omega
    have htb := bs_size t
    have htl : (bs t).size ≤ 100000 := by omega
    by_cases h1 : n < s.size
    · have X := Lib.hid (hx.symm.trans (unq_more hr (by rw [toNat_bytes]; exact h1)))
      clear hx hr htb
      go_enter Tryd.func10, Tryd.ntmps10
      go_wp2_with fail
      refine Q.out.mono ?_
      rintro e w1 ⟨rfl, hb⟩
      have B := Lib.hid hb
      clear hb
      simp only [rqV, Option.getD_some]
      go_wp2_with fail
      exact bodyPost_ret (v := .tuple #[.string (bs []), .int .i64 4]) (by simp [results, Tryd.results10, go_sem]; rfl) rfl (outu X.out rfl B.out)
    · by_cases h2 : 60 < t.length
      · have X := Lib.hid (hx.symm.trans (unq_long hr (by rw [toNat_bytes]; exact h1) h2))
        have h3 : 60 < (bs t).size := by omega
        clear hx hr htb
        go_enter Tryd.func10, Tryd.ntmps10
        go_wp2_with fail
        refine Q.out.mono ?_
        rintro e w1 ⟨rfl, hb⟩
        have B := Lib.hid hb
        clear hb
        simp only [rqV, Option.getD_some]
        go_wp2_with fail
        exact bodyPost_ret (v := .tuple #[.string (bs []), .int .i64 3]) (by simp [results, Tryd.results10, go_sem]; rfl) rfl (outu X.out rfl B.out)
      · have X := Lib.hid (hx.symm.trans (unq_good hr (by rw [toNat_bytes]; exact h1) h2))
        have h3 : ¬ 60 < (bs t).size := by omega
        clear hx hr htb
        go_enter Tryd.func10, Tryd.ntmps10
        go_wp2_with fail
        refine Q.out.mono ?_
        rintro e w1 ⟨rfl, hb⟩
        have B := Lib.hid hb
        clear hb
        simp only [rqV, Option.getD_some]
        go_wp2_with fail
        exact bodyPost_ret (v := .tuple #[.string (bs t), .int .i64 0]) (by simp [results, Tryd.results10, go_sem]) rfl (outu X.out rfl B.out)

/-- How many bytes above 32 stand from this place on. -/
def tw (s : ByteArray) (p : Nat) : Nat := ((s.data.toList.drop p).takeWhile fun c => decide (32 < c.toNat)).length
theorem tw_end (s : ByteArray) (p : Nat) (h : s.size ≤ p) : tw s p = 0 := by unfold tw; rw [at_end s p h]; rfl
theorem tw_stop (s : ByteArray) (p : Nat) (h : p < s.size) (h2 : ¬ 32 < s[p].toNat) : tw s p = 0 := by
  unfold tw; rw [at_drop s p h, List.takeWhile_cons, if_neg (by simpa using h2)]; rfl
theorem tw_step (s : ByteArray) (p : Nat) (h : p < s.size) (h2 : 32 < s[p].toNat) : tw s p = 1 + tw s (p + 1) := by
  unfold tw; rw [at_drop s p h, List.takeWhile_cons, if_pos (by simpa using h2), List.length_cons]; omega
theorem tw_skip (s : ByteArray) (k : Nat) : ∀ p, p + k ≤ s.size → (∀ j (hj : p + j < s.size), j < k → 128 ≤ (s[p + j]'hj).toNat) → tw s p = k + tw s (p + k) := by
  induction k with
  | zero => intro p _ _; rw [Nat.zero_add]; rfl
  | succ k ih =>
    intro p h1 h2
    have h3 : 128 ≤ (s[p]'(by omega)).toNat := h2 0 (by omega) (by omega)
    rw [tw_step s p (by omega) (by omega), ih (p + 1) (by omega) (fun j hj hk => ?_), show p + 1 + k = p + (k + 1) by omega]
    · omega
    · have := h2 (j + 1) (by omega) (by omega)
      have e : p + (j + 1) = p + 1 + j := by omega
      simp only [e] at this
      exact this
theorem psz_tw (s : ByteArray) (h : s.data.toList.head? ≠ some 34) : psz s.data.toList = tw s 0 := by
  unfold psz tw; rw [if_neg h, List.drop_zero]
theorem psz_rdq {l : List UInt8} (h : l.head? = some 34) : psz l = ((rdq l).getD ([], 0)).2 := by unfold psz; rw [if_pos h]

/-- A number is handed back, and memory has only grown. -/
def OutN (n : Int) (w : World) (e : Ending) (w' : World) : Prop := e = .returned (.int .i64 n) ∧ Below w.heap.size w w'
theorem outn {n m : Int} {w w' : World} (h : m = n) (hb : Below w.heap.size w w') : OutN n w (.returned (.int .i64 m)) w' := by subst h; exact ⟨rfl, hb⟩

set_option maxHeartbeats 2000000 in
theorem psz_any (s : ByteArray) (w : World) (hs : s.size ≤ 100000) (n : Nat) (hn : psz s.data.toList = n) :
    Calls Tryd.prog 19 #[.string s] w (OutN (n : Int) w) := by
  by_cases h0 : 0 < s.size
  case neg =>
    obtain rfl := eq_empty s h0
    have X := Lib.hid (show n = 0 by rw [← hn]; rfl)
    have n1 : (bs []).toList = [] := by rw [Lib.toList_data]; rfl
    have n2 : (bs []).toList.isEmpty = true := by rw [n1]; rfl
    have n3 : (!(bs []).toList.isEmpty) = false := by rw [n2]; rfl
    clear hn h0
    go_enter Tryd.func19, Tryd.ntmps19
    go_wp2_with fail
    all_goals
      go_loopw [] (fun wr => wr.heap[w.heap.size]? = some (.stringIter (bs []) 0) ∧ Below w.heap.size w wr) (fun _ => 0)
      case atStart => exact ⟨World.iter_heap w (bs []) 0, (Below.refl _ _).alloc (Nat.le_refl _) _⟩
      case round =>
        obtain ⟨hit, hb⟩ := hrel
        have hnx : ∀ ty, (Instr.next (.pointer (some ⟨w.heap.size, 0, none⟩)) true ty).run Tryd.prog wr = _ := fun ty => Lib.run_next_end_at wr w.heap.size (bs []) 0 ty hit (by decide)
        have B := Lib.hid hb
        clear hit hb
        go_wp2_with fail
        go_ret
        exact outn (by rw [X.out]; rfl) B.out
  have n1 := ne_list s h0
  have n2 := ne_empty s h0
  by_cases hq : s[0].toNat = 34
  · have t34 : ((s[0].toNat : Int) == 34) = true := by simp; omega
    have X := Lib.hid (show n = ((rdq s.data.toList).getD ([], 0)).2 by
      rw [← hn]; refine psz_rdq ?_
      have := head_eq s 0 h0 hq
      rw [List.drop_zero] at this; exact this)
    have Q := Lib.hid (rq_any s w hs _ rfl)
    clear hn hq
    go_enter Tryd.func19, Tryd.ntmps19
    go_wp2_with fail
    refine Q.out.mono ?_
    rintro e w1 ⟨rfl, hb⟩
    have B := Lib.hid hb
    clear hb
    go_wp2_with fail
    go_ret
    exact outn (by rw [X.out]; rfl) B.out
  · have t34 : ((s[0].toNat : Int) == 34) = false := by simp; omega
    have X := Lib.hid (show n = 0 + tw s 0 by
      rw [← hn, Nat.zero_add]; refine psz_tw s ?_
      have := head_ne s 0 h0 hq
      rw [List.drop_zero] at this; exact this)
    clear hn hq
    go_enter Tryd.func19, Tryd.ntmps19
    go_wp2_with fail
    go_loopw [] (fun wr => ∃ (pos : Nat), pos ≤ s.size ∧ n = pos + tw s pos ∧ wr.heap[w.heap.size]? = some (.stringIter s pos) ∧ Below w.heap.size w wr) (fun wr => s.size - wr.iterPos w.heap.size)
    case atStart => exact ⟨0, Nat.zero_le _, X.out, World.iter_heap w s 0, (Below.refl _ _).alloc (Nat.le_refl _) _⟩
    case round =>
      obtain ⟨pos, h1, h2, hit, hb⟩ := hrel
      have hpos := iterPos_of hit
      by_cases hp : pos < s.size
      · have hnx : ∀ ty, (Instr.next (.pointer (some ⟨w.heap.size, 0, none⟩)) true ty).run Tryd.prog wr = _ := fun ty => Lib.run_next_any_at wr w.heap.size s pos ty hit hp
        have hd1 := decode_le s pos
        have hit2 := Lib.iterAt_heap wr w.heap.size s pos (pos + (Utf8.decode s pos).2) hit
        have hb2 := Lib.below_iterAt hb (Nat.le_refl _) s (pos + (Utf8.decode s pos).2)
        by_cases hc : 32 < (Utf8.decode s pos).1
        · have hst : pos + (Utf8.decode s pos).2 ≤ s.size ∧ 1 ≤ (Utf8.decode s pos).2 ∧ tw s pos = (Utf8.decode s pos).2 + tw s (pos + (Utf8.decode s pos).2) := by
            by_cases ha : s[pos].toNat < 128
            · have e := decode_ascii s pos hp ha
              rw [e] at hc ⊢
              exact ⟨hp, Nat.le_refl _, tw_step s pos hp hc⟩
            · have e := decode_fits s pos hp (by omega)
              exact ⟨e.1, (decode_high s pos hp (by omega)).2, tw_skip s _ pos e.1 e.2⟩
          obtain ⟨W1, hW1⟩ : ∃ W1, W1 = wr.iterAt w.heap.size s (pos + (Utf8.decode s pos).2) := ⟨_, rfl⟩
          rw [← hW1] at hnx hit2 hb2
          have H2 := Lib.hid h2
          have B2 := Lib.hid hb2
          have I2 := Lib.hid hit2
          have hm2 := iterPos_of hit2
          generalize (Utf8.decode s pos).1 = cc at *
          generalize (Utf8.decode s pos).2 = kk at *
          obtain ⟨g1, g2, g3⟩ := hst
          have G3 := Lib.hid g3
          clear h2 hit hb hW1 hb2 hit2 X g3
          go_wp2_with fail
          go_roundw
          case rel => exact ⟨pos + kk, g1, by rw [H2.out, G3.out]; omega, I2.out, B2.out⟩
          case measure => rw [hm2, hpos]; omega
        · have hst : tw s pos = 0 := by
            by_cases ha : s[pos].toNat < 128
            · have e := decode_ascii s pos hp ha
              rw [e] at hc
              exact tw_stop s pos hp hc
            · have e := (decode_high s pos hp (by omega)).1
              omega
          obtain ⟨W1, hW1⟩ : ∃ W1, W1 = wr.iterAt w.heap.size s (pos + (Utf8.decode s pos).2) := ⟨_, rfl⟩
          rw [← hW1] at hnx hit2 hb2
          have H2 := Lib.hid h2
          have B2 := Lib.hid hb2
          have G3 := Lib.hid hst
          generalize (Utf8.decode s pos).1 = cc at *
          clear h2 hit hb hW1 hb2 hit2 X hst
          go_wp2_with fail
          go_ret
          exact outn (by rw [H2.out, G3.out]; rfl) B2.out
      · have hnx : ∀ ty, (Instr.next (.pointer (some ⟨w.heap.size, 0, none⟩)) true ty).run Tryd.prog wr = _ := fun ty => Lib.run_next_end_at wr w.heap.size s pos ty hit hp
        have H2 := Lib.hid (show n = s.size by rw [h2, tw_end s pos (by omega)]; omega)
        have B := Lib.hid hb
        clear h2 hit hb X
        go_wp2_with fail
        go_ret
        exact outn (by rw [H2.out]) B.out
end Go.Proofs.YtmildkjkppnblaaDoor
