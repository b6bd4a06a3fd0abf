/- Contracts of Valid of names. -/
import Derived.Test.YtmildkjkppnblaaDoorNF
set_option linter.unusedVariables false
namespace Go.Proofs.YtmildkjkppnblaaDoor
open Go.RowKit

def letB (n : Nat) : Bool := decide (97 ≤ n ∧ n ≤ 122)
def ltrB (n : Nat) : Bool := decide ((48 ≤ n ∧ n ≤ 57) ∨ n = 95 ∨ n = 45)
theorem nmB_eq (i : Nat) (c : UInt8) : nmB i c = (letB c.toNat || (decide (i ≠ 0) && ltrB c.toNat)) := rfl
theorem nmF_cons (i : Nat) (c : UInt8) (r : List UInt8) : nmF i (c :: r) = (nmB i c && nmF (i + 1) r) := rfl
theorem nmF_nil (i : Nat) : nmF i [] = true := rfl

set_option maxHeartbeats 400000 in
theorem letter_any (n : Nat) (w : World) :
    Calls Tryd.prog 21 #[.int .i32 (n : Int)] w fun e w' => e = .returned (.bool (letB n)) ∧ w = w' := by
  by_cases h1 : 97 ≤ n
  · by_cases h2 : n ≤ 122
    · have E := Lib.hid (show letB n = true from decide_eq_true ⟨h1, h2⟩)
      have d1 : decide ((n : Int) ≤ 122) = true := decide_eq_true (by omega)
      go_enter Tryd.func21, Tryd.ntmps21
      go_wp2_with fail
      go_ret
      exact ⟨ret_bool E.out.symm, rfl⟩
    · have E := Lib.hid (show letB n = false from decide_eq_false (by omega))
      have d1 : decide ((n : Int) ≤ 122) = false := decide_eq_false (by omega)
      go_enter Tryd.func21, Tryd.ntmps21
      go_wp2_with fail
      go_ret
      exact ⟨ret_bool E.out.symm, rfl⟩
  · have E := Lib.hid (show letB n = false from decide_eq_false (by omega))
    go_enter Tryd.func21, Tryd.ntmps21
    go_wp2_with fail
    go_ret
    exact ⟨ret_bool E.out.symm, rfl⟩

set_option maxHeartbeats 400000 in
theorem later_any (n : Nat) (w : World) :
    Calls Tryd.prog 22 #[.int .i32 (n : Int)] w fun e w' => e = .returned (.bool (ltrB n)) ∧ w = w' := by
  by_cases h1 : 48 ≤ n ∧ n ≤ 57
  · have E := Lib.hid (show ltrB n = true from decide_eq_true (Or.inl h1))
    obtain ⟨h1, h2⟩ := h1
    go_enter Tryd.func22, Tryd.ntmps22
    go_wp2_with fail
    go_ret
    exact ⟨ret_bool E.out.symm, rfl⟩
  · have t0 : (decide (48 ≤ n) && decide (n ≤ 57)) = false := by simp; omega
    by_cases h95 : n = 95
    · have E := Lib.hid (show ltrB n = true from decide_eq_true (Or.inr (Or.inl h95)))
      have g1 : 48 ≤ n := by omega
      have g2 : ¬ n ≤ 57 := by omega
      have t1 : ((n : Int) == 95) = true := by simp; omega
      clear h95 h1
      go_enter Tryd.func22, Tryd.ntmps22
      go_wp2_with fail
      go_ret
      exact ⟨ret_bool E.out.symm, rfl⟩
    · have t1 : ((n : Int) == 95) = false := by simp; omega
      by_cases h45 : n = 45
      · have E := Lib.hid (show ltrB n = true from decide_eq_true (Or.inr (Or.inr h45)))
        have g1 : ¬ 48 ≤ n := by omega
        have t2 : ((n : Int) == 45) = true := by simp; omega
        clear h45 h1 h95
        go_enter Tryd.func22, Tryd.ntmps22
        go_wp2_with fail
        go_ret
        exact ⟨ret_bool E.out.symm, rfl⟩
      · have t2 : ((n : Int) == 45) = false := by simp; omega
        have E := Lib.hid (show ltrB n = false from decide_eq_false (by omega))
        by_cases g1 : 48 ≤ n
        · have g2 : decide ((n : Int) ≤ 57) = false := decide_eq_false (by omega)
          clear h45 h1 h95
          go_enter Tryd.func22, Tryd.ntmps22
          go_wp2_with fail
          go_ret
          exact ⟨ret_bool E.out.symm, rfl⟩
        · clear h45 h1 h95
          go_enter Tryd.func22, Tryd.ntmps22
          go_wp2_with fail
          go_ret
          exact ⟨ret_bool E.out.symm, rfl⟩

/-- A bool is handed back, and memory has only grown. -/
def OutBool (b : Bool) (w : World) (e : Ending) (w' : World) : Prop := e = .returned (.bool b) ∧ Below w.heap.size w w'
theorem outb {b c : Bool} {w w' : World} (h : b = c) (hb : Below w.heap.size w w') : OutBool b w (.returned (.bool c)) w' := by subst h; exact ⟨rfl, hb⟩
theorem nm_empty {l : List UInt8} (h : ¬ 0 < l.length) : nm l = false := by
  unfold nm; rw [decide_eq_false (by omega)]; rfl
theorem nm_long {l : List UInt8} (h : 24 < l.length) : nm l = false := by
  unfold nm; rw [decide_eq_false (by omega)]; rfl
theorem nm_go {l : List UInt8} (h : 0 < l.length) (h2 : ¬ 24 < l.length) : nm l = nmF 0 l := by
  unfold nm; rw [decide_eq_true (by omega)]; rfl

set_option maxHeartbeats 2000000 in
theorem valid_any (s : ByteArray) (w : World) (hs : s.size ≤ 9223372036854775807) (b : Bool) (hbb : nm s.data.toList = b) :
    Calls Tryd.prog 17 #[.string s] w (OutBool b w) := by
  have hl := toNat_bytes s
  by_cases h0 : 0 < s.size
  case neg =>
    obtain rfl := eq_empty s h0
    have X := Lib.hid (show b = false by rw [← hbb]; rfl)
    have n1 : (bs []).toList = [] := by rw [Lib.toList_data]; rfl
    have n2 : (bs []).toList.isEmpty = true := by rw [n1]; rfl
    clear hbb h0 hl
    go_enter Tryd.func17, Tryd.ntmps17
    go_wp2_with fail
    go_ret
    exact outb X.out (Below.refl _ _)
  have n1 := ne_list s h0
  have n2 := ne_empty s h0
  by_cases h24 : 24 < s.size
  · have X := Lib.hid (show b = false by rw [← hbb]; exact nm_long (by omega))
    clear hbb hl
    go_enter Tryd.func17, Tryd.ntmps17
    go_wp2_with fail
    go_ret
    exact outb X.out (Below.refl _ _)
  have X := Lib.hid (show b = nmF 0 (s.data.toList.drop 0) by rw [← hbb, List.drop_zero]; exact nm_go (by omega) (by omega))
  clear hbb hl
  go_enter Tryd.func17, Tryd.ntmps17
  go_wp2_with fail
  go_loopw [] (fun wr => ∃ (pos : Nat), pos ≤ s.size ∧ b = nmF pos (s.data.toList.drop pos) ∧ wr.heap[w.heap.size]? = some (.stringIter s pos) ∧ Below w.heap.size w wr) (fun wr => s.size - wr.iterPos w.heap.size)
  case atStart => exact ⟨0, Nat.zero_le _, X.out, World.iter_heap w s 0, (Below.refl _ _).alloc (Nat.le_refl _) _⟩
  case round =>
    obtain ⟨pos, h1, h2, hit, hb⟩ := hrel
    have hpos := iterPos_of hit
    by_cases hp : pos < s.size
    · have hnx : ∀ ty, (Instr.next (.pointer (some ⟨w.heap.size, 0, none⟩)) true ty).run Tryd.prog wr = _ := fun ty => Lib.run_next_any_at wr w.heap.size s pos ty hit hp
      have hd1 := decode_le s pos
      have hit2 := Lib.iterAt_heap wr w.heap.size s pos (pos + (Utf8.decode s pos).2) hit
      have hb2 := Lib.below_iterAt hb (Nat.le_refl _) s (pos + (Utf8.decode s pos).2)
      rw [at_drop s pos hp, nmF_cons, nmB_eq] at h2
      have hcc : (letB s[pos].toNat = letB (Utf8.decode s pos).1 ∧ ltrB s[pos].toNat = ltrB (Utf8.decode s pos).1) ∧ ((letB (Utf8.decode s pos).1 || ltrB (Utf8.decode s pos).1) = true → (Utf8.decode s pos).2 = 1) := by
        by_cases ha : s[pos].toNat < 128
        · rw [decode_ascii s pos hp ha]; exact ⟨⟨rfl, rfl⟩, fun _ => rfl⟩
        · have e := (decode_high s pos hp (by omega)).1
          have e1 : letB (Utf8.decode s pos).1 = false := decide_eq_false (by omega)
          have e2 : ltrB (Utf8.decode s pos).1 = false := decide_eq_false (by omega)
          refine ⟨⟨?_, ?_⟩, fun h => ?_⟩
          · rw [e1]; exact decide_eq_false (by omega)
          · rw [e2]; exact decide_eq_false (by omega)
          · rw [e1, e2] at h; cases h
      obtain ⟨⟨c1, c2⟩, c3⟩ := hcc
      rw [c1, c2] at h2
      obtain ⟨W1, hW1⟩ : ∃ W1, W1 = wr.iterAt w.heap.size s (pos + (Utf8.decode s pos).2) := ⟨_, rfl⟩
      rw [← hW1] at hnx hit2 hb2
      have B2 := Lib.hid hb2
      have I2 := Lib.hid hit2
      have hm2 := iterPos_of hit2
      generalize (Utf8.decode s pos).1 = cc at *
      generalize (Utf8.decode s pos).2 = kk at *
      have L1 := Lib.hid (letter_any cc)
      have L2 := Lib.hid (later_any cc)
      rcases hl1 : letB cc with _ | _
      · rw [hl1] at L1 h2 c3
        by_cases hz : pos = 0
        · have X2 := Lib.hid (show b = false by rw [h2, hz]; rfl)
          have hz1 : ((pos : Int) == 0) = true := by simp; omega
          clear h2 hit hb hW1 hb2 hit2 X c1 c2 c3 hl1 hz
          go_wp2_with fail
          refine (L1.out _).mono ?_
          rintro e w' ⟨rfl, rfl⟩
          go_wp2_with fail
          go_ret
          exact outb X2.out B2.out
        · have hz1 : ((pos : Int) == 0) = false := by simp; omega
          rw [decide_eq_true hz] at h2
          rcases hl2 : ltrB cc with _ | _
          · rw [hl2] at L2 h2
            have X2 := Lib.hid (show b = false by rw [h2]; rfl)
            clear h2 hit hb hW1 hb2 hit2 X c1 c2 c3 hl1 hl2 hz
            go_wp2_with fail
            refine (L1.out _).mono ?_
            rintro e w' ⟨rfl, rfl⟩
            go_wp2_with fail
            refine (L2.out _).mono ?_
            rintro e w' ⟨rfl, rfl⟩
            go_wp2_with fail
            go_ret
            exact outb X2.out B2.out
          · rw [hl2] at L2 h2 c3
            obtain rfl := c3 rfl
            have X2 := Lib.hid (show b = nmF (pos + 1) (s.data.toList.drop (pos + 1)) by rw [h2]; rfl)
            clear h2 hit hb hW1 hb2 hit2 X c1 c2 c3 hl1 hl2 hz
            go_wp2_with fail
            refine (L1.out _).mono ?_
            rintro e w' ⟨rfl, rfl⟩
            go_wp2_with fail
            refine (L2.out _).mono ?_
            rintro e w' ⟨rfl, rfl⟩
            go_wp2_with fail
            go_roundw
            case rel => exact ⟨pos + 1, hp, X2.out, I2.out, B2.out⟩
            case measure => rw [hm2, hpos]; omega
      · rw [hl1] at L1 h2 c3
        obtain rfl := c3 rfl
        have X2 := Lib.hid (show b = nmF (pos + 1) (s.data.toList.drop (pos + 1)) by rw [h2]; rfl)
        clear h2 hit hb hW1 hb2 hit2 X c1 c2 c3 hl1
        go_wp2_with fail
        refine (L1.out _).mono ?_
        rintro e w' ⟨rfl, rfl⟩
        go_wp2_with fail
        go_roundw
        case rel => exact ⟨pos + 1, hp, X2.out, I2.out, B2.out⟩
        case measure => rw [hm2, hpos]; omega
    · have hnx : ∀ ty, (Instr.next (.pointer (some ⟨w.heap.size, 0, none⟩)) true ty).run Tryd.prog wr = _ := fun ty => Lib.run_next_end_at wr w.heap.size s pos ty hit hp
      have X2 := Lib.hid (show b = true by rw [h2, at_end s pos (by omega)]; rfl)
      have B := Lib.hid hb
      clear h2 hit hb X
      go_wp2_with fail
      go_ret
      exact outb X2.out B.out

end Go.Proofs.YtmildkjkppnblaaDoor
