/- Lists of numbers in memory; contracts of the small functions of series. -/
import Derived.Test.YtekcknpgpfeijaaKD
import Derived.Test.YtekcknpgpfeijaaEPlain
import Derived.Lib.Walk
import Derived.Lib.SliceRun
import Derived.Lib.AppendZerosOnto
set_option linter.unusedVariables false
namespace Go.Proofs.Ytekcknpgpfeijaa.Series
open Go.RowKit

/-- The slice with this address reads as these numbers. -/
def NsAt (w : World) (B : Nat) (A : Option Addr) (l : List Int) : Prop :=
  ∀ i (hi : i < l.length), ∃ b p, A = some ⟨b, p, none⟩ ∧ b < B ∧ w.cell? ⟨b, p + i, none⟩ = some (.int .i64 l[i])
theorem NsAt.below {w w' : World} {B : Nat} {A : Option Addr} {l : List Int} (h : NsAt w B A l) (hb : Below B w w') : NsAt w' B A l := fun i hi => by
  obtain ⟨b, p, h1, h2, h3⟩ := h i hi
  exact ⟨b, p, h1, h2, (hb.cell (p := ⟨b, p + i, none⟩) h2).trans h3⟩
theorem NsAt.mono {w : World} {B B' : Nat} {A : Option Addr} {l : List Int} (h : NsAt w B A l) (hB : B ≤ B') : NsAt w B' A l := fun i hi => by
  obtain ⟨b, p, h1, h2, h3⟩ := h i hi
  exact ⟨b, p, h1, by omega, h3⟩
theorem NsAt.next {w w' : World} {A : Option Addr} {l : List Int} (h : NsAt w w.heap.size A l) (hb : Below w.heap.size w w') : NsAt w' w'.heap.size A l := (h.below hb).mono hb.size
theorem NsAt.nil (w : World) (B : Nat) (A : Option Addr) : NsAt w B A [] := fun i h => absurd h (by simp)
theorem NsAt.none {w : World} {B : Nat} {A : Option Addr} {l : List Int} (h : NsAt w B A l) (hA : A = Option.none) : l = [] := by
  cases l with
  | nil => rfl
  | cons x r => obtain ⟨b, p, h1, _⟩ := h 0 (by simp); rw [hA] at h1; cases h1
/-- A row of numbers of the call's own. -/
abbrev OwnN (w : World) (B : Nat) (v : Value) (l : List Int) : Prop := w.ownsRow B 3 1 v l.length (l.map (Value.int .i64))
theorem info_int : ∃ i, Try.prog.info? 3 = some i ∧ i.zero = some (.int .i64 0) ∧ i.size = 1 ∧ i.bytes = 8 :=
  info_get (show (Try.prog.info? 3).map (fun i => (i.zero, i.size, i.bytes)) = some (some (.int .i64 0), 1, 8) by kernel_rfl)
theorem infoI : (Try.prog.info? 3).map (fun i => (i.zero, i.size, i.bytes)) = some (some (.int .i64 0), 1, 8) := by kernel_rfl
theorem own_ns {w : World} {B : Nat} {v : Value} {l : List Int} (h : OwnN w B v l) : ∃ A c, v = .slice A l.length c ∧ NsAt w w.heap.size A l := by
  rcases h.2 with ⟨h1, h2⟩ | ⟨g, cap, cur, h1, h2, h3, _⟩
  · obtain rfl := List.eq_nil_of_length_eq_zero h2
    exact ⟨none, 0, h1, NsAt.nil _ _ _⟩
  · subst h1
    refine ⟨_, _, rfl, fun i hi => ?_⟩
    have c0 := h.cellAt i (by simpa using hi)
    exact ⟨g, 0, rfl, (Array.getElem?_eq_some_iff.1 h3).1, by rw [Nat.zero_add, c0]; simp [hi]⟩
/-- One number more behind a row of the call's own. -/
theorem app_one {w : World} {B : Nat} {v : Value} {l : List Int} (x : Int) (ty : TypeId) (hv : OwnN w B v l) (hn : l.length ≤ 1000000) (hB : B ≤ w.heap.size) :
    ∃ v' w', (Builtin.append_ #[22, 22] ty #[v, .slice (some ⟨w.heap.size, 0, none⟩) 1 1]).run Try.prog (w.alloc (.cells #[.int .i64 x] 3)) = .ok v' w' ∧ OwnN w' B v' (l ++ [x]) ∧ Below B w w' := by
  obtain ⟨i0, hi0, hz0, hs0, hb0⟩ := info_int
  obtain ⟨v', w', h5, h6, h7, _⟩ := run_append_own (P := Try.prog) (w.alloc (.cells #[.int .i64 x] 3)) B 22 ty 3 i0 (.int .i64 0) 1 8 Try.underlying22 hi0 hz0 hs0 hb0 rfl (by decide) v _ _ (hv.alloc _) ⟨w.heap.size, 0, none⟩ 1 1 [.int .i64 x] rfl
    (by intro j u hu; cases j with | zero => simp at hu; subst hu; simp [Addr.add] | succ j => simp at hu) (by intro u hu; simp at hu; subst hu; rfl) (by unfold maxLen; omega) (by omega) (Nat.le_trans hB (by simp))
  refine ⟨v', w', h5, ?_, ((Below.refl B w).alloc hB _).grown h7 (Nat.le_trans hB (by simp)) (fun q hq => (hv.lt q hq).1)⟩
  unfold OwnN; rw [List.length_append, List.map_append]; exact h6
/-- A list is handed back. -/
def OutL (w : World) (l : List Int) (e : Ending) (w' : World) : Prop := ∃ A c, e = .returned (.slice A l.length c) ∧ NsAt w' w'.heap.size A l ∧ Below w.heap.size w w'
theorem outL {w w' : World} {l k : List Int} {A : Option Addr} {n c : Nat} (h : l = k) (hn : n = l.length) (ho : NsAt w' w'.heap.size A k) (hb : Below w.heap.size w w') : OutL w l (.returned (.slice A n c)) w' := by subst h hn; exact ⟨A, c, rfl, ho, hb⟩
theorem outL_own {w w' : World} {l k : List Int} {v : Value} {B : Nat} (h : l = k) (ho : OwnN w' B v k) (hb : Below w.heap.size w w') : OutL w l (.returned v) w' := by
  subst h
  obtain ⟨A, c, rfl, h⟩ := own_ns ho
  exact ⟨A, c, rfl, h, hb⟩
/-- A row of its own, its content by the index. -/
abbrev RowN (w : World) (g n : Nat) (f : Nat → Int) : Prop := w.rowIs g 3 n (fun i => .int .i64 (f i))
theorem row_ns {w : World} {g n : Nat} {f : Nat → Int} (h : RowN w g n f) : NsAt w w.heap.size (some ⟨g, 0, none⟩) ((List.range n).map f) := fun i hi => by
  have hin : i < n := by simpa using hi
  exact ⟨g, 0, rfl, h.lt, by rw [Nat.zero_add, h.cell hin]; simp⟩
theorem RowN.put {w : World} {g n : Nat} {f : Nat → Int} (h : RowN w g n f) (k : Nat) (x : Int) : RowN (w.setCell ⟨g, k, none⟩ (.int .i64 x)) g n (fun i => if i = k then x else f i) :=
  (h.set k (.int .i64 x)).congr fun i hi => by show _ = Value.int .i64 (if i = k then x else f i); split <;> rfl
theorem RowN.same {w : World} {g n : Nat} {f f' : Nat → Int} (h : RowN w g n f) (e : ∀ i : Nat, i < n → f i = f' i) : RowN w g n f' := World.rowIs.congr h fun i hi => by rw [e i hi]
theorem RowN.below {w w' : World} {g n B : Nat} {f : Nat → Int} (h : RowN w g n f) (hb : Below B w w') (hg : g < B) : RowN w' g n f := World.rowIs.of_block h (hb.block g hg)
theorem make_nums (w : World) (n : Nat) (hn : n ≤ 1000000) : ∃ w', (Instr.makeSlice 22 (.int .i64 (n : Int)) (.int .i64 (n : Int))).run Try.prog w = .ok (.slice (some ⟨w.heap.size, 0, none⟩) n n) w' ∧ RowN w' w.heap.size n (fun _ => 0) ∧ w' = w.alloc (.cells (madeCells #[.int .i64 0] n) 3) :=
  ⟨_, run_make_row' 22 3 (.int .i64 0) 8 Try.underlying22 infoI rfl .i64 .i64 n (by first | omega | (unfold maxLen; omega)) (by first | omega | (unfold maxLen; omega)) w, World.rowIs_made w _ _ _, rfl⟩

set_option maxHeartbeats 400000 in
theorem len_any (A : Option Addr) (c : Nat) (l : List Int) (w : World) (hl : l.length ≤ 9223372036854775807) :
    Calls Try.prog 32 #[.slice A l.length c] w fun e w' => e = .returned (.int .i64 (ln l : Int)) ∧ w = w' := by
  by_cases h : l.length ≤ 96
  · have E := Lib.hid (show (l.length : Int) = (ln l : Int) by rw [ln_short h])
    go_enter Try.func32, Try.ntmps32
    go_wp2_with fail
    go_ret
    exact ⟨ret_int E.out, rfl⟩
  · have E := Lib.hid (show (0 : Int) = (ln l : Int) by unfold ln; rw [if_neg h]; rfl)
    go_enter Try.func32, Try.ntmps32
    go_wp2_with fail
    go_ret
    exact ⟨ret_int E.out, rfl⟩

set_option maxHeartbeats 400000 in
theorem at_any (A : Option Addr) (c : Nat) (l : List Int) (i : Int) (w : World) (hl : l.length ≤ 9223372036854775807) (hA : NsAt w w.heap.size A l) :
    Calls Try.prog 14 #[.slice A l.length c, .int .i64 i] w fun e w' => e = .returned (.int .i64 (atL (rd l) i)) ∧ w = w' := by
  by_cases h1 : i < 0
  · have E := Lib.hid (atL_neg (rd l) i h1).symm
    go_enter Try.func14, Try.ntmps14
    go_wp2_with fail
    go_ret
    exact ⟨ret_int E.out, rfl⟩
  · have L := ln_le l
    by_cases h2 : i < ln l
    · obtain ⟨k, rfl⟩ : ∃ k : Nat, i = k := ⟨i.toNat, by omega⟩
      obtain ⟨b, p, rfl, g1, g2⟩ := hA k (by omega)
      have E := Lib.hid (rd_get l k (by omega) (by omega)).symm
      have d1 := df h1
      have d2 := df (show ¬ (ln l : Int) ≤ (k : Int) by omega)
      generalize l[k] = x at *
      clear hA
      go_enter Try.func14, Try.ntmps14
      go_wp2_with (first
        | (go_at_call 32; refine (len_any _ _ l _ hl).mono ?_; rintro e w' ⟨rfl, rfl⟩)
        | (go_at_call 33; refine (nsat_any _ _).mono ?_; rintro e w' ⟨rfl, rfl⟩))
      go_ret
      exact ⟨ret_int E.out, rfl⟩
    · have E := Lib.hid (atL_out (rd l) i (by rw [rd_length]; omega)).symm
      have d1 := df h1
      have d2 := dt (show (ln l : Int) ≤ i by omega)
      clear hA
      go_enter Try.func14, Try.ntmps14
      go_wp2_with (go_at_call 32; refine (len_any _ _ l _ hl).mono ?_; rintro e w' ⟨rfl, rfl⟩)
      go_ret
      exact ⟨ret_int E.out, rfl⟩

set_option maxRecDepth 100000 in
set_option maxHeartbeats 1000000 in
theorem sum_any (A : Option Addr) (c : Nat) (l : List Int) (f t : Int) (w : World) (hl : l.length ≤ 9223372036854775807) (hf : I64 f) (ht : I64 t) (hA : NsAt w w.heap.size A l) :
    Calls Try.prog 16 #[.slice A l.length c, .int .i64 f, .int .i64 t] w fun e w' => e = .returned (.int .i64 (sat (psum (rd l) f t))) ∧ w = w' := by
  have HL := Lib.hid (fun w => len_any A c l w hl)
  have HT := Lib.hid (fun i => at_any A c l i w hl hA)
  have L := ln_le l
  have RL := rd_length l
  have LIM := lim_rd l
  have R96 := rd_len l
  obtain ⟨n, hn⟩ : ∃ n, n = ln l := ⟨_, rfl⟩
  rw [← hn] at L RL HL
  generalize rd l = m at *
  unfold I64 at hf ht
  clear hA hn
  go_enter Try.func16, Try.ntmps16
  go_wp2_with fail
  go_loop [7, 8] (fun s i => ∃ k : Nat, i = .int .i64 (k : Int) ∧ s = .int .i64 (P m k - P m f.toNat) ∧ f.toNat ≤ k ∧ ((k : Int) ≤ max f 0 ∨ (k : Int) ≤ t) ∧ ((k : Int) ≤ max f 0 ∨ k ≤ m.length)) (fun _ i => n - (intOf i).toNat)
  case atStart => exact ⟨f.toNat, val_int (by omega), val_int (by omega), Nat.le_refl _, by omega, by omega⟩
  case round =>
    obtain ⟨k, rfl, rfl, h1, h2, h3⟩ := hrel
    have b1 := P_lim LIM R96 k
    have b2 := P_lim LIM R96 f.toNat
    have b3 := P_at m k
    have b4 := lim_at LIM k
    by_cases hk : (k : Int) < min t (n : Int)
    · have E := Lib.hid (show P m k - P m f.toNat + atL m k = P m (k + 1) - P m f.toNat by omega)
      have d := dt hk
      clear b3
      go_wp2_with (first
        | (go_at_call 32; refine (HL.out _).mono ?_; rintro e w' ⟨rfl, rfl⟩)
        | (go_at_call 14; refine (HT.out _).mono ?_; rintro e w' ⟨rfl, rfl⟩))
      all_goals go_round
      case rel => exact ⟨k + 1, by go_num, val_int E.out, by omega, by omega, by omega⟩
      case measure => simp [intOf]; omega
    · have E := Lib.hid (psum_loop m f t k (by omega) (by omega) h2 h3)
      have d := df hk
      clear b3
      go_wp2_with (first
        | (go_at_call 32; refine (HL.out _).mono ?_; rintro e w' ⟨rfl, rfl⟩)
        | (go_at_call 33; refine (nsat_any _ _).mono ?_; rintro e w' ⟨rfl, rfl⟩))
      all_goals
        go_ret
        exact ⟨ret_int (by rw [E.out]), rfl⟩
end Go.Proofs.Ytekcknpgpfeijaa.Series
