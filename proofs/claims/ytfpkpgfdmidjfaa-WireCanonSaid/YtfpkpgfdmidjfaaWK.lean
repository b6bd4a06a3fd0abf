/- The contract of awake. -/
import Derived.Test.YtfpkpgfdmidjfaaWJ
set_option linter.unusedVariables false
namespace Go.Proofs.Ytfpkpgfdmidjfaa
open Go.RowKit

theorem k_int (n : Int) (t : ByteArray) (hn : I64 n) (ht : bs (enI n) = t) (w : World) :
    Calls Try.prog 11 #[.int .i64 n] w fun e w' => e = .returned (.string t) ∧ Below w.heap.size w w' :=
  (int_any n w hn).mono fun _ _ ⟨h1, h2⟩ => ⟨by rw [h1, ht], h2⟩
theorem k_read (b : Nat) (s t : ByteArray) (v : Int) (hs : s.size ≤ 100000) (hv : fInt s = (v, t, 0)) (w : World) (h : PB w b s 0 true) :
    Calls Try.prog 26 #[pt b] w (Out b w (.int .i64 v) t 0) := by
  have := live_int b s w hs h
  rw [hv] at this; exact this

def a0 : ByteArray := ⟨#[128, 1, 4, 97, 98, 1, 7]⟩
def a1 : ByteArray := ⟨#[4, 97, 98, 1, 7]⟩
def a2 : ByteArray := ⟨#[1, 7]⟩
def a3 : ByteArray := ⟨#[7]⟩

theorem two_cells (w : World) (x y : Value) (T : TypeId) : (w.alloc (Obj.cells #[x, y] T)).cell? ⟨w.heap.size, 0 + 0, none⟩ = some x ∧ (w.alloc (Obj.cells #[x, y] T)).cell? ⟨w.heap.size, 0 + 1, none⟩ = some y := by
  constructor <;> rw [World.cell?_alloc_new] <;> rfl

theorem k_ints (w : World) :
    Calls Try.prog 15 #[.slice (some ⟨w.heap.size, 0, none⟩) 2 2] (w.alloc (Obj.cells #[.int .i64 1, .int .i64 (-1)] 3)) fun e w' => e = .returned (.string ⟨#[4, 2, 1]⟩) ∧ Below w.heap.size w w' := by
  have h := ints_any (some ⟨w.heap.size, 0, none⟩) 2 [1, -1] (w.alloc (Obj.cells #[.int .i64 1, .int .i64 (-1)] 3)) (by decide) (by intro n hn; simp at hn; unfold I64; omega)
    (fun _ => ⟨w.heap.size, 0, rfl, by simp, fun i hi => by
      obtain ⟨h0, h1⟩ := two_cells w (.int .i64 1) (.int .i64 (-1)) 3
      match i, hi with
      | 0, _ => exact h0
      | 1, _ => exact h1⟩)
  refine Calls.mono h fun e w' h2 => ?_
  obtain ⟨he, hb⟩ := h2
  exact ⟨by rw [he, show bs (enL [1, -1]) = ⟨#[4, 2, 1]⟩ by decide +kernel], ((Below.refl _ _).alloc (Nat.le_refl _) _).trans (hb.mono (by simp))⟩

set_option maxRecDepth 100000 in
set_option maxHeartbeats 4000000 in
theorem awake_any (w : World) :
    Calls Try.prog 10 #[] w fun e w' => e = .returned (.bool true) ∧ Below w.heap.size w w' := by
  go_enter Try.func10, Try.ntmps10
  go_wp2_with fail
  refine (k_int 0 ⟨#[0]⟩ (by unfold I64; omega) (by decide +kernel) _).mono ?_
  rintro r w1 ⟨rfl, b1⟩
  go_wp2_with fail
  refine (k_int 63 ⟨#[126]⟩ (by unfold I64; omega) (by decide +kernel) _).mono ?_
  rintro r w2 ⟨rfl, b2⟩
  go_wp2_with fail
  refine (k_int 64 ⟨#[128, 1]⟩ (by unfold I64; omega) (by decide +kernel) _).mono ?_
  rintro r w3 ⟨rfl, b3⟩
  go_wp2_with fail
  refine (k_int (-1) ⟨#[1]⟩ (by unfold I64; omega) (by decide +kernel) _).mono ?_
  rintro r w4 ⟨rfl, b4⟩
  go_wp2_with fail
  have ht := text_any ⟨#[97, 98]⟩ w4 (by decide)
  rw [show bs (enT ⟨#[97, 98]⟩) = ⟨#[4, 97, 98]⟩ by decide +kernel] at ht
  refine ht.mono ?_
  clear ht
  rintro r w5 ⟨rfl, b5⟩
  go_wp2_with fail
  refine (k_ints w5).mono ?_
  rintro r w6 ⟨rfl, b6⟩
  go_wp2_with fail
  have hb := bool_any true w6
  rw [show bs (enB true) = ⟨#[1]⟩ from rfl] at hb
  refine hb.mono ?_
  clear hb
  rintro r w6' ⟨rfl, rfl⟩
  have B6 := Lib.hid (show Below w.heap.size w w6 from
    (((((b1.trans (b2.mono b1.size)).trans (b3.mono (Nat.le_trans b1.size b2.size))).trans (b4.mono (Nat.le_trans (Nat.le_trans b1.size b2.size) b3.size))).trans
      (b5.mono (Nat.le_trans (Nat.le_trans (Nat.le_trans b1.size b2.size) b3.size) b4.size))).trans (b6.mono (Nat.le_trans (Nat.le_trans (Nat.le_trans (Nat.le_trans b1.size b2.size) b3.size) b4.size) b5.size))))
  clear b1 b2 b3 b4 b5 b6
  go_wp2_with fail
  refine (new_any a0 w6).mono ?_
  rintro r w7 ⟨rfl, hp, hb⟩
  have hw6 := B6.out.size
  obtain ⟨b, hbb⟩ : ∃ b, w6.heap.size = b := ⟨_, rfl⟩
  have B7 := Lib.hid (B6.out.trans (hb.mono hw6))
  rw [hbb] at hp hw6 ⊢
  have P0 := Lib.hid hp
  clear hp hb B6 hbb
  go_wp2_with fail
  refine (k_read b a0 a1 64 (by decide) (by decide +kernel) _ P0.out).mono ?_
  rintro r w8 ⟨rfl, hp, hg⟩
  have P1 := Lib.hid hp
  have B8 := Lib.hid (B7.out.grown hg B7.out.size (fun k hk => by cases hk; exact hw6))
  clear hp hg
  go_wp2_with fail
  have hx := live_text b 2 a1 w8 (by decide) (by omega) P1.out
  rw [show fText 2 a1 = (⟨#[97, 98]⟩, a2, 0) by decide +kernel] at hx
  refine hx.mono ?_
  clear hx
  rintro r w9 ⟨rfl, hp, hg⟩
  have P2 := Lib.hid hp
  have B9 := Lib.hid (B8.out.grown hg B8.out.size (fun k hk => by cases hk; exact hw6))
  clear hp hg
  go_wp2_with fail
  have hx := live_bool b a2 w9 (by decide) P2.out
  rw [show fBool a2 = (true, a3, 0) by decide +kernel] at hx
  refine hx.mono ?_
  clear hx
  rintro r w10 ⟨rfl, hp, hg⟩
  have P3 := Lib.hid hp
  have B10 := Lib.hid (B9.out.grown hg B9.out.size (fun k hk => by cases hk; exact hw6))
  clear hp hg
  go_wp2_with fail
  have hx := live_end b a3 w10 P3.out
  rw [show (if a3.size = 0 then (0 : Int) else 23) = 23 by decide] at hx
  refine hx.mono ?_
  clear hx
  rintro r w' ⟨rfl, rfl⟩
  go_wp2_with fail
  have hx := live_left b a3 w10 P3.out
  rw [show (a3.size : Int) = 1 by decide] at hx
  refine hx.mono ?_
  clear hx
  rintro r w' ⟨rfl, rfl⟩
  go_wp2_with fail
  refine (k_read b a3 ByteArray.empty (-4) (by decide) (by decide +kernel) _ P3.out).mono ?_
  rintro r w11 ⟨rfl, hp, hg⟩
  have P4 := Lib.hid hp
  have B11 := Lib.hid (B10.out.grown hg B10.out.size (fun k hk => by cases hk; exact hw6))
  clear hp hg
  go_wp2_with fail
  have hx := live_end b ByteArray.empty w11 P4.out
  rw [show (if ByteArray.empty.size = 0 then (0 : Int) else 23) = 0 by decide] at hx
  refine hx.mono ?_
  clear hx
  rintro r w' ⟨rfl, rfl⟩
  go_wp2_with fail
  have hx := live_bool b ByteArray.empty w11 (by decide) P4.out
  rw [show fBool ByteArray.empty = (false, ByteArray.empty, 5) by decide +kernel] at hx
  refine hx.mono ?_
  clear hx
  rintro r w12 ⟨rfl, hp, hg⟩
  have P5 := Lib.hid hp
  have B12 := Lib.hid (B11.out.grown hg B11.out.size (fun k hk => by cases hk; exact hw6))
  clear hp hg
  go_wp2_with fail
  refine (err_live b ByteArray.empty 5 w12 P5.out).mono ?_
  rintro r w' ⟨rfl, rfl⟩
  go_wp2_with fail
  refine (dead_left (pt b) w12 5 (pb_dead P5.out (by omega))).mono ?_
  rintro r w' ⟨rfl, rfl⟩
  go_wp2_with fail
  go_ret
  exact ⟨rfl, B12.out⟩
end Go.Proofs.Ytfpkpgfdmidjfaa
