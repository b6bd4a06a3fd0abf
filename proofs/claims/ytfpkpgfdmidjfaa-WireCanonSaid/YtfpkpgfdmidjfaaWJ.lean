/- Contracts of New, Same, starts and awake. -/
import Derived.Test.YtfpkpgfdmidjfaaWI
set_option linter.unusedVariables false
namespace Go.Proofs.Ytfpkpgfdmidjfaa
open Go.RowKit

theorem ret_bool {a b : Bool} (h : a = b) : Ending.returned (.bool a) = .returned (.bool b) := by rw [h]
theorem new_any (s : ByteArray) (w : World) :
    Calls Try.prog 19 #[.string s] w fun r w' => r = .returned (pt w.heap.size) ∧ PB w' w.heap.size s 0 true ∧ Below w.heap.size w w' := by
  go_enter Try.func19, Try.ntmps19
  go_wp2_with fail
  go_ret
  exact ⟨rfl, heap_alloc_new w _, (Below.refl _ _).alloc (Nat.le_refl _) _⟩
theorem rnew_any (s : ByteArray) (w : World) :
    Calls Try.prog 20 #[.string s] w fun r w' => r = .returned (pt w.heap.size) ∧ RB w' w.heap.size s 0 0 ∧ Below w.heap.size w w' := by
  go_enter Try.func20, Try.ntmps20
  go_wp2_with fail
  go_ret
  exact ⟨rfl, heap_alloc_new w _, (Below.refl _ _).alloc (Nat.le_refl _) _⟩

theorem same_draw {w w' : World} (h : Same w w') (B : Nat) : Below B w w' := by
  obtain ⟨n, rfl⟩ := h
  exact ⟨rfl, rfl, rfl, Nat.le_refl _, fun _ _ => rfl⟩
theorem same_gb {w w' : World} (h : Same w w') (r : Option Nat) : w.grownBy w' r := by
  obtain ⟨n, rfl⟩ := h
  exact gb_drewN _ _ _
theorem same_trans {a b c : World} (h : Same a b) (k : Same b c) : Same a c := by
  obtain ⟨n, rfl⟩ := h
  obtain ⟨m, rfl⟩ := k
  exact ⟨n + m, by simp [World.drewN_drewN]⟩

theorem own_ints {w : World} {base n : Nat} {v : Value} {l : List Int} (h : w.ownsRow base 3 1 v n (i64s l)) (hn : n = l.length) :
    ∃ A c, v = .slice A l.length c ∧ IntsAt w w.heap.size A l := by
  subst hn
  rcases h.2 with ⟨rfl, h0⟩ | ⟨g, cap, cur, rfl, h2, h3, h4⟩
  · rw [h0]; exact ⟨none, 0, rfl, fun h => by omega⟩
  · refine ⟨_, cap, rfl, fun _ => ⟨g, 0, rfl, (Array.getElem?_eq_some_iff.1 h3).1, fun i hi => ?_⟩⟩
    have := h.cells (g := g) rfl i (.int .i64 (l.getD i 0)) (by
      unfold i64s
      rw [List.getElem?_map]
      simp [List.getD, List.getElem?_eq_getElem hi])
    rw [show ({ block := g, off := 0, spot := none : Addr }.add i) = ⟨g, i, none⟩ by unfold Addr.add; split <;> simp_all] at this
    rw [Nat.zero_add]; exact this

set_option maxHeartbeats 1000000 in
theorem same_any (A B : Option Addr) (c d : Nat) (l : List Int) (w : World) (hl : l.length ≤ 1000000) (ha : IntsAt w w.heap.size A l) (hb : IntsAt w w.heap.size B l) :
    Calls Try.prog 29 #[.slice A l.length c, .slice B l.length d] w fun r w' => r = .returned (.bool true) ∧ Same w w' := by
  have HA := Lib.hid ha
  have HB := Lib.hid hb
  obtain ⟨n, hn⟩ : ∃ n, l.length = n := ⟨_, rfl⟩
  have HN := Lib.hid hn
  rw [hn] at hl ⊢
  clear ha hb hn
  go_enter Try.func29, Try.ntmps29
  go_wp2_with fail
  go_loopw [5] (fun i wr => ∃ k : Nat, k ≤ n ∧ i = .int .i64 k ∧ Same w wr) (fun i _ => n - (intOf i).toNat)
  case atStart => exact ⟨0, Nat.zero_le _, rfl, 0, rfl⟩
  case round =>
    obtain ⟨k, hk, rfl, hs⟩ := hrel
    have HS := Lib.hid hs
    have hb := same_draw hs w.heap.size
    clear hs
    by_cases hlt : k < n
    · have hkl : k < l.length := by have := HN.out; omega
      obtain ⟨b1, o1, rfl, hb1, hc1⟩ := HA.out (by omega)
      obtain ⟨b2, o2, rfl, hb2, hc2⟩ := HB.out (by omega)
      have hk1 : wr.cell? ⟨b1, o1 + k, none⟩ = some (.int .i64 (l.getD k 0)) := (hb.cell (p := ⟨b1, o1 + k, none⟩) hb1).trans (hc1 k hkl)
      have hk2 : wr.cell? ⟨b2, o2 + k, none⟩ = some (.int .i64 (l.getD k 0)) := (hb.cell (p := ⟨b2, o2 + k, none⟩) hb2).trans (hc2 k hkl)
      generalize l.getD k 0 = m at *
      clear hc1 hc2 hkl
      have hki : (k : Int) < n := by omega
      have hk0 : 0 ≤ (k : Int) := by omega
      go_wp2_with fail
      go_quiet (fail)
      go_wp2_with fail
      go_roundw
      case rel => exact ⟨k + 1, by omega, by go_num, same_trans HS.out ⟨_, rfl⟩⟩
      case measure => simp [intOf]; omega
    · go_wp2_with fail
      go_ret
      exact ⟨rfl, HS.out⟩

/-- Whether s begins with t. -/
def strt (s t : ByteArray) : Bool := decide (t.data.toList <+: s.data.toList)
theorem starts_any (s t : ByteArray) (w : World) (hs : s.size ≤ 100000) (ht : t.size ≤ 100000) :
    Calls Try.prog 31 #[.string s, .string t] w fun r w' => r = .returned (.bool (strt s t)) ∧ w = w' := by
  have P := Lib.hid (@List.prefix_iff_eq_take UInt8 t.data.toList s.data.toList)
  have hl : t.data.toList.length = t.size := toNat_bytes t
  by_cases h : t.size ≤ s.size
  · have E := Lib.hid (show ((s.extract 0 t.size).toList == t.toList) = strt s t by
      rw [Lib.extract_toList, Lib.toList_data]
      unfold strt
      rw [Bool.eq_iff_iff, decide_eq_true_iff, beq_iff_eq, P.out, hl, List.drop_zero, Nat.sub_zero]
      exact eq_comm)
    clear hl
    go_enter Try.func31, Try.ntmps31
    go_wp2_with fail
    go_ret
    exact ⟨ret_bool E.out, rfl⟩
  · have E := Lib.hid (show strt s t = false by
      unfold strt
      rw [decide_eq_false]
      intro hp
      have h1 := hp.length_le
      rw [hl, toNat_bytes] at h1
      omega)
    clear hl
    go_enter Try.func31, Try.ntmps31
    go_wp2_with fail
    go_ret
    exact ⟨ret_bool E.out.symm, rfl⟩
end Go.Proofs.Ytfpkpgfdmidjfaa
