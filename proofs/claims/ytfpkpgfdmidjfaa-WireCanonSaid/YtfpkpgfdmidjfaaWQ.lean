/- The walk of WireReads. -/
import Derived.Test.YtfpkpgfdmidjfaaWO
import Derived.Test.YtfpkpgfdmidjfaaWK
set_option linter.unusedVariables false
namespace Go.Proofs.Ytfpkpgfdmidjfaa
open Go.RowKit

theorem ops_below {w w' : World} {B : Nat} {A : Option Addr} {l : List OpD} (h : OpsAt w B A l) (hb : Below B w w') : OpsAt w' B A l := by
  intro i hi
  obtain ⟨b, o, e, hl, h0, h1, h2, h3⟩ := h i hi
  exact ⟨b, o, e, hl, (hb.cell (p := ⟨b, _, none⟩) hl).trans h0, (hb.cell (p := ⟨b, _, none⟩) hl).trans h1, (hb.cell (p := ⟨b, _, none⟩) hl).trans h2, h3⟩

set_option maxRecDepth 100000 in
set_option maxHeartbeats 2000000 in
theorem law_reads (s : ByteArray) (A : Option Addr) (c : Nat) (l : List OpD) (w : World) (hs : s.size ≤ 9223372036854775807) (hl : l.length ≤ 9223372036854775807) (hr : OpsAt w w.heap.size A l) :
    Calls Try.prog 4 #[.string s, .slice A l.length c] w fun r w' => r = .returned (.bool true) ∧ Below w.heap.size w w' := by
  have HR := Lib.hid hr
  clear hr
  by_cases h1 : 500 < s.size
  · go_enter Try.func4, Try.ntmps4
    go_wp2_with fail
    refine (awake_any _).mono ?_
    rintro r w' ⟨rfl, hb⟩
    go_wp2_with fail
    go_ret
    exact ⟨rfl, hb⟩
  by_cases h2 : 30 < l.length
  · go_enter Try.func4, Try.ntmps4
    go_wp2_with fail
    refine (awake_any _).mono ?_
    rintro r w' ⟨rfl, hb⟩
    go_wp2_with fail
    go_ret
    exact ⟨rfl, hb⟩
  have hS : s.size ≤ 100000 := by omega
  obtain ⟨n, hn⟩ : ∃ n, l.length = n := ⟨_, rfl⟩
  have HN := Lib.hid hn
  rw [hn] at hl h2 ⊢
  clear hn
  go_enter Try.func4, Try.ntmps4
  go_wp2_with fail
  refine (new_any s _).mono ?_
  rintro r w1 ⟨rfl, hp, hb⟩
  have P1 := Lib.hid hp
  have B1 := Lib.hid hb
  obtain ⟨b, hbb⟩ : ∃ b, b = w.heap.size := ⟨_, rfl⟩
  have Q1 := Lib.hid (show PB w1 b s 0 true by rw [hbb]; exact hp)
  have hwb : w.heap.size ≤ b := by omega
  rw [← hbb]
  have z1 := hb.size
  clear hp hb hbb P1
  go_wp2_with fail
  refine (rnew_any s _).mono ?_
  rintro r w2 ⟨rfl, hr, hb⟩
  obtain ⟨c2, hcc⟩ : ∃ c2, c2 = w1.heap.size := ⟨_, rfl⟩
  have R2 := Lib.hid (show RR w2 c2 s s 0 from ⟨0, Nat.zero_le _, by rw [hcc]; exact hr, fun _ => by apply of_data; rw [drop_at]; rfl⟩)
  have Q2 := Lib.hid (Q1.out.below hb Q1.out.lt)
  have B2 := Lib.hid (B1.out.trans (hb.mono z1))
  have hwc : w.heap.size ≤ c2 := by omega
  rw [← hcc]
  clear hr hb hcc B1 Q1 z1
  go_wp2_with fail
  go_loopw [7] (fun i wr => ∃ (k : Nat) (t : ByteArray) (e : Int), k ≤ n ∧ i = .int .i64 k ∧ PB wr b t e true ∧ RR wr c2 s t e ∧ Below w.heap.size w wr) (fun i _ => n - (intOf i).toNat)
  case atStart => exact ⟨0, s, 0, Nat.zero_le _, rfl, Q2.out, R2.out, B2.out⟩
  case round =>
    obtain ⟨k, t, e, hk, rfl, hp, hr, hb⟩ := hrel
    have P := Lib.hid hp
    have R := Lib.hid hr
    have BB := Lib.hid hb
    have hsz := hb.size
    clear hp hr hb
    by_cases hlt : k < n
    · have hkl : k < l.length := by have := HN.out; omega
      obtain ⟨ab, ao, rfl, hab, x0, x1, x2, i0, i1, i2⟩ := ops_below HR.out BB.out k hkl
      generalize l[k] = d at *
      have hm : d.most ≤ 9223372036854775807 := i1.2
      have st := Lib.hid (step_any (B := w.heap.size) d hS hm P.out R.out hwb hwc hsz)
      clear hkl i0 i1 i2 hab
      go_wp2_with fail
      refine st.out.mono ?_
      rintro r w3 ⟨rfl, t1, e1, hp, hr, hb⟩
      have P3 := Lib.hid hp
      have R3 := Lib.hid hr
      have B3 := Lib.hid (BB.out.trans hb)
      clear hp hr hb
      go_wp2_with fail
      go_roundw
      case rel => exact ⟨k + 1, t1, e1, by omega, by go_num, P3.out, R3.out, B3.out⟩
      case measure => simp [intOf]; omega
    · go_wp2_with fail
      refine (p_end P.out).mono ?_
      rintro r w' ⟨rfl, rfl⟩
      go_wp2_with fail
      refine (r_end R.out hS).mono ?_
      rintro r w4 ⟨rfl, hd⟩
      have B4 := Lib.hid (BB.out.trans (same_draw hd _))
      clear hd
      go_wp2_with fail
      refine (awake_any _).mono ?_
      rintro r w5 ⟨rfl, hb⟩
      go_wp2_with fail
      go_ret
      exact ⟨rfl, B4.out.trans (hb.mono B4.out.size)⟩
end Go.Proofs.Ytfpkpgfdmidjfaa
