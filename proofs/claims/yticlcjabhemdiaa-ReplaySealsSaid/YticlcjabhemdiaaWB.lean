/- Contracts of the encoding functions of the reference. -/
import Derived.Test.YticlcjabhemdiaaWA
set_option linter.unusedVariables false
namespace Go.Proofs.Yticlcjabhemdiaa.Wire
open Go.RowKit

theorem zig_pos2 (n : Int) (h1 : n ≤ 9223372036854775807) (h : 0 ≤ n) : n * 2 = ((zig n : Nat) : Int) := by rw [zig_pos n (by omega)]; omega

set_option maxRecDepth 100000 in
set_option maxHeartbeats 1000000 in
theorem rint_loop (base : Nat) (n : Int) (w : World) (hn : I64 n) :
    Calls Try.prog 29 #[.int .i64 n] w (OutS w (bs (enI n))) := by
  obtain ⟨i0, hi, hz0, hz1, hz2⟩ := info_parts info_u8
  have hz := zig_lt n hn
  obtain ⟨h1, h2⟩ := hn
  have E := Lib.hid (show enI n = en 10 (zig n) from rfl)
  have Z1 := zig_form n h1
  have Z2 := zig_pos2 n h2
  have N := World.ownsRow_nil w w.heap.size 5 1
  by_cases hneg : n < 0
  all_goals
    first | (have Z := Z1 hneg) | (have Z := Z2 (by omega))
    clear Z1 Z2
    go_enter Try.func29, Try.ntmps29
    go_wp2_with fail
    have HZ := Lib.hid Z
    clear Z
    go_loopw [3, 4] (fun form v wr => ∃ (f z : Nat) (ys : List UInt8), z < 18446744073709551616 ∧ form = .int .u64 (z : Nat) ∧ ys ++ en (f + 1) z = enI n ∧ ys.length + f + 1 ≤ 10 ∧ z < 128 ^ (f + 1) ∧ wr.ownsRow w.heap.size 5 1 v ys.length (u8s ys) ∧ Below w.heap.size w wr) (fun form _ _ => (intOf form).toNat)
    case atStart => exact ⟨9, zig n, [], hz, val_int (by first | rfl | exact HZ.out), by rw [E.out]; rfl, by simp, by omega, N, Below.refl _ _⟩
    case round =>
      obtain ⟨f, z, ys, hzl, rfl, hys, hlen, hzf, hown, hnx⟩ := hrel
      have HY := Lib.hid hys
      have hsz := hnx.size
      clear hys N hz h1 h2
      have hz7 : z / 128 < 18446744073709551616 := by omega
      have HL := Lib.hid (fun k (hk : u4.ownBlock = some k) => (hown.lt k hk).1)
      by_cases h : z < 128
      · have ES := Lib.hid (en_small f z h)
        go_wp2_with (at_builtin; refine wpList_append_own _ rfl (.tmp 23) (.tmp 26) 62 rfl w.heap.size 5 i0 (.int .u8 0) 1 1 Try.underlying62 hi hz0 hz1 hz2 rfl (by decide) _ _ _ rfl (hown.alloc _) ⟨wr.heap.size, 0, none⟩ 1 1 [.int .u8 (z : Int)] rfl rfl (one_cell _ _ _) ?c2 ?c3 ?c4 ?c5 ?_)
        case c2 => intro u hu; simp at hu; subst hu; rfl
        case c3 => unfold maxLen; omega
        case c4 => omega
        case c5 => simp; omega
        intro v' w1 hown' hgrow _
        rw [u8s_snoc ys z (by omega)] at hown'
        have hcv := conv_own hown'
        have R := Lib.hid hown'
        clear hown' hown
        go_wp2_with fail
        go_ret
        exact ⟨ret_str (by rw [← HY.out, ES.out]), (hnx.alloc hsz _).grown hgrow (by simp; omega) HL.out⟩
      · have EB := Lib.hid (en_big f z h)
        have hf : 1 ≤ f := by
          rcases Nat.eq_zero_or_pos f with e | e
          · subst e; omega
          · exact e
        obtain ⟨g, rfl⟩ : ∃ g, f = g + 1 := ⟨f - 1, by omega⟩
        have hp := p128 (g + 1)
        have hzg : z / 128 < 128 ^ (g + 1) := by rw [Nat.div_lt_iff_lt_mul (by omega)]; omega
        have HP := Lib.hid hzg
        clear hp hzg hzf
        go_wp2_with (at_builtin; refine wpList_append_own _ rfl (.tmp 14) (.tmp 19) 62 rfl w.heap.size 5 i0 (.int .u8 0) 1 1 Try.underlying62 hi hz0 hz1 hz2 rfl (by decide) _ _ _ rfl (hown.alloc _) ⟨wr.heap.size, 0, none⟩ 1 1 [.int .u8 ((z : Int) % 128 + 128)] rfl rfl (one_cell _ _ _) ?c2 ?c3 ?c4 ?c5 ?_)
        case c2 => intro u hu; simp at hu; subst hu; rfl
        case c3 => unfold maxLen; omega
        case c4 => omega
        case c5 => simp; omega
        intro v' w1 hown' hgrow _
        have R := Lib.hid hown'
        clear hown' hown
        go_wp2_with fail
        go_roundw
        case rel =>
          refine ⟨g, z / 128, ys ++ [UInt8.ofNat (z % 128 + 128)], hz7, by go_num, by rw [← HY.out, EB.out]; simp, by rw [snoc_len]; omega, HP.out, ?_, (hnx.alloc hsz _).grown hgrow (by simp; omega) HL.out⟩
          have := R.out
          rw [u8s_snoc' ys z] at this
          rw [snoc_len]; exact this
        case measure => simp [intOf]; omega

theorem rint_any (n : Int) (w : World) (hn : I64 n) :
    Calls Try.prog 29 #[.int .i64 n] w (OutS w (bs (enI n))) := rint_loop 0 n w hn

set_option maxHeartbeats 400000 in
theorem rtext_any (s : ByteArray) (w : World) (hs : s.size ≤ 100000) :
    Calls Try.prog 30 #[.string s] w (OutS w (bs (enT s))) := by
  have E := Lib.hid (enT_str s)
  have hl : (bs (enI s.size)).size ≤ 10 := by rw [bs_size]; exact enI_length _
  go_enter Try.func30, Try.ntmps30
  go_wp2_with fail
  refine (rint_any s.size _ (nat_i64 _ (by omega))).mono ?_
  rintro e w' ⟨rfl, hb⟩
  go_wp2_with fail
  go_ret
  exact ⟨ret_str E.out, hb⟩

end Go.Proofs.Yticlcjabhemdiaa.Wire
