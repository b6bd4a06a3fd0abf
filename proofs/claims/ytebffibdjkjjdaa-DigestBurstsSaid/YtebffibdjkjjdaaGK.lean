/- The law DigestOpens, walked. -/
import Derived.Test.YtebffibdjkjjdaaGJ
import Derived.Laws.IdiomStrings
set_option linter.unusedVariables false
namespace Go.Proofs.Ytebffibdjkjjdaa
open Go.RowKit

/-- Block b begins with these bytes, which may be written. -/
def RowB (w : World) (b : Nat) (l : List UInt8) : Prop :=
  ∃ C T lo hi, w.heap[b]? = some (.cells C T (lo, hi)) ∧ (l.length ≤ lo ∨ hi ≤ lo) ∧ ∀ j (hj : j < l.length), C[j]? = some (u8v l[j])
section
variable {w w' : World} {b : Nat} {l : List UInt8}
theorem RowB.lt (h : RowB w b l) : b < w.heap.size := by
  obtain ⟨C, T, lo, hi, h1, _⟩ := h
  exact (Array.getElem?_eq_some_iff.1 h1).1
theorem RowB.cell (h : RowB w b l) (j : Nat) (hj : j < l.length) : w.cell? ⟨b, j, none⟩ = some (u8v l[j]) := by
  obtain ⟨C, T, lo, hi, h1, h2, h3⟩ := h
  have := h3 j hj
  simp [World.cell?, h1, this]
theorem RowB.fr (h : RowB w b l) (j : Nat) (hj : j < l.length) : w.frozen? ⟨b, j, none⟩ = false := by
  obtain ⟨C, T, lo, hi, h1, h2, h3⟩ := h
  simp [World.frozen?, h1]; omega
theorem RowB.set (h : RowB w b l) (i : Nat) (hi : i < l.length) (c : UInt8) : RowB (w.setCell ⟨b, i, none⟩ (.int .u8 (c.toNat : Int))) b (l.set i c) := by
  obtain ⟨C, T, lo, hi', h1, h2, h3⟩ := h
  have hC : i < C.size := by
    have := h3 i hi
    exact (Array.getElem?_eq_some_iff.1 this).1
  refine ⟨C.set! i (u8v c), T, lo, hi', ?_, by rw [List.length_set]; exact h2, ?_⟩
  · simp [World.setCell, Array.getElem?_modify, h1]
  · intro j hj
    rw [List.length_set] at hj
    rw [List.getElem_set, Array.set!_eq_setIfInBounds, Array.getElem?_setIfInBounds]
    by_cases e : i = j
    · subst e; simp [hC]
    · simp [e, h3 j hj]
theorem RowB.below {B : Nat} (h : RowB w b l) (hb : Below B w w') (hlt : b < B) : RowB w' b l := by
  obtain ⟨C, T, lo, hi, h1, h2⟩ := h
  exact ⟨C, T, lo, hi, (hb.block b hlt).trans h1, h2⟩
theorem RowB.back (h : RowB w b l) (n cap : Nat) (hn : l.length = n) : (convert 33 9 (.slice (some ⟨b, 0, none⟩) n cap)).run Try.prog w = .ok (.string (bs l)) w := by
  subst hn
  exact run_convert_bytes_back w 33 9 5 ⟨b, 0, none⟩ cap l Try.underlying33 Try.underlying5 Try.underlying9 (fun j hj => by
    rw [show ({ block := b, off := 0, spot := none : Addr }.add j) = ⟨b, j, none⟩ by unfold Addr.add; split <;> simp_all]
    exact h.cell j hj)
end
theorem conv_bytes (w : World) (s : ByteArray) (n : Nat) (hn : s.size = n) : ∃ cap w', (convert 9 33 (.string s)).run Try.prog w = .ok (.slice (some ⟨w.heap.size, 0, none⟩) n cap) w' ∧ RowB w' w.heap.size s.data.toList ∧ Below w.heap.size w w' := by
  subst hn
  have h := run_bytes_of_string w 9 33 5 s Try.underlying9 Try.underlying33 Try.underlying5
  refine ⟨_, _, h, ⟨_, _, _, _, by show (w.heap.push _)[w.heap.size]? = _; simp; exact ⟨rfl, rfl, rfl, rfl⟩, Or.inl ?_, ?_⟩, (Below.refl _ _).drew.alloc (Nat.le_refl _) _⟩
  · unfold bytesRow; simp
  · intro j hj
    have hj' : j < s.data.size := by simpa using hj
    rw [bytesRow_at s _ j hj']; rfl

set_option maxRecDepth 100000 in
set_option maxHeartbeats 2000000 in
theorem law_opens (k : Nat) (s : ByteArray) (at_ : Int) (c : UInt8) (w : World) (hk : k < 18446744073709551616) (ha : -9223372036854775808 ≤ at_ ∧ at_ ≤ 9223372036854775807) (hm : s.size ≤ 9223372036854775807) :
    Calls Try.prog 5 #[.int .u64 (k : Int), .string s, .int .i64 at_, .int .u8 (c.toNat : Int)] w (OutT w) := by
  have hc := c.toNat_lt
  by_cases h : s.size ≤ 2000
  · have hsz : (bs (seald k s.data.toList)).size = s.size + 4 := by rw [bs_size, seald_length, toNat_bytes]
    have hsb : (bs (seald k s.data.toList)).size ≤ 50000 := by omega
    obtain ⟨ha1, ha2⟩ := ha
    obtain ⟨O, hO⟩ : ∃ O, opn k s.data.toList = O := ⟨_, rfl⟩
    have OS := Lib.hid hO
    clear hO
    go_enter Try.func5, Try.ntmps5
    go_wp2_with fail
    refine (open_any k _ _ hk (by omega)).mono ?_
    rintro e w1 ⟨rfl, hb⟩
    have B1 := Lib.hid hb
    have hz1 := hb.size
    clear hb
    rw [OS.out]
    go_wp2_with fail
    refine (ropen_any k _ _ hk (by omega)).mono ?_
    rintro e w2 ⟨rfl, hb⟩
    have B2 := Lib.hid (B1.out.trans (hb.mono hz1))
    have hz2 : w.heap.size ≤ w2.heap.size := Nat.le_trans hz1 hb.size
    clear hb
    rw [OS.out]
    go_wp2_with fail
    refine (rseal_any k _ _ hk (by omega)).mono ?_
    rintro e w3 ⟨rfl, hb⟩
    have B3 := Lib.hid (B2.out.trans (hb.mono hz2))
    have hz3 : w.heap.size ≤ w3.heap.size := Nat.le_trans hz2 hb.size
    clear hb
    obtain ⟨cap, w4, hcv, hrow, hb4⟩ := conv_bytes w3 (bs (seald k s.data.toList)) (s.size + 4) hsz
    have R4 := Lib.hid hrow
    have B4 := Lib.hid (B3.out.trans (hb4.mono hz3))
    have hz4 : w.heap.size ≤ w4.heap.size := Nat.le_trans hz3 hb4.size
    have hb43 := hrow.lt
    have hll : (seald k s.data.toList).length = s.size + 4 := by rw [seald_length, toNat_bytes]
    have HLL := Lib.hid hll
    clear hb4
    rw [bs_data] at R4 hrow
    by_cases hin : 0 ≤ at_ ∧ at_ < (s.size : Int) + 4
    · obtain ⟨i, rfl⟩ : ∃ i : Nat, at_ = (i : Int) := ⟨at_.toNat, by omega⟩
      have hi : i < s.size + 4 := by omega
      obtain ⟨u, hcl⟩ : ∃ u : UInt8, w4.cell? ⟨w3.heap.size, i, none⟩ = some (u8v u) := ⟨_, hrow.cell i (by omega)⟩
      have hfr := hrow.fr i (by omega)
      obtain ⟨LL, hLL⟩ : ∃ LL, LL = (seald k s.data.toList).set i c := ⟨_, rfl⟩
      have HR5 := Lib.hid (hrow.set i (by omega) c)
      rw [← hLL] at HR5
      have HL5 := Lib.hid (show LL.length = s.size + 4 by rw [hLL, List.length_set]; exact hll)
      have HB5 := Lib.hid (show Below w.heap.size w (w4.setCell ⟨w3.heap.size, i, none⟩ (.int .u8 (c.toNat : Int))) from B4.out.setCell hz3 _)
      have HZ5 := Lib.hid (show w.heap.size ≤ (w4.setCell ⟨w3.heap.size, i, none⟩ (.int .u8 (c.toNat : Int))).heap.size by simp [World.setCell]; omega)
      clear hin ha1 ha2 hrow hll hLL
      have hcv5 := HR5.out.back (s.size + 4) cap HL5.out
      have hlb : (bs LL).size ≤ 50000 := by rw [bs_size, HL5.out]; omega
      obtain ⟨O2, hO2⟩ : ∃ O2, opn k LL = O2 := ⟨_, rfl⟩
      have OS2 := Lib.hid hO2
      clear hO2
      go_wp2_with fail
      refine (open_any k _ _ hk hlb).mono ?_
      rintro e w6 ⟨rfl, hb6⟩
      have HR6 := Lib.hid (HR5.out.below hb6 HR5.out.lt)
      have HB6 := Lib.hid (HB5.out.trans (hb6.mono HZ5.out))
      have hz6 : w.heap.size ≤ w6.heap.size := Nat.le_trans HZ5.out hb6.size
      clear hb6
      rw [bs_data, OS2.out]
      have hcv6 := HR6.out.back (s.size + 4) cap HL5.out
      go_wp2_with fail
      refine (ropen_any k _ _ hk hlb).mono ?_
      rintro e w7 ⟨rfl, hb7⟩
      have HB7 := Lib.hid (HB6.out.trans (hb7.mono hz6))
      have hz7 : w.heap.size ≤ w7.heap.size := Nat.le_trans hz6 hb7.size
      clear hb7
      rw [bs_data, OS2.out]
      go_wp2_with fail
      refine (awake_any _).mono ?_
      rintro e w8 ⟨rfl, hb8⟩
      have HB8 := Lib.hid (HB7.out.trans (hb8.mono hz7))
      clear hb8
      go_wp2_with fail
      go_ret
      exact ⟨rfl, HB8.out⟩
    · obtain ⟨LL, hLL⟩ : ∃ LL, LL = seald k s.data.toList := ⟨_, rfl⟩
      have HR5 := Lib.hid hrow
      rw [← hLL] at HR5
      have HL5 := Lib.hid (show LL.length = s.size + 4 by rw [hLL]; exact hll)
      have HB5 := Lib.hid B4.out
      have HZ5 := Lib.hid hz4
      clear hrow hll hLL
      by_cases hneg : at_ < 0
      · have hn0 : ¬ 0 ≤ at_ := by omega
        clear hin
        have hcv5 := HR5.out.back (s.size + 4) cap HL5.out
        have hlb : (bs LL).size ≤ 50000 := by rw [bs_size, HL5.out]; omega
        obtain ⟨O2, hO2⟩ : ∃ O2, opn k LL = O2 := ⟨_, rfl⟩
        have OS2 := Lib.hid hO2
        clear hO2
        go_wp2_with fail
        refine (open_any k _ _ hk hlb).mono ?_
        rintro e w6 ⟨rfl, hb6⟩
        have HR6 := Lib.hid (HR5.out.below hb6 HR5.out.lt)
        have HB6 := Lib.hid (HB5.out.trans (hb6.mono HZ5.out))
        have hz6 : w.heap.size ≤ w6.heap.size := Nat.le_trans HZ5.out hb6.size
        clear hb6
        rw [bs_data, OS2.out]
        have hcv6 := HR6.out.back (s.size + 4) cap HL5.out
        go_wp2_with fail
        refine (ropen_any k _ _ hk hlb).mono ?_
        rintro e w7 ⟨rfl, hb7⟩
        have HB7 := Lib.hid (HB6.out.trans (hb7.mono hz6))
        have hz7 : w.heap.size ≤ w7.heap.size := Nat.le_trans hz6 hb7.size
        clear hb7
        rw [bs_data, OS2.out]
        go_wp2_with fail
        refine (awake_any _).mono ?_
        rintro e w8 ⟨rfl, hb8⟩
        have HB8 := Lib.hid (HB7.out.trans (hb8.mono hz7))
        clear hb8
        go_wp2_with fail
        go_ret
        exact ⟨rfl, HB8.out⟩
      · have hn0 : 0 ≤ at_ := by omega
        have hn1 : (s.size : Int) + 4 ≤ at_ := by omega
        clear hin
        have hcv5 := HR5.out.back (s.size + 4) cap HL5.out
        have hlb : (bs LL).size ≤ 50000 := by rw [bs_size, HL5.out]; omega
        obtain ⟨O2, hO2⟩ : ∃ O2, opn k LL = O2 := ⟨_, rfl⟩
        have OS2 := Lib.hid hO2
        clear hO2
        go_wp2_with fail
        refine (open_any k _ _ hk hlb).mono ?_
        rintro e w6 ⟨rfl, hb6⟩
        have HR6 := Lib.hid (HR5.out.below hb6 HR5.out.lt)
        have HB6 := Lib.hid (HB5.out.trans (hb6.mono HZ5.out))
        have hz6 : w.heap.size ≤ w6.heap.size := Nat.le_trans HZ5.out hb6.size
        clear hb6
        rw [bs_data, OS2.out]
        have hcv6 := HR6.out.back (s.size + 4) cap HL5.out
        go_wp2_with fail
        refine (ropen_any k _ _ hk hlb).mono ?_
        rintro e w7 ⟨rfl, hb7⟩
        have HB7 := Lib.hid (HB6.out.trans (hb7.mono hz6))
        have hz7 : w.heap.size ≤ w7.heap.size := Nat.le_trans hz6 hb7.size
        clear hb7
        rw [bs_data, OS2.out]
        go_wp2_with fail
        refine (awake_any _).mono ?_
        rintro e w8 ⟨rfl, hb8⟩
        have HB8 := Lib.hid (HB7.out.trans (hb8.mono hz7))
        clear hb8
        go_wp2_with fail
        go_ret
        exact ⟨rfl, HB8.out⟩
  · go_enter Try.func5, Try.ntmps5
    go_wp2_with fail
    refine (awake_any _).mono ?_
    rintro e w1 ⟨rfl, hb⟩
    go_wp2_with fail
    go_ret
    exact ⟨rfl, hb⟩
theorem arg_opens (a : Int) (s : ByteArray) (p b : Int) (w : World) (ha : (Lit.int .u64 a).wf = true) (hp : (Lit.int .i64 p).wf = true) (hb : (Lit.int .u8 b).wf = true) (hm : s.size ≤ 9223372036854775807) :
    Calls Try.prog 5 #[.int .u64 a, .string s, .int .i64 p, .int .u8 b] w (OutT w) := by
  obtain ⟨k, rfl, hk⟩ := nat_u64 ha
  obtain ⟨c, rfl⟩ := byte_u8 hb
  exact law_opens k s p c w hk (i64_u hp) hm
end Go.Proofs.Ytebffibdjkjjdaa
