/- The law DigestBursts, walked. -/
import Derived.Test.YtebffibdjkjjdaaGL
set_option linter.unusedVariables false
namespace Go.Proofs.Ytebffibdjkjjdaa
open Go.RowKit

/-- Byte j of the change, the least significant one first. -/
def cb (x j : Nat) : UInt8 := UInt8.ofNat (x / 2 ^ (8 * j))
/-- Whether one of the first k bytes of the change is not zero. -/
def chg (x : Nat) : Nat → Bool
  | 0 => false
  | k + 1 => chg x k || (cb x k != 0)
theorem chg_succ (x k : Nat) : chg x (k + 1) = (chg x k || (cb x k != 0)) := rfl
theorem chg_false (x k : Nat) (h : ∀ j, j < k → cb x j = 0) : chg x k = false := by
  induction k with
  | zero => rfl
  | succ k ih => rw [chg_succ, ih fun j hj => h j (by omega), h k (by omega)]; rfl
/-- The first k bytes from place i on, changed and as they were. -/
def mm (l : List UInt8) (i x k : Nat) : List UInt8 := (List.range k).map fun j => l.getD (i + j) 0 ^^^ cb x j
def og (l : List UInt8) (i k : Nat) : List UInt8 := (List.range k).map fun j => l.getD (i + j) 0
theorem mm_length (l : List UInt8) (i x k : Nat) : (mm l i x k).length = k := by simp [mm]
theorem og_length (l : List UInt8) (i k : Nat) : (og l i k).length = k := by simp [og]
theorem mm_succ (l : List UInt8) (i x k : Nat) : mm l i x (k + 1) = mm l i x k ++ [l.getD (i + k) 0 ^^^ cb x k] := by simp [mm, List.range_succ]
theorem og_succ (l : List UInt8) (i k : Nat) : og l i (k + 1) = og l i k ++ [l.getD (i + k) 0] := by simp [og, List.range_succ]
/-- The string with its first k changes. -/
def brs (l : List UInt8) (i x k : Nat) : List UInt8 := l.take i ++ (mm l i x k ++ l.drop (i + k))
theorem drop_at (l : List UInt8) (k : Nat) (h : k < l.length) : l.drop k = l.getD k 0 :: l.drop (k + 1) := by
  rw [List.drop_eq_getElem_cons h]
  simp [List.getD, List.getElem?_eq_getElem h]
theorem brs_zero (l : List UInt8) (i x : Nat) : brs l i x 0 = l := by
  unfold brs; simp [mm]
theorem og_whole (l : List UInt8) (i k : Nat) (h : i + k ≤ l.length) : l.take i ++ (og l i k ++ l.drop (i + k)) = l := by
  induction k with
  | zero => simp [og]
  | succ k ih =>
    have e := drop_at l (i + k) (by omega)
    have h2 := ih (by omega)
    rw [e] at h2
    rw [og_succ, List.append_assoc]
    exact h2
theorem brs_length (l : List UInt8) (i x k : Nat) (h : i + k ≤ l.length) : (brs l i x k).length = l.length := by
  unfold brs
  rw [List.length_append, List.length_append, mm_length, List.length_take, List.length_drop]; omega
theorem brs_at (l : List UInt8) (i x k : Nat) (h : i + k < l.length) : (brs l i x k).getD (i + k) 0 = l.getD (i + k) 0 := by
  unfold brs
  have h1 : (l.take i).length = i := by rw [List.length_take]; omega
  simp only [List.getD_eq_getElem?_getD]
  rw [List.getElem?_append_right (by omega), List.getElem?_append_right (by rw [mm_length]; omega), mm_length, h1, List.getElem?_drop]
  congr 2
  omega
theorem brs_step (l : List UInt8) (i x k : Nat) (h : i + k < l.length) : (brs l i x k).set (i + k) (l.getD (i + k) 0 ^^^ cb x k) = brs l i x (k + 1) := by
  unfold brs
  have h1 : (l.take i).length = i := by rw [List.length_take]; omega
  rw [List.set_append_right _ _ (by omega), List.set_append_right _ _ (by rw [mm_length]; omega), mm_length, h1, drop_at l (i + k) h,
    show i + k - i - k = 0 by omega, List.set_cons_zero, mm_succ, List.append_assoc]
  rfl
theorem mm_og (l : List UInt8) (i x k : Nat) (h : mm l i x k = og l i k) : chg x k = false := by
  induction k with
  | zero => rfl
  | succ k ih =>
    rw [mm_succ, og_succ] at h
    obtain ⟨h1, h2⟩ := List.append_inj h (by rw [mm_length, og_length])
    have h3 : l.getD (i + k) 0 ^^^ cb x k = l.getD (i + k) 0 := by simpa using h2
    have h4 : cb x k = 0 := by
      have := congrArg (l.getD (i + k) 0 ^^^ ·) h3
      simpa [← UInt8.xor_assoc] using this
    rw [chg_succ, ih h1, h4]; rfl
theorem burst_16 (l : List UInt8) (i x : Nat) (h : i + 2 ≤ l.length) (hc : chg x 2 = true) : c16 (brs l i x 2) ≠ c16 l := by
  intro e
  have h2 := og_whole l i 2 h
  have e2 : c16 (l.take i ++ (mm l i x 2 ++ l.drop (i + 2))) = c16 (l.take i ++ (og l i 2 ++ l.drop (i + 2))) := by rw [h2]; exact e
  have := burst16 (l.take i) (l.drop (i + 2)) _ _ _ _ e2
  have h3 : mm l i x 2 = og l i 2 := by
    show [_, _] = [_, _]
    rw [this.1, this.2]
  rw [mm_og l i x 2 h3] at hc
  cases hc
theorem burst_32 (l : List UInt8) (i x k : Nat) (hk : k ≤ 4) (h : i + k ≤ l.length) (hc : chg x k = true) : c32 (brs l i x k) ≠ c32 l := by
  intro e
  have h2 := og_whole l i k h
  have e2 : c32 (l.take i ++ (mm l i x k ++ l.drop (i + k))) = c32 (l.take i ++ (og l i k ++ l.drop (i + k))) := by rw [h2]; exact e
  have h3 := burst32 (l.take i) (l.drop (i + k)) (mm l i x k) (og l i k) (by rw [mm_length]; exact hk) (by rw [mm_length, og_length]) e2
  rw [mm_og l i x k h3] at hc
  cases hc
theorem cb_int (x j : Nat) : ((cb x j).toNat : Int) = (x : Int) / 2 ^ (8 * j) % 256 := by
  unfold cb
  rw [UInt8.toNat_ofNat']
  simp

theorem brs_row {w : World} {b : Nat} {l : List UInt8} {i x k : Nat} {u : UInt8} (h : RowB w b (brs l i x k)) (hik : i + k < l.length) (hu : u = l.getD (i + k) 0) :
    RowB (w.setCell ⟨b, i + k, none⟩ (.int .u8 (bits .xor .u8 (u.toNat : Int) ((x : Int) / 2 ^ (8 * k) % 256)))) b (brs l i x (k + 1)) := by
  rw [← cb_int, xor_u8, ← brs_step l i x k hik, ← hu]
  exact h.set (i + k) (by rw [brs_length _ _ _ _ (by omega)]; exact hik) _
theorem ne_int {a b : Nat} (h : a ≠ b) : ((a : Int) == (b : Int)) = false := by simp; omega
theorem ne_nat {a b : Nat} (h : a ≠ b) : (a == b) = false := by simpa using h

set_option maxRecDepth 100000 in
set_option maxHeartbeats 8000000 in
theorem law_bursts (s : ByteArray) (p : Int) (x : Nat) (w : World) (hm : s.size ≤ 9223372036854775807) (hp : -9223372036854775808 ≤ p ∧ p ≤ 9223372036854775807) (hx : x < 4294967296) :
    Calls Try.prog 8 #[.string s, .int .i64 p, .int .u32 (x : Int)] w (OutT w) := by
  by_cases hg : s.size ≤ 2000 ∧ 0 ≤ p ∧ p < (s.size : Int) ∧ 0 < x
  · obtain ⟨h, hp0, hp1, hx0⟩ := hg
    obtain ⟨i, rfl⟩ : ∃ i : Nat, p = (i : Int) := ⟨p.toNat, by omega⟩
    have hi : i < s.size := by omega
    have hxz : ((x : Int) == 0) = false := by simp; omega
    have d1 : decide ((2000 : Int) < (s.size : Int)) = false := by simp; omega
    have d2 : decide ((i : Int) < 0) = false := by simp
    have d3 : decide (s.size ≤ i) = false := by simp; omega
    obtain ⟨cap, w1, hcv, hrow, hb1⟩ := conv_bytes w s s.size rfl
    have R1 := Lib.hid hrow
    have B1 := Lib.hid hb1
    have hz1 := hb1.size
    clear hrow hb1 hp
    go_enter Try.func8, Try.ntmps8
    go_wp2_with fail
    go_loopw [8, 9] (fun ch kv wr => ∃ k : Nat, k ≤ 4 ∧ i + k ≤ s.size ∧ kv = .int .i64 k ∧ ch = .bool (chg x k) ∧ RowB wr w.heap.size (brs s.data.toList i x k) ∧ Below w.heap.size w wr) (fun _ kv _ => 4 - (intOf kv).toNat)
    case atStart => exact ⟨0, by omega, by omega, rfl, rfl, by rw [brs_zero]; exact R1.out, B1.out⟩
    case round =>
      obtain ⟨k, hk, hik, rfl, rfl, hrow, hbw⟩ := hrel
      have R := Lib.hid hrow
      have B := Lib.hid hbw
      have HLEN := Lib.hid (show (brs s.data.toList i x k).length = s.size by rw [brs_length _ _ _ _ (by rw [toNat_bytes]; exact hik), toNat_bytes])
      by_cases hgo : k < 4 ∧ i + k < s.size
      · obtain ⟨hk4, hin⟩ := hgo
        have hfr := hrow.fr (i + k) (by rw [HLEN.out]; exact hin)
        obtain ⟨u, hu⟩ : ∃ u : UInt8, u = s.data.toList.getD (i + k) 0 := ⟨_, rfl⟩
        have hcl : wr.cell? ⟨w.heap.size, i + k, none⟩ = some (u8v u) := by
          rw [hrow.cell (i + k) (by rw [HLEN.out]; exact hin), hu, ← brs_at s.data.toList i x k (by rw [toNat_bytes]; exact hin)]
          simp [List.getD, List.getElem?_eq_getElem (show i + k < (brs s.data.toList i x k).length by rw [HLEN.out]; exact hin)]
        have HR2 := Lib.hid (brs_row hrow (by rw [toNat_bytes]; exact hin) hu)
        have HB2 := Lib.hid (show Below w.heap.size w (wr.setCell ⟨w.heap.size, i + k, none⟩ (.int .u8 (bits .xor .u8 (u.toNat : Int) ((x : Int) / 2 ^ (8 * k) % 256)))) from hbw.setCell (Nat.le_refl _) _)
        have HL2 := Lib.hid (show (brs s.data.toList i x (k + 1)).length = s.size by rw [brs_length _ _ _ _ (by rw [toNat_bytes]; omega), toNat_bytes])
        have HS2 := Lib.hid (show (bs (brs s.data.toList i x (k + 1))).size ≤ 100000 by rw [bs_size, HL2.out]; omega)
        have HCS := Lib.hid (chg_succ x k)
        have HCB := Lib.hid (cb_int x k)
        have F16 := Lib.hid (show chg x (k + 1) = true → k = 1 → ((c16 (brs s.data.toList i x (k + 1)) : Int) == (c16 s.data.toList : Int)) = false ∧ (c16 (brs s.data.toList i x (k + 1)) == c16 s.data.toList) = false from fun hc hk1 => by
          subst hk1
          have := burst_16 s.data.toList i x (by rw [toNat_bytes]; omega) hc
          exact ⟨ne_int this, ne_nat this⟩)
        clear hrow hbw hu hcv
        obtain ⟨ch, hch⟩ : ∃ ch, chg x k = ch := ⟨_, rfl⟩
        have HCH := Lib.hid hch
        rw [hch]
        clear hch
        cases ch
        · by_cases hz : cb x k = 0
          · have HC := Lib.hid (show chg x (k + 1) = false by rw [HCS.out, HCH.out, hz]; rfl)
            have tc : ((x : Int) / 2 ^ (8 * k) % 256 == 0) = true := by rw [← HCB.out, hz]; rfl
            have tn : ((x : Int) / 2 ^ (8 * k) % 256 != 0) = false := by rw [← HCB.out, hz]; rfl
            clear hz
            by_cases k1 : k = 1
            · have t1 : ((k : Int) == 1) = true := by simp; omega
              clear k1
              go_wp2_with fail
              go_roundw
              case rel => exact ⟨k + 1, by omega, by omega, by go_num, by rw [HC.out], HR2.out, HB2.out⟩
              case measure => simp [intOf]; omega
            · have t1 : ((k : Int) == 1) = false := by simp; omega
              clear k1
              go_wp2_with fail
              go_roundw
              case rel => exact ⟨k + 1, by omega, by omega, by go_num, by rw [HC.out], HR2.out, HB2.out⟩
              case measure => simp [intOf]; omega
          · have HC := Lib.hid (show chg x (k + 1) = true by rw [HCS.out, HCH.out]; simpa using hz)
            have F16 := Lib.hid (F16.out HC.out)
            have hne : ((cb x k).toNat : Int) ≠ 0 := fun e => hz (UInt8.toNat_inj.1 (by show (cb x k).toNat = 0; omega))
            have tc : ((x : Int) / 2 ^ (8 * k) % 256 == 0) = false := by rw [← HCB.out]; simpa using hne
            have tn : ((x : Int) / 2 ^ (8 * k) % 256 != 0) = true := by rw [← HCB.out]; simpa using hne
            clear hz hne
            by_cases k1 : k = 1
            · have HK := Lib.hid k1
              have t1 : ((k : Int) == 1) = true := by simp; omega
              clear k1
              have hcv2 := HR2.out.back s.size cap HL2.out
              go_wp2_with fail
              refine (crc16_any _ _ HS2.out).mono ?_
              rintro e w2 ⟨rfl, rfl⟩
              rw [bs_data]
              go_wp2_with fail
              refine (crc16_any _ _ (by omega)).mono ?_
              rintro e w2 ⟨rfl, rfl⟩
              have f1 := (F16.out HK.out).1
              have f2 := (F16.out HK.out).2
              go_wp2_with fail
              go_roundw
              case rel => exact ⟨k + 1, by omega, by omega, by go_num, by rw [HC.out], HR2.out, HB2.out⟩
              case measure => simp [intOf]; omega
            · have t1 : ((k : Int) == 1) = false := by simp; omega
              clear k1
              go_wp2_with fail
              go_roundw
              case rel => exact ⟨k + 1, by omega, by omega, by go_num, by rw [HC.out], HR2.out, HB2.out⟩
              case measure => simp [intOf]; omega
        · have HC := Lib.hid (show chg x (k + 1) = true by rw [HCS.out, HCH.out]; rfl)
          have F16 := Lib.hid (F16.out HC.out)
          by_cases k1 : k = 1
          · have HK := Lib.hid k1
            have t1 : ((k : Int) == 1) = true := by simp; omega
            clear k1
            have hcv2 := HR2.out.back s.size cap HL2.out
            go_wp2_with fail
            refine (crc16_any _ _ HS2.out).mono ?_
            rintro e w2 ⟨rfl, rfl⟩
            rw [bs_data]
            go_wp2_with fail
            refine (crc16_any _ _ (by omega)).mono ?_
            rintro e w2 ⟨rfl, rfl⟩
            have f1 := (F16.out HK.out).1
            have f2 := (F16.out HK.out).2
            go_wp2_with fail
            go_roundw
            case rel => exact ⟨k + 1, by omega, by omega, by go_num, by rw [HC.out], HR2.out, HB2.out⟩
            case measure => simp [intOf]; omega
          · have t1 : ((k : Int) == 1) = false := by simp; omega
            clear k1
            go_wp2_with fail
            go_roundw
            case rel => exact ⟨k + 1, by omega, by omega, by go_num, by rw [HC.out], HR2.out, HB2.out⟩
            case measure => simp [intOf]; omega
      · have HEND := Lib.hid (show chg x k = true → ((c32 (brs s.data.toList i x k) : Int) == (c32 s.data.toList : Int)) = false ∧ (c32 (brs s.data.toList i x k) == c32 s.data.toList) = false from fun hc => by
          have := burst_32 s.data.toList i x k hk (by rw [toNat_bytes]; exact hik) hc
          exact ⟨ne_int this, ne_nat this⟩)
        have HS := Lib.hid (show (bs (brs s.data.toList i x k)).size ≤ 100000 by rw [bs_size, HLEN.out]; omega)
        have hcv2 := hrow.back s.size cap HLEN.out
        have hsz := hbw.size
        clear hrow hbw hcv
        obtain ⟨ch, hch⟩ : ∃ ch, chg x k = ch := ⟨_, rfl⟩
        have HCH := Lib.hid hch
        rw [hch]
        clear hch
        by_cases hk4 : k < 4
        · have hn : (s.size : Int) ≤ (i : Int) + (k : Int) := by omega
          clear hgo
          cases ch
          · skip
            go_wp2_with fail
            refine (awake_any _).mono ?_
            rintro e w2 ⟨rfl, hb2⟩
            have B2 := Lib.hid (B.out.trans (hb2.mono hsz))
            clear hb2
            go_wp2_with fail
            go_ret
            exact ⟨rfl, B2.out⟩
          · skip
            go_wp2_with fail
            refine (crc32_any _ _ HS.out).mono ?_
            rintro e w2 ⟨rfl, rfl⟩
            rw [bs_data]
            go_wp2_with fail
            refine (crc32_any _ _ (by omega)).mono ?_
            rintro e w2 ⟨rfl, rfl⟩
            have f1 := (HEND.out HCH.out).1
            have f2 := (HEND.out HCH.out).2
            have f3 : ((c32 (brs s.data.toList i x k) : Int) != (c32 s.data.toList : Int)) = true := by rw [bne, f1]; rfl
            have f4 : (c32 (brs s.data.toList i x k) != c32 s.data.toList) = true := by rw [bne, f2]; rfl
            go_wp2_with fail
            refine (awake_any _).mono ?_
            rintro e w2 ⟨rfl, hb2⟩
            have B2 := Lib.hid (B.out.trans (hb2.mono hsz))
            clear hb2
            go_wp2_with fail
            go_ret
            exact ⟨rfl, B2.out⟩
        · have hn : (4 : Int) ≤ (k : Int) := by omega
          clear hgo hk4
          cases ch
          · skip
            go_wp2_with fail
            refine (awake_any _).mono ?_
            rintro e w2 ⟨rfl, hb2⟩
            have B2 := Lib.hid (B.out.trans (hb2.mono hsz))
            clear hb2
            go_wp2_with fail
            go_ret
            exact ⟨rfl, B2.out⟩
          · skip
            go_wp2_with fail
            refine (crc32_any _ _ HS.out).mono ?_
            rintro e w2 ⟨rfl, rfl⟩
            rw [bs_data]
            go_wp2_with fail
            refine (crc32_any _ _ (by omega)).mono ?_
            rintro e w2 ⟨rfl, rfl⟩
            have f1 := (HEND.out HCH.out).1
            have f2 := (HEND.out HCH.out).2
            have f3 : ((c32 (brs s.data.toList i x k) : Int) != (c32 s.data.toList : Int)) = true := by rw [bne, f1]; rfl
            have f4 : (c32 (brs s.data.toList i x k) != c32 s.data.toList) = true := by rw [bne, f2]; rfl
            go_wp2_with fail
            refine (awake_any _).mono ?_
            rintro e w2 ⟨rfl, hb2⟩
            have B2 := Lib.hid (B.out.trans (hb2.mono hsz))
            clear hb2
            go_wp2_with fail
            go_ret
            exact ⟨rfl, B2.out⟩
  · have hxn : x = 0 → ((x : Int) == 0) = true := fun e => by subst e; rfl
    by_cases a1 : s.size ≤ 2000
    · by_cases a2 : p < 0
      · have a2' : ¬ 0 ≤ p := by omega
        clear hxn hg
        go_enter Try.func8, Try.ntmps8
        go_wp2_with fail
        refine (awake_any _).mono ?_
        rintro e w1 ⟨rfl, hb⟩
        go_wp2_with fail
        go_ret
        exact ⟨rfl, hb⟩
      · by_cases a3 : (s.size : Int) ≤ p
        · have a2' : 0 ≤ p := by omega
          clear hxn hg
          go_enter Try.func8, Try.ntmps8
          go_wp2_with fail
          refine (awake_any _).mono ?_
          rintro e w1 ⟨rfl, hb⟩
          go_wp2_with fail
          go_ret
          exact ⟨rfl, hb⟩
        · have a2' : 0 ≤ p := by omega
          have a3' : p < (s.size : Int) := by omega
          have hx0 := hxn (by omega)
          clear hxn hg
          go_enter Try.func8, Try.ntmps8
          go_wp2_with fail
          refine (awake_any _).mono ?_
          rintro e w1 ⟨rfl, hb⟩
          go_wp2_with fail
          go_ret
          exact ⟨rfl, hb⟩
    · clear hxn hg
      go_enter Try.func8, Try.ntmps8
      go_wp2_with fail
      refine (awake_any _).mono ?_
      rintro e w1 ⟨rfl, hb⟩
      go_wp2_with fail
      go_ret
      exact ⟨rfl, hb⟩

theorem arg_bursts (s : ByteArray) (p b : Int) (w : World) (hm : s.size ≤ 9223372036854775807) (hp : (Lit.int .i64 p).wf = true) (hb : (Lit.int .u32 b).wf = true) :
    Calls Try.prog 8 #[.string s, .int .i64 p, .int .u32 b] w (OutT w) := by
  obtain ⟨x, rfl, hx⟩ := nat_u32 hb
  exact law_bursts s p x w hm (i64_u hp) hx
end Go.Proofs.Ytebffibdjkjjdaa
