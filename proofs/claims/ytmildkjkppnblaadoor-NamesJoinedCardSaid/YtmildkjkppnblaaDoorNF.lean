/- Contracts of the reference: digit, Quote. -/
import Derived.Test.YtmildkjkppnblaaDoorNE
import Derived.Test.YtmildkjkppnblaaDoorM0
set_option linter.unusedVariables false
namespace Go.Proofs.YtmildkjkppnblaaDoor
open Go.RowKit

theorem dig_at : ∀ n : Fin 16, ({ data := #[48, 49, 50, 51, 52, 53, 54, 55, 56, 57, 97, 98, 99, 100, 101, 102] } : ByteArray)[n.val]'n.isLt = hx n.val := by decide +kernel
set_option maxHeartbeats 400000 in
theorem digit_any (z : Int) (m n : Nat) (hz : z = (m : Int)) (hm : m < 256) (hn : m % 16 = n) (w : World) :
    Calls Tryd.prog 16 #[.int .u8 z] w fun e w' => e = .returned (.int .u8 ((hx n).toNat : Int)) ∧ w = w' := by
  subst hz
  have D := Lib.hid (fun h => dig_at ⟨n, h⟩)
  have hn16 : n < 16 := by omega
  go_enter Tryd.func16, Tryd.ntmps16
  go_wp2_with fail
  go_ret
  exact ⟨ret_int (by rw [← D.out hn16]), rfl⟩

theorem four_cells (w : World) (a b c d : Value) (T : TypeId) : ∀ (j : Nat) (u : Value), [a, b, c, d][j]? = some u → (w.alloc (Obj.cells #[a, b, c, d] T)).cell? ({ block := w.heap.size, off := 0 : Addr }.add j) = some u := by
  intro j u h
  rw [add_off, World.cell?_alloc_new]
  match j, h with
  | 0, h => exact h
  | 1, h => exact h
  | 2, h => exact h
  | 3, h => exact h
  | (j + 4), h => simp at h
theorem two_cells (w : World) (a b : Value) (T : TypeId) : ∀ (j : Nat) (u : Value), [a, b][j]? = some u → (w.alloc (Obj.cells #[a, b] T)).cell? ({ block := w.heap.size, off := 0 : Addr }.add j) = some u := by
  intro j u h
  rw [add_off, World.cell?_alloc_new]
  match j, h with
  | 0, h => exact h
  | 1, h => exact h
  | (j + 2), h => simp at h
/-- A row of the call's own that holds these bytes. -/
abbrev OwnB (w : World) (B : Nat) (v : Value) (l : List UInt8) : Prop := w.ownsRow B 5 1 v l.length (u8s l)
theorem own_one (w : World) (c : UInt8) : OwnB (w.alloc (Obj.cells #[.int .u8 (c.toNat : Int)] 5)) w.heap.size (.slice (some ⟨w.heap.size, 0, none⟩) 1 1) [c] :=
  ⟨rfl, .inr ⟨w.heap.size, 1, #[.int .u8 (c.toNat : Int)], rfl, Nat.le_refl _, heap_alloc_new w _, Nat.le_refl _, by unfold maxLen; decide, rfl, rfl⟩⟩
theorem ownB_app {w' : World} {B : Nat} {v' : Value} {acc news : List UInt8} (h : w'.ownsRow B 5 1 v' (acc.length + news.length) (u8s acc ++ u8s news)) : OwnB w' B v' (acc ++ news) := by
  show World.ownsRow _ _ _ _ _ _ _
  rw [List.length_append, ← u8s_append]; exact h

/-- A string is handed back, and memory has only grown. -/
def OutS (w : World) (s : ByteArray) (e : Ending) (w' : World) : Prop := e = .returned (.string s) ∧ Below w.heap.size w w'
theorem fm_sl (c : UInt8) (h : c.toNat = 34 ∨ c.toNat = 92) : fm c = [92, c] := by unfold fm; rw [if_pos h]
theorem fm_hex (c : UInt8) (h : ¬ (c.toNat = 34 ∨ c.toNat = 92)) (h2 : c.toNat < 32 ∨ 126 < c.toNat) : fm c = [92, 120, hx (c.toNat / 16), hx (c.toNat % 16)] := by unfold fm; rw [if_neg h, if_pos h2]
theorem fm_id (c : UInt8) (h : ¬ (c.toNat = 34 ∨ c.toNat = 92)) (h2 : ¬ (c.toNat < 32 ∨ 126 < c.toNat)) : fm c = [c] := by unfold fm; rw [if_neg h, if_neg h2]

set_option maxRecDepth 100000 in
set_option maxHeartbeats 2000000 in
theorem rquote_any (s : ByteArray) (w : World) (hs : s.size ≤ 100000) :
    Calls Tryd.prog 8 #[.string s] w (OutS w (bs (quo s.data.toList))) := by
  obtain ⟨i0, hi, hz0, hz1, hz2⟩ := info_parts info_u8
  have O1 := Lib.hid (own_one w 34)
  go_enter Tryd.func8, Tryd.ntmps8
  go_wp2_with fail
  go_loopw [3, 4] (fun v i wr => ∃ (k : Nat) (acc : List UInt8), k ≤ s.size ∧ i = .int .i64 k ∧ acc.length ≤ 1 + 4 * k ∧ quo s.data.toList = acc ++ (qb (s.data.toList.drop k) ++ [34]) ∧ OwnB wr w.heap.size v acc ∧ Below w.heap.size w wr) (fun _ i _ => s.size - (intOf i).toNat)
  case atStart => exact ⟨0, [34], Nat.zero_le _, rfl, by simp, rfl, O1.out, (Below.refl _ _).alloc (Nat.le_refl _) _⟩
  case round =>
    obtain ⟨k, acc, hk, rfl, hla, hac, hown, hb⟩ := hrel
    have B := Lib.hid hb
    have hsz := hb.size
    have HL := Lib.hid (fun k (hk : u3.ownBlock = some k) => (hown.lt k hk).1)
    by_cases hlt : k < s.size
    · have hc := (s[k]).toNat_lt
      rw [at_drop s k hlt, qb_cons, List.append_assoc, ← List.append_assoc] at hac
      have AC := Lib.hid hac
      clear hac hb O1
      by_cases h1 : s[k].toNat = 34 ∨ s[k].toNat = 92
      · have E := Lib.hid (fm_sl _ h1)
        have H1 := Lib.hid h1
        clear h1
        by_cases h34 : s[k].toNat = 34
        · have t1 : ((s[k].toNat : Int) == 34) = true := by simp; omega
          clear h34
          go_wp2_with (at_builtin; refine wpList_append_own _ rfl (.tmp 22) (.tmp 24) 33 rfl w.heap.size 5 i0 (.int .u8 0) 1 1 Tryd.underlying33 hi hz0 hz1 hz2 rfl (by decide) _ _ _ rfl (hown.alloc _) ⟨wr.heap.size, 0, none⟩ 2 2 [.int .u8 92, .int .u8 (s[k].toNat : Int)] rfl rfl (two_cells _ _ _ _) ?c2 ?c3 ?c4 ?c5 ?_)
          case c2 => intro u hu; simp at hu; rcases hu with rfl | rfl <;> rfl
          case c3 => unfold maxLen; omega
          case c4 => omega
          case c5 => simp; omega
          intro v' w3 hown' hgrow _
          have R3 := Lib.hid (ownB_app (acc := acc) (news := [92, s[k]]) hown')
          have B3 := Lib.hid ((B.out.alloc (by omega) _).grown hgrow (by simp; omega) HL.out)
          clear hown' hgrow hown
          go_wp2_with fail
          go_roundw
          case rel => exact ⟨k + 1, acc ++ [92, s[k]], by omega, by go_num, by simp; omega, by rw [AC.out, E.out], R3.out, B3.out⟩
          case measure => simp [intOf]; omega
        · have t1 : ((s[k].toNat : Int) == 34) = false := by simp; omega
          have t2 : ((s[k].toNat : Int) == 92) = true := by have := H1.out; simp; omega
          clear h34
          go_wp2_with (at_builtin; refine wpList_append_own _ rfl (.tmp 22) (.tmp 24) 33 rfl w.heap.size 5 i0 (.int .u8 0) 1 1 Tryd.underlying33 hi hz0 hz1 hz2 rfl (by decide) _ _ _ rfl (hown.alloc _) ⟨wr.heap.size, 0, none⟩ 2 2 [.int .u8 92, .int .u8 (s[k].toNat : Int)] rfl rfl (two_cells _ _ _ _) ?c2 ?c3 ?c4 ?c5 ?_)
          case c2 => intro u hu; simp at hu; rcases hu with rfl | rfl <;> rfl
          case c3 => unfold maxLen; omega
          case c4 => omega
          case c5 => simp; omega
          intro v' w3 hown' hgrow _
          have R3 := Lib.hid (ownB_app (acc := acc) (news := [92, s[k]]) hown')
          have B3 := Lib.hid ((B.out.alloc (by omega) _).grown hgrow (by simp; omega) HL.out)
          clear hown' hgrow hown
          go_wp2_with fail
          go_roundw
          case rel => exact ⟨k + 1, acc ++ [92, s[k]], by omega, by go_num, by simp; omega, by rw [AC.out, E.out], R3.out, B3.out⟩
          case measure => simp [intOf]; omega
      · have t1 : ((s[k].toNat : Int) == 34) = false := by simp; omega
        have t2 : ((s[k].toNat : Int) == 92) = false := by simp; omega
        by_cases h2 : s[k].toNat < 32 ∨ 126 < s[k].toNat
        · have E := Lib.hid (fm_hex _ h1 h2)
          have D1 := Lib.hid (digit_any ((s[k].toNat : Int) / 16) (s[k].toNat / 16) _ (by omega) (by omega) rfl)
          have D2 := Lib.hid (digit_any (s[k].toNat : Int) s[k].toNat _ rfl (by omega) rfl)
          rw [show s[k].toNat / 16 % 16 = s[k].toNat / 16 by omega] at D1
          generalize hx (s[k].toNat / 16) = x1 at *
          generalize hx (s[k].toNat % 16) = x2 at *
          by_cases h3 : s[k].toNat < 32
          · clear h1 h2
            go_wp2_with fail
            refine (D1.out _).mono ?_
            rintro e w' ⟨rfl, rfl⟩
            go_wp2_with fail
            refine (D2.out _).mono ?_
            rintro e w' ⟨rfl, rfl⟩
            go_wp2_with (at_builtin; refine wpList_append_own _ rfl (.tmp 32) (.tmp 38) 33 rfl w.heap.size 5 i0 (.int .u8 0) 1 1 Tryd.underlying33 hi hz0 hz1 hz2 rfl (by decide) _ _ _ rfl (hown.alloc _) ⟨wr.heap.size, 0, none⟩ 4 4 [.int .u8 92, .int .u8 120, .int .u8 (x1.toNat : Int), .int .u8 (x2.toNat : Int)] rfl rfl (four_cells _ _ _ _ _ _) ?c2 ?c3 ?c4 ?c5 ?_)
            case c2 => intro u hu; simp at hu; rcases hu with rfl | rfl | rfl | rfl <;> rfl
            case c3 => unfold maxLen; omega
            case c4 => omega
            case c5 => simp; omega
            intro v' w3 hown' hgrow _
            have R3 := Lib.hid (ownB_app (acc := acc) (news := [92, 120, x1, x2]) hown')
            have B3 := Lib.hid ((B.out.alloc (by omega) _).grown hgrow (by simp; omega) HL.out)
            clear hown' hgrow hown
            go_wp2_with fail
            go_roundw
            case rel => exact ⟨k + 1, acc ++ [92, 120, x1, x2], by omega, by go_num, by simp; omega, by rw [AC.out, E.out], R3.out, B3.out⟩
            case measure => simp [intOf]; omega
          · have h4 : 126 < s[k].toNat := by omega
            clear h1 h2
            go_wp2_with fail
            refine (D1.out _).mono ?_
            rintro e w' ⟨rfl, rfl⟩
            go_wp2_with fail
            refine (D2.out _).mono ?_
            rintro e w' ⟨rfl, rfl⟩
            go_wp2_with (at_builtin; refine wpList_append_own _ rfl (.tmp 32) (.tmp 38) 33 rfl w.heap.size 5 i0 (.int .u8 0) 1 1 Tryd.underlying33 hi hz0 hz1 hz2 rfl (by decide) _ _ _ rfl (hown.alloc _) ⟨wr.heap.size, 0, none⟩ 4 4 [.int .u8 92, .int .u8 120, .int .u8 (x1.toNat : Int), .int .u8 (x2.toNat : Int)] rfl rfl (four_cells _ _ _ _ _ _) ?c2 ?c3 ?c4 ?c5 ?_)
            case c2 => intro u hu; simp at hu; rcases hu with rfl | rfl | rfl | rfl <;> rfl
            case c3 => unfold maxLen; omega
            case c4 => omega
            case c5 => simp; omega
            intro v' w3 hown' hgrow _
            have R3 := Lib.hid (ownB_app (acc := acc) (news := [92, 120, x1, x2]) hown')
            have B3 := Lib.hid ((B.out.alloc (by omega) _).grown hgrow (by simp; omega) HL.out)
            clear hown' hgrow hown
            go_wp2_with fail
            go_roundw
            case rel => exact ⟨k + 1, acc ++ [92, 120, x1, x2], by omega, by go_num, by simp; omega, by rw [AC.out, E.out], R3.out, B3.out⟩
            case measure => simp [intOf]; omega
        · have E := Lib.hid (fm_id _ h1 h2)
          have h3 : ¬ s[k].toNat < 32 := by omega
          have h4 : ¬ 126 < s[k].toNat := by omega
          clear h1 h2
          go_wp2_with (at_builtin; refine wpList_append_own _ rfl (.tmp 40) (.tmp 42) 33 rfl w.heap.size 5 i0 (.int .u8 0) 1 1 Tryd.underlying33 hi hz0 hz1 hz2 rfl (by decide) _ _ _ rfl (hown.alloc _) ⟨wr.heap.size, 0, none⟩ 1 1 [.int .u8 (s[k].toNat : Int)] rfl rfl (one_cell _ _ _) ?c2 ?c3 ?c4 ?c5 ?_)
          case c2 => intro u hu; simp at hu; subst hu; rfl
          case c3 => unfold maxLen; omega
          case c4 => omega
          case c5 => simp; omega
          intro v' w3 hown' hgrow _
          have R3 := Lib.hid (ownB_app (acc := acc) (news := [s[k]]) hown')
          have B3 := Lib.hid ((B.out.alloc (by omega) _).grown hgrow (by simp; omega) HL.out)
          clear hown' hgrow hown
          go_wp2_with fail
          go_roundw
          case rel => exact ⟨k + 1, acc ++ [s[k]], by omega, by go_num, by simp; omega, by rw [AC.out, E.out], R3.out, B3.out⟩
          case measure => simp [intOf]; omega
    · have Q := Lib.hid (show quo s.data.toList = acc ++ [34] by rw [hac, at_end s k (by omega)]; rfl)
      clear hac hb O1
      go_wp2_with (at_builtin; refine wpList_append_own _ rfl (.tmp 44) (.tmp 45) 33 rfl w.heap.size 5 i0 (.int .u8 0) 1 1 Tryd.underlying33 hi hz0 hz1 hz2 rfl (by decide) _ _ _ rfl (hown.alloc _) ⟨wr.heap.size, 0, none⟩ 1 1 [.int .u8 34] rfl rfl (one_cell _ _ _) ?c2 ?c3 ?c4 ?c5 ?_)
      case c2 => intro u hu; simp at hu; subst hu; rfl
      case c3 => unfold maxLen; omega
      case c4 => omega
      case c5 => simp; omega
      intro v' w3 hown' hgrow _
      have hcv := conv_own (ownB_app (news := [34]) hown')
      have B3 := Lib.hid ((B.out.alloc (by omega) _).grown hgrow (by simp; omega) HL.out)
      clear hown' hgrow hown
      go_wp2_with fail
      go_ret
      exact ⟨ret_str (by rw [Q.out]), B3.out⟩
end Go.Proofs.YtmildkjkppnblaaDoor
