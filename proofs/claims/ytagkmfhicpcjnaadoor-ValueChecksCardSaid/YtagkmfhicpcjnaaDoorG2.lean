/- Texts of this proof, one behind the other: no claim of its own. -/
import Derived.Test.YtagkmfhicpcjnaaDoorG1
import Derived.WalkKit
import Derived.Deep.QuietTactic
import Derived.Laws.BitsAllLaws
import Derived.Laws.Bits128
import Derived.Test.YtagkmfhicpcjnaaDoorRows
import Derived.WalkSpells
import Derived.WalkLawsBesides
import Derived.Lib.Hide
import Derived.RegionTactic
import Derived.BigQuiet
import Derived.LoopTactic
import Derived.ProofKit
import Derived.Carry
import Derived.Deep.OwnRows
import Derived.ChangeAlike
import Derived.Laws.BytesArg
import Derived.Laws.NewBlocks
import Derived.Lib.Strings
import Derived.LoopN
import Derived.Deep.RegionHeld3
import Derived.Deep.AppendLies
import Derived.Lib.Walk
import Derived.Lib.SliceRun
import Derived.Lib.AppendZerosOnto
import Derived.Laws.OwnMore
import Derived.OpenShut
import Derived.Deep.Slices
import Derived.Deep.Fields
import Derived.Deep.Upon
import Derived.Shelf.SlSortCmp.QuietGrown
/- The contract of Quote of names. -/
set_option linter.unusedVariables false
set_option maxRecDepth 100000
namespace Go.Proofs.YtagkmfhicpcjnaaDoor.Names
open Go.RowKit

/-- The two tables of the library that the decoder reads lie as they were laid. -/
def Tabs (w : World) : Prop := Lib.Utf8Tabs 1 2 w
theorem Tabs.below {w w' : World} (h : Tabs w) (hb : Below w.heap.size w w') : Tabs w' := Utf8Tabs_below h hb

/-- An iterator over s, one block above B, stands at pos; the row v of the call's own holds these bytes. -/
structure QR (B : Nat) (w : World) (s : ByteArray) (pos : Nat) (v : Value) (acc : List UInt8) (wr : World) : Prop where
  it : wr.heap[B + 1]? = some (.stringIter s pos)
  ow : OwnB wr B v acc
  be : Below B w wr
theorem QR.lt {B : Nat} {w : World} {s : ByteArray} {pos : Nat} {v : Value} {acc : List UInt8} {wr : World} (h : QR B w s pos v acc wr) : B + 1 < wr.heap.size := (Array.getElem?_eq_some_iff.1 h.it).1
theorem QR.next {B : Nat} {w : World} {s : ByteArray} {pos : Nat} {v : Value} {acc : List UInt8} {wr : World} (h : QR B w s pos v acc wr) (p : Nat) : QR B w s p v acc (wr.iterAt (B + 1) s p) := by
  refine ⟨Lib.iterAt_heap wr (B + 1) s pos p h.it, ?_, Lib.below_iterAt h.be (by omega) s p⟩
  obtain ⟨h1, h2⟩ := h.ow
  refine ⟨h1, ?_⟩
  rcases h2 with h2 | ⟨g, cap, cur, a, b, c, d⟩
  · exact .inl h2
  · refine .inr ⟨g, cap, cur, a, b, ?_, d⟩
    rw [Lib.iterAt_other _ _ _ _ _ (fun e => by rw [e, h.it] at c; cases c)]
    exact c
theorem QR.call {B : Nat} {w : World} {s : ByteArray} {pos : Nat} {v : Value} {acc : List UInt8} {wr w2 : World} (h : QR B w s pos v acc wr) (hb : Below wr.heap.size wr w2) : QR B w s pos v acc w2 :=
  ⟨by rw [hb.block (B + 1) h.lt]; exact h.it, ownsRow_below h.ow hb, h.be.trans (hb.mono (by have := h.lt; omega))⟩
theorem QR.row {B : Nat} {w : World} {s : ByteArray} {pos : Nat} {v v' : Value} {acc acc' : List UInt8} {wr w2 : World} (h : QR B w s pos v acc wr) (ho : OwnB w2 B v' acc') (hb : Below B wr w2) (hi : Iters wr w2) : QR B w s pos v' acc' w2 :=
  ⟨hi _ _ _ h.it, ho, h.be.trans hb⟩
theorem QR.app {B : Nat} {w : World} {s : ByteArray} {pos : Nat} {v v' : Value} {acc news : List UInt8} {wr w3 : World} {o : Obj} (h : QR B w s pos v acc wr)
    (hown : w3.ownsRow B 5 1 v' (acc.length + news.length) (u8s acc ++ u8s news)) (hg : (wr.alloc o).grownBy w3 v.ownBlock) : QR B w s pos v' (acc ++ news) w3 :=
  ⟨iters_app h.ow hg _ _ _ h.it, ownB_app hown, (h.be.alloc (by have := h.lt; omega) _).grown hg (by have := h.lt; simp; omega) (fun k e => (h.ow.lt k e).1)⟩

theorem qb_split (l : List UInt8) (k : Nat) (h : ∀ c ∈ l.take k, fm c = hx2 c) : qb l = hxs (l.take k) ++ qb (l.drop k) := by
  have e : hxs (l.take k) = qb (l.take k) := by
    generalize l.take k = m at *
    induction m with
    | nil => rfl
    | cons c m ih => rw [hxs_cons, qb_cons, ih (fun d hd => h d (List.mem_cons_of_mem _ hd)), h c List.mem_cons_self]
  rw [e, ← qb_append, List.take_append_drop]
theorem ext_mid (s : ByteArray) (p k : Nat) : (s.extract p (p + k)).data.toList = (s.data.toList.drop p).take k := by
  simp [List.extract]

set_option maxRecDepth 100000 in
set_option maxHeartbeats 4000000 in
theorem quote_any (s : ByteArray) (w : World) (hs : s.size ≤ 100000) (hT : Tabs w) :
    Calls Tryd.prog 66 #[.string s] w (OutS w (bs (quo s.data.toList))) := by
  obtain ⟨i0, hi, hz0, hz1, hz2⟩ := info_parts info_u8
  have O1 := Lib.hid (own_one w 34)
  have T := Lib.hid hT
  clear hT
  go_enter Tryd.func66, Tryd.ntmps66
  go_wp2_with fail
  go_loopw [3] (fun v wr => ∃ (pos : Nat) (acc : List UInt8), pos ≤ s.size ∧ acc.length ≤ 1 + 4 * pos ∧ quo s.data.toList = acc ++ (qb (s.data.toList.drop pos) ++ [34]) ∧ QR w.heap.size w s pos v acc wr) (fun _ wr => s.size - wr.iterPos (w.heap.size + 1))
  case atStart =>
    refine ⟨0, [34], Nat.zero_le _, by simp, rfl, ?_, ?_, ?_⟩
    · have := World.iter_heap (w.alloc (Obj.cells #[.int .u8 34] 5)) s 0
      simpa using this
    · exact World.ownsRow.alloc O1.out _
    · exact ((Below.refl _ _).alloc (Nat.le_refl _) _).alloc (by simp) _
  case round =>
    obtain ⟨pos, acc, h1, h2, h3, hr⟩ := hrel
    have hpos := iterPos_of hr.it
    have TR := Lib.hid (T.out.below hr.be)
    by_cases hp : pos < s.size
    · have hnx : ∀ ty, (Instr.next (.pointer (some ⟨w.heap.size + 1, 0, none⟩)) true ty).run Tryd.prog wr = _ := fun ty => Lib.run_next_any_at wr (w.heap.size + 1) s pos ty hr.it hp
      have hr2 := hr.next (pos + (Utf8.decode s pos).2)
      have hd1 := decode_le s pos
      have hc := (s[pos]).toNat_lt
      have hdec : (Utf8.decode s pos).1 < 128 ∧ s[pos].toNat = (Utf8.decode s pos).1 ∧ (Utf8.decode s pos).2 = 1 ∨ 128 ≤ (Utf8.decode s pos).1 ∧ ¬ s[pos].toNat < 128 := by
        by_cases ha : s[pos].toNat < 128
        · rw [decode_ascii s pos hp ha]; exact Or.inl ⟨ha, rfl, rfl⟩
        · exact Or.inr ⟨(decode_high s pos hp (by omega)).1, ha⟩
      have hfit : pos + (Utf8.decode s pos).2 ≤ s.size ∧ 1 ≤ (Utf8.decode s pos).2 ∧ ((¬ plB (Utf8.decode s pos).1 ∧ ¬ ((Utf8.decode s pos).1 = 34 ∨ (Utf8.decode s pos).1 = 92)) → ∀ c ∈ (s.data.toList.drop pos).take (Utf8.decode s pos).2, fm c = hx2 c) := by
        by_cases ha : s[pos].toNat < 128
        · rw [decode_ascii s pos hp ha]
          refine ⟨hp, Nat.le_refl _, fun hn c hc => ?_⟩
          rw [at_drop s pos hp] at hc
          have hcs : c = s[pos] := by simpa using hc
          subst hcs
          exact fm_hex _ hn.2 (by
            have h1 := hn.1
            have : ¬ (32 ≤ s[pos].toNat ∧ s[pos].toNat ≤ 126 ∧ s[pos].toNat ≠ 34 ∧ s[pos].toNat ≠ 92) := fun h => h1 (decide_eq_true h)
            omega)
        · have e := decode_fits s pos hp (by omega)
          refine ⟨e.1, (decode_high s pos hp (by omega)).2, fun _ c hc => ?_⟩
          obtain ⟨j, hj, e2⟩ := List.mem_iff_getElem.1 hc
          rw [List.length_take, List.length_drop, toNat_bytes] at hj
          have hj2 : pos + j < s.size := by omega
          have e3 : c = s[pos + j] := by
            rw [← e2, List.getElem_take, List.getElem_drop]; rfl
          have h128 := e.2 j hj2 (by omega)
          rw [e3]
          exact fm_hex _ (by omega) (by omega)
      have hgo : Lib.decodeGo (s.extract pos s.size) = Utf8.decode s pos := by
        unfold Lib.decodeGo
        rw [if_neg (by simp; omega), Lib.tail_decode]; rfl
      obtain ⟨W1, hW1⟩ : ∃ W1, W1 = wr.iterAt (w.heap.size + 1) s (pos + (Utf8.decode s pos).2) := ⟨_, rfl⟩
      rw [← hW1] at hnx hr2
      have TW := Lib.hid (T.out.below hr2.be)
      have DG := Lib.hid (Tryd.utf8_DecodeRuneInString (s.extract pos s.size) W1 TW.out)
      rw [hgo] at DG
      have R2 := Lib.hid hr2
      have hm2 := iterPos_of hr2.it
      have hown := hr2.ow
      have hBlt := hr2.lt
      have H3 := Lib.hid h3
      generalize (Utf8.decode s pos).1 = cc at *
      generalize (Utf8.decode s pos).2 = kk at *
      obtain ⟨g1, g2, g3⟩ := hfit
      have G3 := Lib.hid g3
      have PA := Lib.hid (plain_any cc W1)
      clear h3 hr hr2 hW1 g3 hgo
      by_cases hpl : plB cc = true
      · have hpl2 := of_decide_eq_true hpl
        rw [hpl] at PA
        have hcc : s[pos].toNat = cc ∧ kk = 1 := by
          rcases hdec with h | h
          · exact h.2
          · omega
        obtain ⟨hc1, rfl⟩ := hcc
        have E := Lib.hid (show quo s.data.toList = (acc ++ [s[pos]]) ++ (qb (s.data.toList.drop (pos + 1)) ++ [34]) by
          rw [H3.out, at_drop s pos hp, qb_cons, fm_id _ (by omega) (by omega)]; simp)
        clear hdec hpl hpl2 hc1
        go_wp2_with fail
        refine PA.out.mono ?_
        rintro e w2 ⟨rfl, rfl⟩
        go_wp2_with (at_builtin; refine wpList_append_own _ rfl (.tmp 33) (.tmp 37) 65 rfl w.heap.size 5 i0 (.int .u8 0) 1 1 Tryd.underlying65 hi hz0 hz1 hz2 rfl (by decide) _ _ _ rfl (hown.alloc _) ⟨W1.heap.size, 0, none⟩ 1 1 [.int .u8 (s[pos].toNat : Int)] rfl rfl (one_cell _ _ _) ?c2 ?c3 ?c4 ?c5 ?_)
        case c2 => intro u hu; simp at hu; subst hu; rfl
        case c3 => unfold maxLen; omega
        case c4 => omega
        case c5 => simp; omega
        intro v' w3 hown' hgrow _
        have R3 := Lib.hid (R2.out.app (news := [s[pos]]) hown' hgrow)
        clear hown' hgrow hown
        go_wp2_with fail
        go_roundw
        case rel => exact ⟨pos + 1, acc ++ [s[pos]], g1, by rw [snoc_len]; omega, E.out, R3.out⟩
        case measure => rw [iterPos_of R3.out.it, hpos]; omega
      · have hpf : plB cc = false := by simpa using hpl
        rw [hpf] at PA
        by_cases hsl : cc = 34 ∨ cc = 92
        · have SL := Lib.hid (slash_yes cc W1 hsl)
          have hcc : s[pos].toNat = cc ∧ kk = 1 := by
            rcases hdec with h | h
            · exact h.2
            · omega
          obtain ⟨hc1, rfl⟩ := hcc
          have E := Lib.hid (show quo s.data.toList = (acc ++ [92, s[pos]]) ++ (qb (s.data.toList.drop (pos + 1)) ++ [34]) by
            rw [H3.out, at_drop s pos hp, qb_cons, fm_sl _ (by omega)]; simp)
          clear hdec hpl hpf hc1 hsl
          go_wp2_with fail
          refine PA.out.mono ?_
          rintro e w2 ⟨rfl, rfl⟩
          go_wp2_with fail
          refine SL.out.mono ?_
          rintro e w2 ⟨rfl, rfl⟩
          go_wp2_with (at_builtin; refine wpList_append_own _ rfl (.tmp 42) (.tmp 46) 65 rfl w.heap.size 5 i0 (.int .u8 0) 1 1 Tryd.underlying65 hi hz0 hz1 hz2 rfl (by decide) _ _ _ rfl (hown.alloc _) ⟨W1.heap.size, 0, none⟩ 2 2 [.int .u8 92, .int .u8 (s[pos].toNat : Int)] rfl rfl (two_cells _ _ _ _) ?c2 ?c3 ?c4 ?c5 ?_)
          case c2 => intro u hu; simp at hu; rcases hu with rfl | rfl <;> rfl
          case c3 => unfold maxLen; omega
          case c4 => omega
          case c5 => simp; omega
          intro v' w3 hown' hgrow _
          have R3 := Lib.hid (R2.out.app (news := [92, s[pos]]) hown' hgrow)
          clear hown' hgrow hown
          go_wp2_with fail
          go_roundw
          case rel => exact ⟨pos + 1, acc ++ [92, s[pos]], g1, by simp; omega, E.out, R3.out⟩
          case measure => rw [iterPos_of R3.out.it, hpos]; omega
        · have SL := Lib.hid (slash_no cc W1 hsl)
          have E := Lib.hid (show quo s.data.toList = (acc ++ hxs (s.extract pos (pos + kk)).data.toList) ++ (qb (s.data.toList.drop (pos + kk)) ++ [34]) by
            rw [H3.out, qb_split _ kk (G3.out ⟨by rw [hpf]; simp, hsl⟩), List.drop_drop, ext_mid]; simp)
          have hxl := Lib.hid (show (hxs (s.extract pos (pos + kk)).data.toList).length ≤ 4 * kk by
            rw [hxs_length, ext_mid, List.length_take]; omega)
          have hxz : (s.extract pos (pos + kk)).size ≤ 100000 := by
            rw [← toNat_bytes, ext_mid, List.length_take, List.length_drop, toNat_bytes]; omega
          have j1 : IntKind.i64.wrap ((pos : Int) + (kk : Int)) = (pos : Int) + (kk : Int) := IntWalk.i64_in _ (by omega)
          have j2 : (pos : Int) ≤ (pos : Int) + (kk : Int) := by omega
          have j3 : (pos : Int) + (kk : Int) ≤ (s.size : Int) := by omega
          have j4 : ((pos : Int) + (kk : Int)).toNat = pos + kk := by omega
          have HXZ := Lib.hid hxz
          clear hdec hpl hpf hsl hxz
          go_wp2_with fail
          refine PA.out.mono ?_
          rintro e w2 ⟨rfl, rfl⟩
          go_wp2_with fail
          refine SL.out.mono ?_
          rintro e w2 ⟨rfl, rfl⟩
          go_wp2_with fail
          refine DG.out.mono ?_
          rintro e w2 ⟨rfl, hb2⟩
          have R3 := Lib.hid (R2.out.call hb2)
          have HR := Lib.hid (hex_rows w.heap.size _ acc (s.extract pos (pos + kk)) w2 R3.out.ow (by have := R3.out.lt; omega) (by omega) HXZ.out)
          clear hb2 hown
          go_wp2_with fail
          refine HR.out.mono ?_
          rintro e w3 ⟨v', rfl, ho, hb3, hi3, hz3⟩
          have R4 := Lib.hid (R3.out.row ho hb3 hi3)
          clear ho hb3 hi3 hz3
          go_wp2_with fail
          go_roundw
          case rel => exact ⟨pos + kk, acc ++ hxs (s.extract pos (pos + kk)).data.toList, g1, by rw [List.length_append]; have := hxl.out; omega, E.out, R4.out⟩
          case measure => rw [iterPos_of R4.out.it, hpos]; omega
    · have hnx : ∀ ty, (Instr.next (.pointer (some ⟨w.heap.size + 1, 0, none⟩)) true ty).run Tryd.prog wr = _ := fun ty => Lib.run_next_end_at wr (w.heap.size + 1) s pos ty hr.it hp
      have E := Lib.hid (show quo s.data.toList = acc ++ [34] by rw [h3, at_end s pos (by omega)]; rfl)
      have R2 := Lib.hid hr
      have hown := hr.ow
      have hBlt := hr.lt
      clear h3 hr
      go_wp2_with (at_builtin; refine wpList_append_own _ rfl (.tmp 48) (.tmp 49) 65 rfl w.heap.size 5 i0 (.int .u8 0) 1 1 Tryd.underlying65 hi hz0 hz1 hz2 rfl (by decide) _ _ _ rfl (hown.alloc _) ⟨wr.heap.size, 0, none⟩ 1 1 [.int .u8 34] rfl rfl (one_cell _ _ _) ?c2 ?c3 ?c4 ?c5 ?_)
      case c2 => intro u hu; simp at hu; subst hu; rfl
      case c3 => unfold maxLen; omega
      case c4 => omega
      case c5 => simp; omega
      intro v' w3 hown' hgrow _
      have R3 := Lib.hid (R2.out.app (news := [34]) hown' hgrow)
      have hcv := conv_own R3.out.ow
      clear hown' hgrow hown
      go_wp2_with fail
      go_ret
      exact ⟨ret_str (by rw [E.out]), R3.out.be⟩
end Go.Proofs.YtagkmfhicpcjnaaDoor.Names
/- Contracts of Valid of names. -/
set_option linter.unusedVariables false
set_option maxRecDepth 100000
namespace Go.Proofs.YtagkmfhicpcjnaaDoor.Names
open Go.RowKit

def letB (n : Nat) : Bool := decide (97 ≤ n ∧ n ≤ 122)
def ltrB (n : Nat) : Bool := decide ((48 ≤ n ∧ n ≤ 57) ∨ n = 95 ∨ n = 45)
theorem nmB_eq (i : Nat) (c : UInt8) : nmB i c = (letB c.toNat || (decide (i ≠ 0) && ltrB c.toNat)) := rfl
theorem nmF_cons (i : Nat) (c : UInt8) (r : List UInt8) : nmF i (c :: r) = (nmB i c && nmF (i + 1) r) := rfl
theorem nmF_nil (i : Nat) : nmF i [] = true := rfl

set_option maxHeartbeats 400000 in
theorem letter_any (n : Nat) (w : World) :
    Calls Tryd.prog 69 #[.int .i32 (n : Int)] w fun e w' => e = .returned (.bool (letB n)) ∧ w = w' := by
  by_cases h1 : 97 ≤ n
  · by_cases h2 : n ≤ 122
    · have E := Lib.hid (show letB n = true from decide_eq_true ⟨h1, h2⟩)
      have d1 : decide ((n : Int) ≤ 122) = true := decide_eq_true (by omega)
      go_enter Tryd.func69, Tryd.ntmps69
      go_wp2_with fail
      go_ret
      exact ⟨ret_bool E.out.symm, rfl⟩
    · have E := Lib.hid (show letB n = false from decide_eq_false (by omega))
      have d1 : decide ((n : Int) ≤ 122) = false := decide_eq_false (by omega)
      go_enter Tryd.func69, Tryd.ntmps69
      go_wp2_with fail
      go_ret
      exact ⟨ret_bool E.out.symm, rfl⟩
  · have E := Lib.hid (show letB n = false from decide_eq_false (by omega))
    go_enter Tryd.func69, Tryd.ntmps69
    go_wp2_with fail
    go_ret
    exact ⟨ret_bool E.out.symm, rfl⟩

set_option maxHeartbeats 400000 in
theorem later_any (n : Nat) (w : World) :
    Calls Tryd.prog 70 #[.int .i32 (n : Int)] w fun e w' => e = .returned (.bool (ltrB n)) ∧ w = w' := by
  by_cases h1 : 48 ≤ n ∧ n ≤ 57
  · have E := Lib.hid (show ltrB n = true from decide_eq_true (Or.inl h1))
    obtain ⟨h1, h2⟩ := h1
    go_enter Tryd.func70, Tryd.ntmps70
    go_wp2_with fail
    go_ret
    exact ⟨ret_bool E.out.symm, rfl⟩
  · have t0 : (decide (48 ≤ n) && decide (n ≤ 57)) = false := by simp; omega
    by_cases h95 : n = 95
    · have E := Lib.hid (show ltrB n = true from decide_eq_true (Or.inr (Or.inl h95)))
      have g1 : 48 ≤ n := by omega
      have g2 : ¬ n ≤ 57 := by omega
      have t1 : ((n : Int) == 95) = true := by simp; omega
      clear h95 h1
      go_enter Tryd.func70, Tryd.ntmps70
      go_wp2_with fail
      go_ret
      exact ⟨ret_bool E.out.symm, rfl⟩
    · have t1 : ((n : Int) == 95) = false := by simp; omega
      by_cases h45 : n = 45
      · have E := Lib.hid (show ltrB n = true from decide_eq_true (Or.inr (Or.inr h45)))
        have g1 : ¬ 48 ≤ n := by omega
        have t2 : ((n : Int) == 45) = true := by simp; omega
        clear h45 h1 h95
        go_enter Tryd.func70, Tryd.ntmps70
        go_wp2_with fail
        go_ret
        exact ⟨ret_bool E.out.symm, rfl⟩
      · have t2 : ((n : Int) == 45) = false := by simp; omega
        have E := Lib.hid (show ltrB n = false from decide_eq_false (by omega))
        by_cases g1 : 48 ≤ n
        · have g2 : decide ((n : Int) ≤ 57) = false := decide_eq_false (by omega)
          clear h45 h1 h95
          go_enter Tryd.func70, Tryd.ntmps70
          go_wp2_with fail
          go_ret
          exact ⟨ret_bool E.out.symm, rfl⟩
        · clear h45 h1 h95
          go_enter Tryd.func70, Tryd.ntmps70
          go_wp2_with fail
          go_ret
          exact ⟨ret_bool E.out.symm, rfl⟩

/-- A bool is handed back, and memory has only grown. -/
def OutBool (b : Bool) (w : World) (e : Ending) (w' : World) : Prop := e = .returned (.bool b) ∧ Below w.heap.size w w'
theorem outb {b c : Bool} {w w' : World} (h : b = c) (hb : Below w.heap.size w w') : OutBool b w (.returned (.bool c)) w' := by subst h; exact ⟨rfl, hb⟩
theorem nm_empty {l : List UInt8} (h : ¬ 0 < l.length) : nm l = false := by
  unfold nm; rw [decide_eq_false (by omega)]; rfl
theorem nm_long {l : List UInt8} (h : 24 < l.length) : nm l = false := by
  unfold nm; rw [decide_eq_false (by omega)]; rfl
theorem nm_go {l : List UInt8} (h : 0 < l.length) (h2 : ¬ 24 < l.length) : nm l = nmF 0 l := by
  unfold nm; rw [decide_eq_true (by omega)]; rfl

set_option maxHeartbeats 2000000 in
theorem valid_any (s : ByteArray) (w : World) (hs : s.size ≤ 9223372036854775807) (b : Bool) (hbb : nm s.data.toList = b) :
    Calls Tryd.prog 40 #[.string s] w (OutBool b w) := by
  have hl := toNat_bytes s
  by_cases h0 : 0 < s.size
  case neg =>
    obtain rfl := eq_empty s h0
    have X := Lib.hid (show b = false by rw [← hbb]; rfl)
    have n1 : (bs []).toList = [] := by rw [Lib.toList_data]; rfl
    have n2 : (bs []).toList.isEmpty = true := by rw [n1]; rfl
    clear hbb h0 hl
    go_enter Tryd.func40, Tryd.ntmps40
    go_wp2_with fail
    go_ret
    exact outb X.out (Below.refl _ _)
  have n1 := ne_list s h0
  have n2 := ne_empty s h0
  by_cases h24 : 24 < s.size
  · have X := Lib.hid (show b = false by rw [← hbb]; exact nm_long (by omega))
    clear hbb hl
    go_enter Tryd.func40, Tryd.ntmps40
    go_wp2_with fail
    go_ret
    exact outb X.out (Below.refl _ _)
  have X := Lib.hid (show b = nmF 0 (s.data.toList.drop 0) by rw [← hbb, List.drop_zero]; exact nm_go (by omega) (by omega))
  clear hbb hl
  go_enter Tryd.func40, Tryd.ntmps40
  go_wp2_with fail
  go_loopw [] (fun wr => ∃ (pos : Nat), pos ≤ s.size ∧ b = nmF pos (s.data.toList.drop pos) ∧ wr.heap[w.heap.size]? = some (.stringIter s pos) ∧ Below w.heap.size w wr) (fun wr => s.size - wr.iterPos w.heap.size)
  case atStart => exact ⟨0, Nat.zero_le _, X.out, World.iter_heap w s 0, (Below.refl _ _).alloc (Nat.le_refl _) _⟩
  case round =>
    obtain ⟨pos, h1, h2, hit, hb⟩ := hrel
    have hpos := iterPos_of hit
    by_cases hp : pos < s.size
    · have hnx : ∀ ty, (Instr.next (.pointer (some ⟨w.heap.size, 0, none⟩)) true ty).run Tryd.prog wr = _ := fun ty => Lib.run_next_any_at wr w.heap.size s pos ty hit hp
      have hd1 := decode_le s pos
      have hit2 := Lib.iterAt_heap wr w.heap.size s pos (pos + (Utf8.decode s pos).2) hit
      have hb2 := Lib.below_iterAt hb (Nat.le_refl _) s (pos + (Utf8.decode s pos).2)
      rw [at_drop s pos hp, nmF_cons, nmB_eq] at h2
      have hcc : (letB s[pos].toNat = letB (Utf8.decode s pos).1 ∧ ltrB s[pos].toNat = ltrB (Utf8.decode s pos).1) ∧ ((letB (Utf8.decode s pos).1 || ltrB (Utf8.decode s pos).1) = true → (Utf8.decode s pos).2 = 1) := by
        by_cases ha : s[pos].toNat < 128
        · rw [decode_ascii s pos hp ha]; exact ⟨⟨rfl, rfl⟩, fun _ => rfl⟩
        · have e := (decode_high s pos hp (by omega)).1
          have e1 : letB (Utf8.decode s pos).1 = false := decide_eq_false (by omega)
          have e2 : ltrB (Utf8.decode s pos).1 = false := decide_eq_false (by omega)
          refine ⟨⟨?_, ?_⟩, fun h => ?_⟩
          · rw [e1]; exact decide_eq_false (by omega)
          · rw [e2]; exact decide_eq_false (by omega)
          · rw [e1, e2] at h; cases h
      obtain ⟨⟨c1, c2⟩, c3⟩ := hcc
      rw [c1, c2] at h2
      obtain ⟨W1, hW1⟩ : ∃ W1, W1 = wr.iterAt w.heap.size s (pos + (Utf8.decode s pos).2) := ⟨_, rfl⟩
      rw [← hW1] at hnx hit2 hb2
      have B2 := Lib.hid hb2
      have I2 := Lib.hid hit2
      have hm2 := iterPos_of hit2
      generalize (Utf8.decode s pos).1 = cc at *
      generalize (Utf8.decode s pos).2 = kk at *
      have L1 := Lib.hid (letter_any cc)
      have L2 := Lib.hid (later_any cc)
      rcases hl1 : letB cc with _ | _
      · rw [hl1] at L1 h2 c3
        by_cases hz : pos = 0
        · have X2 := Lib.hid (show b = false by rw [h2, hz]; rfl)
          have hz1 : ((pos : Int) == 0) = true := by simp; omega
          clear h2 hit hb hW1 hb2 hit2 X c1 c2 c3 hl1 hz
          go_wp2_with fail
          refine (L1.out _).mono ?_
          rintro e w' ⟨rfl, rfl⟩
          go_wp2_with fail
          go_ret
          exact outb X2.out B2.out
        · have hz1 : ((pos : Int) == 0) = false := by simp; omega
          rw [decide_eq_true hz] at h2
          rcases hl2 : ltrB cc with _ | _
          · rw [hl2] at L2 h2
            have X2 := Lib.hid (show b = false by rw [h2]; rfl)
            clear h2 hit hb hW1 hb2 hit2 X c1 c2 c3 hl1 hl2 hz
            go_wp2_with fail
            refine (L1.out _).mono ?_
            rintro e w' ⟨rfl, rfl⟩
            go_wp2_with fail
            refine (L2.out _).mono ?_
            rintro e w' ⟨rfl, rfl⟩
            go_wp2_with fail
            go_ret
            exact outb X2.out B2.out
          · rw [hl2] at L2 h2 c3
            obtain rfl := c3 rfl
            have X2 := Lib.hid (show b = nmF (pos + 1) (s.data.toList.drop (pos + 1)) by rw [h2]; rfl)
            clear h2 hit hb hW1 hb2 hit2 X c1 c2 c3 hl1 hl2 hz
            go_wp2_with fail
            refine (L1.out _).mono ?_
            rintro e w' ⟨rfl, rfl⟩
            go_wp2_with fail
            refine (L2.out _).mono ?_
            rintro e w' ⟨rfl, rfl⟩
            go_wp2_with fail
            go_roundw
            case rel => exact ⟨pos + 1, hp, X2.out, I2.out, B2.out⟩
            case measure => rw [hm2, hpos]; omega
      · rw [hl1] at L1 h2 c3
        obtain rfl := c3 rfl
        have X2 := Lib.hid (show b = nmF (pos + 1) (s.data.toList.drop (pos + 1)) by rw [h2]; rfl)
        clear h2 hit hb hW1 hb2 hit2 X c1 c2 c3 hl1
        go_wp2_with fail
        refine (L1.out _).mono ?_
        rintro e w' ⟨rfl, rfl⟩
        go_wp2_with fail
        go_roundw
        case rel => exact ⟨pos + 1, hp, X2.out, I2.out, B2.out⟩
        case measure => rw [hm2, hpos]; omega
    · have hnx : ∀ ty, (Instr.next (.pointer (some ⟨w.heap.size, 0, none⟩)) true ty).run Tryd.prog wr = _ := fun ty => Lib.run_next_end_at wr w.heap.size s pos ty hit hp
      have X2 := Lib.hid (show b = true by rw [h2, at_end s pos (by omega)]; rfl)
      have B := Lib.hid hb
      clear h2 hit hb X
      go_wp2_with fail
      go_ret
      exact outb X2.out B.out

end Go.Proofs.YtagkmfhicpcjnaaDoor.Names
/- Contract of lives; slices of strings. -/
set_option linter.unusedVariables false
set_option maxRecDepth 100000
namespace Go.Proofs.YtagkmfhicpcjnaaDoor.Names
open Go.RowKit

/-- The cells of a row of strings of the call's own. -/
theorem own_cells {w : World} {B : Nat} {v : Value} {l : List (List UInt8)} (h : OwnStr w B v l) (hl : 0 < l.length) :
    ∃ g cap, v = .slice (some ⟨g, 0, none⟩) l.length cap ∧ B ≤ g ∧ g < w.heap.size ∧ ∀ i (hi : i < l.length), w.cell? ⟨g, i, none⟩ = some (.string (bs l[i])) := by
  rcases h.2 with ⟨_, h0⟩ | ⟨g, cap, cur, hv, h2, h3, h4⟩
  · omega
  · subst hv
    refine ⟨g, cap, rfl, h2, (Array.getElem?_eq_some_iff.1 h3).1, fun i hi => ?_⟩
    have := h.cells (g := g) rfl i (.string (bs l[i])) (by unfold strs; rw [List.getElem?_map, List.getElem?_eq_getElem hi]; rfl)
    rw [add_off, Nat.zero_add] at this
    exact this

/-- The slice v reads as these strings. -/
def StrsAt (w : World) (v : Value) (l : List (List UInt8)) : Prop := ∃ A c, v = .slice A l.length c ∧ ∀ i (hi : i < l.length), ∃ b o, A = some ⟨b, o, none⟩ ∧ b < w.heap.size ∧ w.cell? ⟨b, o + i, none⟩ = some (.string (bs l[i]))
theorem strsAt_own {w : World} {B : Nat} {v : Value} {l : List (List UInt8)} (h : OwnStr w B v l) : StrsAt w v l := by
  by_cases hl : 0 < l.length
  · obtain ⟨g, cap, rfl, _, hg, hc⟩ := own_cells h hl
    exact ⟨_, _, rfl, fun i hi => ⟨g, 0, rfl, hg, by rw [Nat.zero_add]; exact hc i hi⟩⟩
  · have h0 : l.length = 0 := by omega
    rcases h.2 with ⟨rfl, _⟩ | ⟨g, cap, cur, rfl, _⟩
    · exact ⟨none, 0, by rw [h0], fun i hi => absurd hi (by omega)⟩
    · exact ⟨some ⟨g, 0, none⟩, cap, rfl, fun i hi => absurd hi (by omega)⟩
theorem StrsAt.below {w w' : World} {v : Value} {l : List (List UInt8)} (h : StrsAt w v l) (hb : Below w.heap.size w w') : StrsAt w' v l := by
  obtain ⟨A, c, hv, hc⟩ := h
  refine ⟨A, c, hv, fun i hi => ?_⟩
  obtain ⟨b, o, hA, hlt, hcell⟩ := hc i hi
  have := hb.size
  exact ⟨b, o, hA, by omega, by rw [hb.cell (p := ⟨b, o + i, none⟩) hlt]; exact hcell⟩
theorem str_test (a b : List UInt8) (c : Bool) (h : decide (a = b) = c) : ((bs a).toList == (bs b).toList) = c := by
  subst h
  rw [Lib.toList_data, Lib.toList_data, bs_data, bs_data]
  exact Bool.eq_iff_iff.2 (by simp)
theorem str_test' (a b : List UInt8) (c : Bool) (h : decide (a = b) = c) : ((bs a).toList != (bs b).toList) = !c := by
  unfold bne; rw [str_test a b c h]

theorem below_more (w : World) (n m : Nat) : Below w.heap.size w ((w.drewN n).drewN m) := ⟨rfl, rfl, rfl, Nat.le_refl _, fun _ _ => rfl⟩
end Go.Proofs.YtagkmfhicpcjnaaDoor.Names
/- The walks of NamesQuotes, NamesBack, NamesPrintable and NamesJoined. -/
set_option linter.unusedVariables false
set_option maxRecDepth 100000
namespace Go.Proofs.YtagkmfhicpcjnaaDoor.Names
open Go.RowKit

theorem rdq_quo (l : List UInt8) : rdq (quo l) = some (l, (quo l).length) := by
  have := rdq_complete l []
  rw [List.append_nil] at this
  exact this
theorem unq_quo (l : List UInt8) : unq (quo l) = if 60 < l.length then ([], 3) else (l, 0) := by
  by_cases h : 60 < l.length
  · rw [if_pos h]; exact unq_long (rdq_quo l) (Nat.lt_irrefl _) h
  · rw [if_neg h]; exact unq_good (rdq_quo l) (Nat.lt_irrefl _) h
theorem unq_sound {l t : List UInt8} (h : unq l = (t, 0)) : l = quo t ∧ t.length ≤ 60 := by
  rcases hr : rdq l with _ | ⟨t', n⟩
  · rw [unq_none hr] at h; cases h
  · by_cases h1 : n < l.length
    · rw [unq_more hr h1] at h; cases h
    · by_cases h2 : 60 < t'.length
      · rw [unq_long hr h1 h2] at h; cases h
      · rw [unq_good hr h1 h2] at h
        cases h
        obtain ⟨r, e, hn⟩ := rdq_sound hr
        have hl := congrArg List.length e
        rw [List.length_append] at hl
        have : r = [] := List.eq_nil_of_length_eq_zero (by omega)
        rw [this, List.append_nil] at e
        exact ⟨e, by omega⟩

/-- The second half: whatever was accepted is the quoted form of the result. -/
theorem quo_size (l : List UInt8) : (bs (quo l)).size ≤ 4 * l.length + 2 := by
  rw [bs_size, quo_length]; have := qb_length l; omega
end Go.Proofs.YtagkmfhicpcjnaaDoor.Names
/- Plain mathematics of limited integers; no program in sight. -/
set_option linter.unusedVariables false
set_option maxRecDepth 100000
namespace Go.Proofs.YtagkmfhicpcjnaaDoor
open Go.RowKit

/-- The number, limited to the range of values. -/
def sat (n : Int) : Int := if 1099511627776 < n then 1099511627776 else if n < -1099511627776 then -1099511627776 else n

theorem sat_in (n : Int) : -1099511627776 ≤ sat n ∧ sat n ≤ 1099511627776 := by unfold sat; split <;> (try split) <;> omega
theorem sat_id (n : Int) (h1 : -1099511627776 ≤ n) (h2 : n ≤ 1099511627776) : sat n = n := by unfold sat; rw [if_neg (by omega), if_neg (by omega)]
theorem sat_hi (n : Int) (h : 1099511627776 ≤ n) : sat n = 1099511627776 := by unfold sat; split <;> (try split) <;> omega
theorem sat_lo (n : Int) (h : n ≤ -1099511627776) : sat n = -1099511627776 := by unfold sat; split <;> (try split) <;> omega
/-- The quotient of the limited numbers, rounded down. -/
def flo (a b : Int) : Int := if b = 0 then 0 else (sat a).fdiv (sat b)

theorem sat_ne (b : Int) (h : b ≠ 0) : sat b ≠ 0 := by unfold sat; split <;> (try split) <;> omega
theorem sat_neg (b : Int) : sat b < 0 ↔ b < 0 := by unfold sat; split <;> (try split) <;> omega
theorem sat_opp (b : Int) : sat (-b) = -sat b := by unfold sat; (repeat' split) <;> omega
theorem sat_sat (b : Int) : sat (sat b) = sat b := sat_id _ (sat_in b).1 (sat_in b).2

theorem tdiv_bd (x y : Int) (h1 : -1099511627776 ≤ x) (h2 : x ≤ 1099511627776) : -1099511627776 ≤ x.tdiv y ∧ x.tdiv y ≤ 1099511627776 := by
  have h := Int.natAbs_tdiv x y
  have h3 := Nat.div_le_self x.natAbs y.natAbs
  have h4 : x.natAbs.div y.natAbs = x.natAbs / y.natAbs := rfl
  omega

theorem fdiv_same (x y : Int) (hy : y ≠ 0) (h : x.tmod y = 0 ∨ (x < 0 ↔ y < 0)) : x.fdiv y = x.tdiv y := by
  rw [Int.fdiv_eq_tdiv]
  by_cases hd : y ∣ x
  · rw [if_pos hd]; omega
  · rw [if_neg hd]
    have hm : ¬ x.tmod y = 0 := fun e => hd (Int.dvd_of_tmod_eq_zero e)
    by_cases hx : 0 ≤ x
    · rw [if_pos hx, if_pos (by omega)]; omega
    · rw [if_neg hx, if_neg (by omega), Int.sign_eq_neg_one_of_neg (by omega)]; omega

theorem fdiv_less (x y : Int) (hy : y ≠ 0) (hm : x.tmod y ≠ 0) (h : ¬ (x < 0 ↔ y < 0)) : x.fdiv y = x.tdiv y - 1 := by
  rw [Int.fdiv_eq_tdiv]
  have hd : ¬ y ∣ x := fun e => hm (Int.tmod_eq_zero_of_dvd e)
  rw [if_neg hd]
  by_cases hx : 0 ≤ x
  · rw [if_pos hx, if_neg (by omega)]
  · rw [if_neg hx, if_pos (by omega), Int.sign_eq_one_of_pos (by omega)]

theorem fdiv_t1 (x y : Int) (hy : y ≠ 0) (h : x.tmod y = 0) : x.tdiv y = x.fdiv y := (fdiv_same x y hy (Or.inl h)).symm
theorem fdiv_t2 (x y : Int) (hy : y ≠ 0) (h : (x.tmod y != 0) = true ∧ (!decide (x < 0) == decide (y < 0)) = true) : x.tdiv y - 1 = x.fdiv y := by
  refine (fdiv_less x y hy (by simpa using h.1) ?_).symm
  intro e; have h2 := h.2; by_cases hx : x < 0 <;> by_cases hy' : y < 0 <;> simp [hx, hy'] at h2 e
theorem fdiv_t3 (x y : Int) (hy : y ≠ 0) (h : (x.tmod y != 0) = false ∨ (!decide (x < 0) == decide (y < 0)) = false) : x.tdiv y = x.fdiv y := by
  rcases h with h | h
  · exact fdiv_t1 x y hy (by simpa using h)
  · refine (fdiv_same x y hy (Or.inr ?_)).symm
    by_cases hx : x < 0 <;> by_cases hy' : y < 0 <;> simp [hx, hy'] at h ⊢

theorem flo_z (a : Int) : flo a 0 = 0 := rfl
theorem flo_nz (a b : Int) (h : b ≠ 0) : flo a b = (sat a).fdiv (sat b) := by unfold flo; rw [if_neg h]
theorem flo_bd (a b : Int) : -1099511627777 ≤ flo a b ∧ flo a b ≤ 1099511627776 := by
  by_cases h : b = 0
  · subst h; rw [flo_z]; omega
  · rw [flo_nz a b h]
    have h1 := sat_in a
    have h2 := tdiv_bd (sat a) (sat b) h1.1 h1.2
    by_cases hm : (sat a).tmod (sat b) = 0
    · rw [fdiv_same _ _ (sat_ne b h) (Or.inl hm)]; omega
    · by_cases hs : (sat a < 0 ↔ sat b < 0)
      · rw [fdiv_same _ _ (sat_ne b h) (Or.inr hs)]; omega
      · rw [fdiv_less _ _ (sat_ne b h) hm hs]; omega

theorem u64_in (n : Int) (h0 : 0 ≤ n) (h1 : n ≤ 18446744073709551615) : IntKind.u64.wrap n = n := by
  show n % 18446744073709551616 = n
  omega
theorem u64_neg (n : Int) (h0 : -18446744073709551615 ≤ n) (h1 : n < 0) : IntKind.u64.wrap (-IntKind.u64.wrap n) = -n := by
  show (-(n % 18446744073709551616)) % 18446744073709551616 = -n
  omega
theorem and_mask20 (n : Nat) (h : n ≤ 1099511627776) : bits BinOp.and IntKind.u64 (n : Int) 1048575 = (n : Int) % 1048576 := by
  have e := u64_and_nat n 1048575 (by omega) (by omega)
  have e2 := Nat.and_two_pow_sub_one_eq_mod n 20
  simp only [show 2 ^ 20 - 1 = 1048575 from rfl, show 2 ^ 20 = 1048576 from rfl] at e2
  rw [e2] at e; exact e.trans (by omega)

/-- The quotient that the halves give. -/
def smq (n a b : Nat) : Nat := min (n * (a / 1048576) / b) 1099511627776 * 1048576 + (n * (a / 1048576) % b * 1048576 + n * (a % 1048576)) / b

theorem grown_trans {a b c : World} (h1 : Grown a b) (h2 : Grown b c) : Grown a c :=
  ⟨World.keptBut_trans h1.1 (World.keptBut_mono (fun _ f => f) (h2.1)), fun x => (h2.2.1 x).trans (h1.2.1 x), Nat.le_trans h1.2.2 h2.2.2⟩

theorem smq_int (n a b : Nat) : ((smq n a b : Nat) : Int) = min ((n : Int) * ((a : Int) / 1048576) / (b : Int)) 1099511627776 * 1048576 + ((n : Int) * ((a : Int) / 1048576) % (b : Int) * 1048576 + (n : Int) * ((a : Int) % 1048576)) / (b : Int) := by
  have h : ((n * (a / 1048576) / b : Nat) : Int) = (n : Int) * ((a : Int) / 1048576) / (b : Int) := by simp
  unfold smq; simp; rw [← h]; omega
theorem rem_int (n a b : Nat) : ((n * a % b : Nat) : Int) = ((n : Int) * ((a : Int) / 1048576) % (b : Int) * 1048576 + (n : Int) * ((a : Int) % 1048576)) % (b : Int) := by
  have h : n * a = n * (a / 1048576) * 1048576 + n * (a % 1048576) := by
    have : a = a / 1048576 * 1048576 + a % 1048576 := by omega
    conv => lhs; rw [this]
    rw [Nat.mul_add, Nat.mul_assoc]
  have h2 : n * a % b = (n * (a / 1048576) % b * 1048576 + n * (a % 1048576)) % b := by
    rw [h]
    conv => lhs; rw [Nat.add_mod, Nat.mul_mod]
    conv => rhs; rw [Nat.add_mod, Nat.mul_mod]
    simp
  rw [h2]; simp
theorem u64_to_int (n : Int) (h0 : 0 ≤ n) (h1 : n ≤ 9223372036854775807) : IntKind.i64.wrap n = n := IntWalk.i64_in n ⟨by omega, by omega⟩
theorem prod_bd (n x y z : Nat) (h1 : n ≤ y) (h2 : x ≤ z) : n * x ≤ y * z := Nat.mul_le_mul h1 h2

theorem grown_drewN {a b : World} (h : Grown a b) (n : Nat) : Grown a (b.drewN n) := h

theorem quo_halves (n a b : Nat) (hz : 1 ≤ b) : n * a / b = n * (a / 1048576) / b * 1048576 + (n * (a / 1048576) % b * 1048576 + n * (a % 1048576)) / b := by
  have h : n * a = n * (a / 1048576) * 1048576 + n * (a % 1048576) := by
    have : a = a / 1048576 * 1048576 + a % 1048576 := by omega
    conv => lhs; rw [this]
    rw [Nat.mul_add, Nat.mul_assoc]
  rw [h]
  generalize n * (a / 1048576) = p
  generalize n * (a % 1048576) = v
  have e : p * 1048576 + v = b * (p / b * 1048576) + (p % b * 1048576 + v) := by
    have hp := Nat.div_add_mod p b
    have hp2 : b * (p / b * 1048576) = b * (p / b) * 1048576 := by rw [Nat.mul_assoc]
    omega
  rw [e, Nat.mul_add_div (by omega)]
theorem smq_bd (n a b : Nat) (hn : n ≤ 1099511627776) (ha : a ≤ 1099511627776) (hz : 1 ≤ b) : smq n a b ≤ 4611686018427387904 := by
  unfold smq
  have h1 : (n * (a / 1048576) % b * 1048576 + n * (a % 1048576)) / b ≤ 1048576 + n * (a % 1048576) := by
    have hm : n * (a / 1048576) % b < b := Nat.mod_lt _ (by omega)
    generalize n * (a / 1048576) % b = m at *
    have hv : n * (a % 1048576) / b ≤ n * (a % 1048576) := Nat.div_le_self _ _
    generalize n * (a % 1048576) = v at *
    refine Nat.div_le_of_le_mul ?_
    have e1 : m * 1048576 ≤ b * 1048576 := by omega
    have e2 : v ≤ b * v := by have := Nat.mul_le_mul hz (Nat.le_refl v); omega
    exact Nat.le_trans (Nat.add_le_add e1 e2) (Nat.le_of_eq (Nat.mul_add b 1048576 v).symm)
  have h2 := prod_bd n (a % 1048576) 1099511627776 1048576 hn (by omega)
  omega
theorem smq_sat (n a b : Nat) (hz : 1 ≤ b) : (smq n a b = n * a / b) ∨ (1099511627776 ≤ smq n a b ∧ 1099511627776 ≤ n * a / b) := by
  have h := quo_halves n a b hz
  unfold smq
  rw [h]
  generalize n * (a / 1048576) / b = u
  generalize (n * (a / 1048576) % b * 1048576 + n * (a % 1048576)) / b = v
  omega
/-- A limited quotient out of its sign, its magnitude and its rest. -/
def sclF (neg : Bool) (q r : Nat) : Int := sat (if neg then -((q : Int) + if r = 0 then 0 else 1) else q)
theorem sclF_smq (neg : Bool) (n a b : Nat) (r : Nat) (hz : 1 ≤ b) : sclF neg (smq n a b) r = sclF neg (n * a / b) r := by
  rcases smq_sat n a b hz with h | ⟨h1, h2⟩
  · rw [h]
  · generalize smq n a b = u at *
    generalize n * a / b = v at *
    unfold sclF
    by_cases hr : r = 0 <;> cases neg <;> simp [hr]
    · rw [sat_hi _ (by omega), sat_hi _ (by omega)]
    · rw [sat_lo _ (by omega), sat_lo _ (by omega)]
    · rw [sat_hi _ (by omega), sat_hi _ (by omega)]
    · rw [sat_lo _ (by omega), sat_lo _ (by omega)]
/-- The product's limited quotient. -/
def scl (n a b : Int) : Int := if b = 0 then 0 else
  sclF (!((!(decide (sat n < 0) == decide (sat a < 0))) == decide (sat b < 0))) ((sat n).natAbs * (sat a).natAbs / (sat b).natAbs) ((sat n).natAbs * (sat a).natAbs % (sat b).natAbs)
theorem scl_z (n a : Int) : scl n a 0 = 0 := rfl
theorem scl_nz (n a b : Int) (h : b ≠ 0) : scl n a b = sclF (!((!(decide (sat n < 0) == decide (sat a < 0))) == decide (sat b < 0))) ((sat n).natAbs * (sat a).natAbs / (sat b).natAbs) ((sat n).natAbs * (sat a).natAbs % (sat b).natAbs) := by
  unfold scl; rw [if_neg h]
theorem sclF_pos (c : Bool) (q r : Nat) (h : c = true) : sat q = sclF (!c) q r := by subst h; rfl
theorem sclF_up (c : Bool) (q : Nat) (x y z : Nat) (h : c = false) (hr : (((x : Int) * (y : Int) % (z : Int)) != 0) = true) : sat (-((q : Int) + 1)) = sclF (!c) q (x * y % z) := by
  subst h
  have hr' : ¬ ((x : Int) * (y : Int) % (z : Int)) = 0 := by simpa using hr
  have : ¬ x * y % z = 0 := by
    intro e
    exact hr' (by have h2 : ((x * y % z : Nat) : Int) = (x : Int) * (y : Int) % (z : Int) := by simp
                  omega)
  unfold sclF; simp [this]
theorem sclF_at (c : Bool) (q : Nat) (x y z : Nat) (h : c = false) (hr : (((x : Int) * (y : Int) % (z : Int)) != 0) = false) : sat (-(q : Int)) = sclF (!c) q (x * y % z) := by
  subst h
  have hr' : ((x : Int) * (y : Int) % (z : Int)) = 0 := by simpa using hr
  have : x * y % z = 0 := by
    have h2 : ((x * y % z : Nat) : Int) = (x : Int) * (y : Int) % (z : Int) := by simp
    omega
  unfold sclF; simp [this]

/-- Quotient and rest after all bits of Y from the j-th on. -/
def sQ (X Y Z j : Nat) : Nat := min (X * (Y / 2 ^ j) / Z) 4398046511104
def sR (X Y Z j : Nat) : Nat := X * (Y / 2 ^ j) % Z
theorem sQ_le (X Y Z j : Nat) : sQ X Y Z j ≤ 4398046511104 := by unfold sQ; omega
theorem sR_lt (X Y Z j : Nat) (hz : 1 ≤ Z) : sR X Y Z j < Z := Nat.mod_lt _ (by omega)
theorem half_pow (Y m : Nat) : Y / 2 ^ m = 2 * (Y / 2 ^ (m + 1)) + Y / 2 ^ m % 2 := by
  have h : Y / 2 ^ (m + 1) = Y / 2 ^ m / 2 := by rw [Nat.pow_succ, Nat.div_div_eq_div_mul]
  omega
theorem s_step (X A B c Z : Nat) (hz : 1 ≤ Z) (h : B = 2 * A + c) : X * B / Z = 2 * (X * A / Z) + (2 * (X * A % Z) + X * c) / Z ∧ X * B % Z = (2 * (X * A % Z) + X * c) % Z := by
  have hp := Nat.div_add_mod (X * A) Z
  have e : X * B = Z * (2 * (X * A / Z)) + (2 * (X * A % Z) + X * c) := by
    subst h
    have e1 : X * (2 * A + c) = 2 * (X * A) + X * c := by rw [Nat.mul_add, Nat.mul_left_comm]
    have e2 : Z * (2 * (X * A / Z)) = 2 * (Z * (X * A / Z)) := Nat.mul_left_comm _ _ _
    omega
  rw [e, Nat.mul_add_div (by omega), Nat.mul_add_mod]
  exact ⟨rfl, rfl⟩
theorem s_zero (X Y Z m : Nat) (hz : 1 ≤ Z) (h : Y / 2 ^ m % 2 = 0) : sR X Y Z m = 2 * sR X Y Z (m + 1) % Z ∧ sQ X Y Z m = min (2 * sQ X Y Z (m + 1) + 2 * sR X Y Z (m + 1) / Z) 4398046511104 := by
  have hs := s_step X (Y / 2 ^ (m + 1)) (Y / 2 ^ m) 0 Z hz (by have := half_pow Y m; omega)
  unfold sR sQ
  simp only [Nat.mul_zero, Nat.add_zero] at hs
  rw [hs.1, hs.2]
  refine ⟨rfl, ?_⟩
  generalize X * (Y / 2 ^ (m + 1)) / Z = u
  generalize 2 * (X * (Y / 2 ^ (m + 1)) % Z) / Z = v
  omega
theorem s_one (X Y Z m : Nat) (hz : 1 ≤ Z) (h : Y / 2 ^ m % 2 = 1) : sR X Y Z m = (2 * sR X Y Z (m + 1) + X) % Z ∧ sQ X Y Z m = min (2 * sQ X Y Z (m + 1) + (2 * sR X Y Z (m + 1) + X) / Z) 4398046511104 := by
  have hs := s_step X (Y / 2 ^ (m + 1)) (Y / 2 ^ m) 1 Z hz (by have := half_pow Y m; omega)
  unfold sR sQ
  simp only [Nat.mul_one] at hs
  rw [hs.1, hs.2]
  refine ⟨rfl, ?_⟩
  generalize X * (Y / 2 ^ (m + 1)) / Z = u
  generalize (2 * (X * (Y / 2 ^ (m + 1)) % Z) + X) / Z = v
  omega
theorem s_start (X Y Z : Nat) (hy : Y ≤ 1099511627776) : sQ X Y Z 41 = 0 ∧ sR X Y Z 41 = 0 := by
  have h : Y / 2 ^ 41 = 0 := Nat.div_eq_of_lt (by omega)
  unfold sQ sR; rw [h]; simp

theorem xor3 (A B C : Bool) : (!((!(A == B)) == C)) = (!(A == (!(B == C)))) := by cases A <;> cases B <;> cases C <;> rfl
theorem s_end (X Y Z : Nat) : sQ X Y Z 0 = min (X * Y / Z) 4398046511104 ∧ sR X Y Z 0 = X * Y % Z := by unfold sQ sR; simp
theorem s_up (X Y Z : Nat) (h : 0 < sR X Y Z 0) : sat (-((sQ X Y Z 0 : Nat) + 1)) = sclF true (X * Y / Z) (X * Y % Z) := by
  have e := s_end X Y Z
  rw [e.2] at h; rw [e.1]
  generalize X * Y / Z = u
  generalize X * Y % Z = v at *
  have hv : ¬ v = 0 := by omega
  unfold sclF; simp only [hv, if_true, if_false]
  by_cases hu : u ≤ 4398046511104
  · rw [show min u 4398046511104 = u by omega]
  · rw [sat_lo _ (by omega), sat_lo _ (by omega)]
theorem s_dn (X Y Z : Nat) (h : ¬ 0 < sR X Y Z 0) : sat (-(sQ X Y Z 0 : Nat)) = sclF true (X * Y / Z) (X * Y % Z) := by
  have e := s_end X Y Z
  rw [e.2] at h; rw [e.1]
  generalize X * Y / Z = u
  generalize X * Y % Z = v at *
  have hv : v = 0 := by omega
  unfold sclF; simp only [hv, if_true]
  by_cases hu : u ≤ 4398046511104
  · rw [show min u 4398046511104 = u by omega]; simp
  · rw [sat_lo _ (by omega), sat_lo _ (by omega)]
theorem s_ps (X Y Z : Nat) : sat (sQ X Y Z 0 : Nat) = sclF false (X * Y / Z) (X * Y % Z) := by
  have e := s_end X Y Z
  rw [e.1]
  generalize X * Y / Z = u
  unfold sclF
  by_cases hu : u ≤ 4398046511104
  · rw [show min u 4398046511104 = u by omega]; simp
  · rw [sat_hi _ (by omega)]; simp; rw [sat_hi _ (by omega)]

theorem i64_and1 (n : Int) : bits .and .i64 n 1 = n % 2 := by
  have h1 : (BitVec.ofInt 64 1).toNat = 2 ^ 1 - 1 := by decide
  have key : (BitVec.ofInt 64 n &&& BitVec.ofInt 64 1).toNat = (n % ((2 ^ 64 : Nat) : Int)).toNat % 2 ^ 1 := by
    rw [BitVec.toNat_and, BitVec.toNat_ofInt, h1, Nat.and_two_pow_sub_one_eq_mod]
  show IntKind.i64.wrap ((BitVec.ofInt 64 n &&& BitVec.ofInt 64 1).toNat : Nat) = n % 2
  rw [key, IntKind.wrap_i64]
  omega
theorem bit_test (Y m : Nat) : (bits BinOp.and IntKind.i64 ((Y : Int) / 2 ^ m) 1 == 1) = decide (Y / 2 ^ m % 2 = 1) := by
  rw [i64_and1]
  have e : ((Y / 2 ^ m % 2 : Nat) : Int) = (Y : Int) / 2 ^ m % 2 := by simp
  rw [← e]
  by_cases h : Y / 2 ^ m % 2 = 1
  · rw [h]; rfl
  · rw [decide_eq_false h]; simp; omega
theorem quo_le (r Z : Nat) (hz : 1 ≤ Z) : (r : Int) / (Z : Int) ≤ r ∧ 0 ≤ (r : Int) / (Z : Int) :=
  ⟨Int.ediv_le_self _ (by omega), Int.ediv_nonneg (by omega) (by omega)⟩

theorem natAbs_pos (a : Int) (h : a ≠ 0) : 1 ≤ (sat a).natAbs := by have := sat_ne a h; omega
theorem scl1 (a b : Int) : scl a b 1 = sclF (!(decide (a < 0) == decide (b < 0))) ((sat a).natAbs * (sat b).natAbs) 0 := by
  rw [scl_nz a b 1 (by omega)]
  have e1 : sat 1 = 1 := rfl
  have da : decide (sat a < 0) = decide (a < 0) := decide_eq_decide.2 (sat_neg a)
  have db : decide (sat b < 0) = decide (b < 0) := decide_eq_decide.2 (sat_neg b)
  rw [da, db, e1]
  have e2 : Int.natAbs 1 = 1 := rfl
  rw [e2, Nat.div_one, Nat.mod_one]
  cases decide (a < 0) <;> cases decide (b < 0) <;> rfl
theorem scl1_big (a b : Int) (h : 1099511627776 ≤ (sat a).natAbs * (sat b).natAbs) : ((!decide (a < 0) == decide (b < 0)) = true → -1099511627776 = scl a b 1) ∧ ((!decide (a < 0) == decide (b < 0)) = false → 1099511627776 = scl a b 1) := by
  rw [scl1]
  generalize (sat a).natAbs * (sat b).natAbs = u at *
  constructor
  · intro e; rw [e]; unfold sclF; simp; rw [sat_lo _ (by omega)]
  · intro e; rw [e]; unfold sclF; simp; rw [sat_hi _ (by omega)]
theorem scl1_sml (a b : Int) (h : (sat a).natAbs * (sat b).natAbs ≤ 1099511627776) : ((!decide (a < 0) == decide (b < 0)) = true → -((sat a).natAbs * (sat b).natAbs : Int) = scl a b 1) ∧ ((!decide (a < 0) == decide (b < 0)) = false → ((sat a).natAbs * (sat b).natAbs : Int) = scl a b 1) := by
  rw [scl1]
  have e : (((sat a).natAbs * (sat b).natAbs : Nat) : Int) = ((sat a).natAbs : Int) * ((sat b).natAbs : Int) := by simp only [Int.natCast_mul]
  rw [← e]
  generalize (sat a).natAbs * (sat b).natAbs = u at *
  constructor
  · intro e; rw [e]; unfold sclF; simp; rw [sat_id _ (by omega) (by omega)]
  · intro e; rw [e]; unfold sclF; simp; rw [sat_id _ (by omega) (by omega)]
theorem scl1_out (a b : Int) (ha : a ≠ 0) (hb : b ≠ 0) (h : ¬ (-1099511627776 ≤ a ∧ a ≤ 1099511627776 ∧ -1099511627776 ≤ b ∧ b ≤ 1099511627776)) : 1099511627776 ≤ (sat a).natAbs * (sat b).natAbs := by
  have h1 := natAbs_pos a ha
  have h2 := natAbs_pos b hb
  have h3 : (sat a).natAbs = 1099511627776 ∨ (sat b).natAbs = 1099511627776 := by
    by_cases ea : 1099511627776 ≤ a
    · rw [sat_hi a ea]; exact Or.inl rfl
    · by_cases ea' : a ≤ -1099511627776
      · rw [sat_lo a ea']; exact Or.inl rfl
      · by_cases eb : 1099511627776 ≤ b
        · rw [sat_hi b eb]; exact Or.inr rfl
        · by_cases eb' : b ≤ -1099511627776
          · rw [sat_lo b eb']; exact Or.inr rfl
          · omega
  rcases h3 with h3 | h3
  · rw [h3]; omega
  · rw [h3]; omega
theorem over_quo (X Y : Nat) (hy : 1 ≤ Y) : (1099511627776 : Int) / (Y : Int) < (X : Int) ↔ 1099511627776 < X * Y := by
  have e : ((1099511627776 / Y : Nat) : Int) = (1099511627776 : Int) / (Y : Int) := by simp
  rw [← e, Int.ofNat_lt]
  exact Nat.div_lt_iff_lt_mul (by omega)
end Go.Proofs.YtagkmfhicpcjnaaDoor
/- Small facts of endings, numbers, boxes and memory that has only grown, for every seat. -/
set_option linter.unusedVariables false
set_option maxRecDepth 100000
namespace Go.Proofs.YtagkmfhicpcjnaaDoor
open Go.RowKit

theorem ret_int {k : IntKind} {a b : Int} (h : a = b) : Ending.returned (.int k a) = .returned (.int k b) := by rw [h]
theorem ret_bool {a b : Bool} (h : a = b) : Ending.returned (.bool a) = .returned (.bool b) := by rw [h]
theorem val_int {k : IntKind} {a b : Int} (h : a = b) : Value.int k a = Value.int k b := by rw [h]
/-- A callee that leaves the world alone, met in a region that draws. -/
theorem quiet_same {P : Program} {f : FuncId} {args : Array Value} {w : World} {n : Nat} {v : Value}
    (h : Calls P f args (w.drewN n) fun e w' => e = .returned v ∧ w.drewN n = w') : Calls P f args (w.drewN n) fun e w'' => e = .returned v ∧ ∃ m, w'' = w.drewN m :=
  h.mono fun _ _ ⟨he, hm⟩ => ⟨he, n, hm.symm⟩
theorem df {p : Prop} [Decidable p] (h : ¬ p) : decide p = false := decide_eq_false h
theorem dt {p : Prop} [Decidable p] (h : p) : decide p = true := decide_eq_true h
/-- The number fits an int. -/
def I64 (n : Int) : Prop := -9223372036854775808 ≤ n ∧ n ≤ 9223372036854775807
theorem i64_small {n : Int} (h : -1000000000000 ≤ n ∧ n ≤ 1000000000000) : I64 n := by unfold I64; omega
theorem box_at {w w1 : World} {cs : Array Value} {T : TypeId} (hb : Below (w.alloc (.cells cs T)).heap.size (w.alloc (.cells cs T)) w1) (j : Nat) {v : Value} (h : cs[j]? = some v) : w1.cell? ⟨w.heap.size, j, none⟩ = some v :=
  (hb.cell (p := ⟨w.heap.size, j, none⟩) (by simp)).trans (by simp [h])
theorem box_below {w w1 : World} {o : Obj} (hb : Below (w.alloc o).heap.size (w.alloc o) w1) : Below w.heap.size w w1 :=
  ((Below.refl w.heap.size w).alloc (Nat.le_refl _) o).trans (hb.mono (by simp))
theorem below_drewN {B : Nat} {a w : World} (h : Below B a w) (n : Nat) : Below B a (w.drewN n) := ⟨h.os, h.tape, h.output, h.size, h.block⟩
/-- A bool is handed back, and memory has only grown. -/
def OutB (w : World) (b : Bool) (e : Ending) (w' : World) : Prop := e = .returned (.bool b) ∧ Below w.heap.size w w'
theorem outB {w w' : World} {a b : Bool} (h : a = b) (hb : Below w.heap.size w w') : OutB w b (.returned (.bool a)) w' := ⟨by rw [h], hb⟩
/-- A number is handed back, and memory has only grown. -/
def OutI (w : World) (n : Int) (e : Ending) (w' : World) : Prop := e = .returned (.int .i64 n) ∧ Below w.heap.size w w'
theorem outI {w w' : World} {a b : Int} (h : a = b) (hb : Below w.heap.size w w') : OutI w b (.returned (.int .i64 a)) w' := ⟨by rw [h], hb⟩
theorem drop_one {α : Type} (l : List α) (k : Nat) (h : k < l.length) : l.drop k = l[k] :: l.drop (k + 1) := List.drop_eq_getElem_cons h
theorem alloc_below (w : World) (o : Obj) : Below w.heap.size w (w.alloc o) := (Below.refl _ _).alloc (Nat.le_refl _) o
theorem gb_below {a b : World} {r : Option Nat} (h : Below a.heap.size a b) : a.grownBy b r := ⟨h.os, h.tape, h.output, h.size, fun k hk _ => h.block k hk⟩
/-- A row of the call's own, behind a callee that only makes memory. -/
theorem own_below {w w' : World} {B : Nat} {e : TypeId} {size : Nat} {v : Value} {n : Nat} {xs : List Value} (h : w.ownsRow B e size v n xs) (hb : Below w.heap.size w w') : w'.ownsRow B e size v n xs :=
  h.kept (row := none) (gb_below hb) (by cases hv : v.ownBlock with | none => exact Or.inl rfl | some b => exact Or.inr (by simp))
theorem info_get {P : Program} {T : TypeId} {z : Option Value} {n m : Nat} (h : (P.info? T).map (fun i => (i.zero, i.size, i.bytes)) = some (z, n, m)) : ∃ i, P.info? T = some i ∧ i.zero = z ∧ i.size = n ∧ i.bytes = m := by
  obtain ⟨i, h1, h2⟩ := Option.map_eq_some_iff.1 h
  simp only [Prod.mk.injEq] at h2
  exact ⟨i, h1, h2.1, h2.2.1, h2.2.2⟩
theorem kit_and1 (n : Int) : bits .and .i64 n 1 = n % 2 := by
  have h1 : (BitVec.ofInt 64 1).toNat = 2 ^ 1 - 1 := by decide
  have key : (BitVec.ofInt 64 n &&& BitVec.ofInt 64 1).toNat = (n % ((2 ^ 64 : Nat) : Int)).toNat % 2 ^ 1 := by
    rw [BitVec.toNat_and, BitVec.toNat_ofInt, h1, Nat.and_two_pow_sub_one_eq_mod]
  show IntKind.i64.wrap ((BitVec.ofInt 64 n &&& BitVec.ofInt 64 1).toNat : Nat) = n % 2
  rw [key, IntKind.wrap_i64]
  omega

/-! One block, whole: 'w.heap[b]? = some (.cells cs T (0, 0))'. -/
section
variable {w : World} {b : Nat} {cs : Array Value} {T : TypeId}
theorem blk_lt (h : w.heap[b]? = some (.cells cs T (0, 0))) : b < w.heap.size := (Array.getElem?_eq_some_iff.1 h).1
theorem blk_cell (h : w.heap[b]? = some (.cells cs T (0, 0))) (j : Nat) {v : Value} (hv : cs[j]? = some v) : w.cell? ⟨b, j, none⟩ = some v := by simp [World.cell?, h, hv]
theorem blk_fr (h : w.heap[b]? = some (.cells cs T (0, 0))) (j : Nat) : w.frozen? ⟨b, j, none⟩ = false := by simp [World.frozen?, h]
theorem blk_set (h : w.heap[b]? = some (.cells cs T (0, 0))) (j : Nat) (v : Value) : (w.setCell ⟨b, j, none⟩ v).heap[b]? = some (.cells (cs.setIfInBounds j v) T (0, 0)) := by simp [World.setCell, Array.getElem?_modify, h]
theorem blk_other {o : Option Obj} (h : w.heap[b]? = o) {a : Addr} (hne : b ≠ a.block) (v : Value) : (w.setCell a v).heap[b]? = o := (Below.heap_setCell w a v b hne).trans h
theorem blk_alloc {o : Obj} (h : w.heap[b]? = some o) (x : Obj) : (w.alloc x).heap[b]? = some o := (Below.heap_alloc w x b (Array.getElem?_eq_some_iff.1 h).1).trans h
theorem blk_new (w : World) (o : Obj) : (w.alloc o).heap[w.heap.size]? = some o := by
  show (w.heap.push o)[w.heap.size]? = some o
  simp
theorem blk_below {w' : World} {o : Obj} {B : Nat} (h : w.heap[b]? = some o) (hb : Below B w w') (hB : b < B) : w'.heap[b]? = some o := (hb.block b hB).trans h
theorem blk_grown {w' : World} {o : Obj} {r : Option Nat} (h : w.heap[b]? = some o) (hg : w.grownBy w' r) (hr : some b ≠ r) : w'.heap[b]? = some o := (hg.block b (Array.getElem?_eq_some_iff.1 h).1 hr).trans h
end
end Go.Proofs.YtagkmfhicpcjnaaDoor
/- Contracts of the small functions of num and of the reference. -/
set_option linter.unusedVariables false
set_option maxRecDepth 100000
namespace Go.Proofs.YtagkmfhicpcjnaaDoor
open Go.RowKit

set_option maxHeartbeats 400000 in
theorem clamp_any (a lo hi : Int) (w : World) :
    Calls Tryd.prog 46 #[.int .i64 a, .int .i64 lo, .int .i64 hi] w fun e w' => e = .returned (.int .i64 (min (max a lo) hi)) ∧ w = w' := by
  go_enter Tryd.func46, Tryd.ntmps46
  go_wp2
  all_goals (go_ret; refine ⟨ret_int ?_, rfl⟩; (repeat' split at *) <;> omega)

set_option maxHeartbeats 400000 in
theorem nsat_any (a : Int) (w : World) :
    Calls Tryd.prog 97 #[.int .i64 a] w fun e w' => e = .returned (.int .i64 (sat a)) ∧ w = w' := by
  go_enter Tryd.func97, Tryd.ntmps97
  go_wp2_with (go_at_call 46; refine (clamp_any _ _ _ _).mono ?_; rintro e w' ⟨rfl, rfl⟩)
  go_ret; refine ⟨ret_int ?_, rfl⟩; unfold sat; (repeat' split) <;> omega

end Go.Proofs.YtagkmfhicpcjnaaDoor
/- Contracts of the functions that scale. -/
set_option linter.unusedVariables false
set_option maxRecDepth 100000
namespace Go.Proofs.YtagkmfhicpcjnaaDoor
open Go.RowKit

theorem ret_two {k l : IntKind} {a b c d : Int} (h : a = b) (h2 : c = d) : Ending.returned (.tuple #[.int k a, .int l c]) = .returned (.tuple #[.int k b, .int l d]) := by rw [h, h2]

set_option maxHeartbeats 400000 in
theorem mag_any (a : Int) (w : World) (ha : I64 a) :
    Calls Tryd.prog 87 #[.int .i64 a] w fun e w' => e = .returned (.int .u64 (a.natAbs : Int)) ∧ w = w' := by
  go_enter Tryd.func87, Tryd.ntmps87
  go_wp2
  all_goals (go_ret; refine ⟨ret_int ?_, rfl⟩; unfold I64 at *)
  · rw [u64_neg _ (by omega) (by omega)]; omega
  · rw [u64_in _ (by omega) (by omega)]; omega

end Go.Proofs.YtagkmfhicpcjnaaDoor
/- Contracts of the reference's functions that scale. -/
set_option linter.unusedVariables false
set_option maxRecDepth 100000
namespace Go.Proofs.YtagkmfhicpcjnaaDoor
open Go.RowKit

end Go.Proofs.YtagkmfhicpcjnaaDoor
/- Plain mathematics of decimal digits; no program in sight. -/
set_option linter.unusedVariables false
set_option maxRecDepth 100000
namespace Go.Proofs.YtagkmfhicpcjnaaDoor
open Go.RowKit

/-- The last k digits of m. -/
def low : Nat → Nat → List Int
  | 0, _ => []
  | k + 1, m => (48 + (m / 10 ^ k % 10 : Nat) : Int) :: low k m
theorem low_length (k m : Nat) : (low k m).length = k := by
  induction k with
  | zero => rfl
  | succ k ih => simp [low, ih]
/-- All digits of m, given enough fuel. -/
def dec : Nat → Nat → List Int
  | 0, _ => []
  | f + 1, m => if m < 10 then [(48 + m : Int)] else dec f (m / 10) ++ [(48 + (m % 10 : Nat) : Int)]
theorem low_snoc (k m : Nat) : low (k + 1) m = low k (m / 10) ++ [(48 + (m % 10 : Nat) : Int)] := by
  induction k with
  | zero => simp [low]
  | succ k ih =>
    have e : m / 10 ^ (k + 1) = m / 10 / 10 ^ k := by rw [Nat.pow_succ, Nat.mul_comm, Nat.div_div_eq_div_mul]
    show (48 + (m / 10 ^ (k + 1) % 10 : Nat) : Int) :: low (k + 1) m = (48 + (m / 10 / 10 ^ k % 10 : Nat) : Int) :: low k (m / 10) ++ _
    rw [ih, e]; rfl
theorem dec_low (k : Nat) : ∀ (f m : Nat), k < f → m / 10 ^ (k + 1) = 0 → (k = 0 ∨ m / 10 ^ k ≠ 0) → dec f m = low (k + 1) m := by
  induction k with
  | zero =>
    intro f m hf h _
    obtain ⟨f, rfl⟩ : ∃ g, f = g + 1 := ⟨f - 1, by omega⟩
    have hm : m < 10 := by simp at h; omega
    simp only [dec, if_pos hm, low]
    have e : m / 10 ^ 0 % 10 = m := by simp; omega
    rw [e]
  | succ k ih =>
    intro f m hf h h2
    obtain ⟨f, rfl⟩ : ∃ g, f = g + 1 := ⟨f - 1, by omega⟩
    have e1 : m / 10 ^ (k + 1 + 1) = m / 10 / 10 ^ (k + 1) := by rw [Nat.pow_succ 10 (k + 1), Nat.mul_comm, Nat.div_div_eq_div_mul]
    have e2 : m / 10 ^ (k + 1) = m / 10 / 10 ^ k := by rw [Nat.pow_succ, Nat.mul_comm, Nat.div_div_eq_div_mul]
    have h3 : m / 10 / 10 ^ k ≠ 0 := by rcases h2 with h2 | h2; · omega
                                        · rw [← e2]; exact h2
    have hm : ¬ m < 10 := by
      intro hm
      apply h3
      have : m / 10 = 0 := by omega
      rw [this, Nat.zero_div]
    simp only [dec, if_neg hm]
    rw [low_snoc, ih f (m / 10) (by omega) (by rw [← e1]; exact h) (Or.inr h3)]
theorem dec_fuel : ∀ (f m : Nat), m < 10 ^ f → dec f m = dec (f + 1) m ∨ f = 0 := by
  intro f
  induction f with
  | zero => intro m _; exact Or.inr rfl
  | succ f ih =>
    intro m hm
    refine Or.inl ?_
    by_cases h : m < 10
    · simp [dec, h]
    · have h1 : m / 10 < 10 ^ f := by rw [Nat.div_lt_iff_lt_mul (by omega)]; rw [Nat.pow_succ] at hm; exact hm
      rcases ih (m / 10) h1 with e | e
      · show (if m < 10 then _ else dec f (m / 10) ++ _) = (if m < 10 then _ else dec (f + 1) (m / 10) ++ _)
        rw [if_neg h, if_neg h, e]
      · subst e; simp at hm; omega
/-- The digits of a number below 10^20. -/
def decN (m : Nat) : List Int := dec 20 m
theorem decN_small (m : Nat) (h : m < 10) : decN m = [(48 + m : Int)] := by unfold decN; simp [dec, h]
theorem decN_step (m : Nat) (h : ¬ m < 10) (h2 : m < 100000000000000000000) : decN m = decN (m / 10) ++ decN (m % 10) := by
  rw [decN_small (m % 10) (by omega)]
  unfold decN
  rcases dec_fuel 19 (m / 10) (by omega) with e | e
  · show (if m < 10 then _ else dec 19 (m / 10) ++ _) = _
    rw [if_neg h, e]
  · omega
theorem decN_low (k m : Nat) (hk : k < 19) (h : m / 10 ^ (k + 1) = 0) (h2 : k = 0 ∨ m / 10 ^ k ≠ 0) : low (k + 1) m = decN m := (dec_low k 20 m (by omega) h h2).symm
/-- The text of a number. -/
def digL (n : Int) : List Int := if n < 0 then 45 :: decN n.natAbs else decN n.natAbs
def digS (n : Int) : ByteArray := strOfNums (digL n)
end Go.Proofs.YtagkmfhicpcjnaaDoor
/- Contracts of the reference's Digits, for every seat: nothing below has changed (made out of XWalkD by sed). -/
set_option linter.unusedVariables false
set_option maxRecDepth 100000
namespace Go.Proofs.YtagkmfhicpcjnaaDoor
open Go.RowKit

theorem bgt {a b c : World} (h : Below a.heap.size a b) (k : Below b.heap.size b c) : Below a.heap.size a c := h.trans (k.mono h.size)

set_option maxHeartbeats 400000 in
theorem rdig_small (n : Int) (w : World) (hn : 0 ≤ n) (hn2 : n ≤ 9) :
    Calls Tryd.prog 67 #[.int .i64 n] w fun e w' => e = .returned (.string (strOfNums [48 + n])) ∧ Below w.heap.size w w' := by
  have kc := run_convert_bytes_arg (P := Tryd.prog) (w.alloc (.cells #[.int .u8 (48 + n)] 5)) 65 5 Tryd.underlying65 Tryd.underlying5 w.heap.size 0 1 1 [48 + n] rfl (fun i hi => by
    obtain rfl : i = 0 := by omega
    simp) 9 Tryd.underlying9
  go_enter Tryd.func67, Tryd.ntmps67
  go_wp2_with fail
  go_ret
  exact ⟨rfl, alloc_below _ _⟩

theorem nums_app (xs ys : List Int) : strOfNums xs ++ strOfNums ys = strOfNums (xs ++ ys) := by
  apply ByteArray.ext
  simp [strOfNums, ByteArray.data_append]
theorem nums_45 : (⟨#[45]⟩ : ByteArray) = strOfNums [45] := rfl
theorem ret_str {a b : ByteArray} (h : a = b) : Ending.returned (.string a) = .returned (.string b) := by rw [h]

set_option maxHeartbeats 400000 in
theorem rdig_nsmall (n : Int) (w : World) (hn : -10 < n) (hn2 : n < 0) :
    Calls Tryd.prog 67 #[.int .i64 n] w fun e w' => e = .returned (.string (strOfNums [45, 48 - n])) ∧ Below w.heap.size w w' := by
  go_enter Tryd.func67, Tryd.ntmps67
  go_wp2_with (go_at_call 67; refine (rdig_small _ _ (by omega) (by omega)).mono ?_; rintro e w' ⟨rfl, hg⟩)
  go_ret
  exact ⟨ret_str (by rw [nums_45, nums_app, Int.sub_eq_add_neg]; rfl), hg⟩

theorem dec_len (f m : Nat) : (dec f m).length ≤ f := by
  induction f generalizing m with
  | zero => simp [dec]
  | succ f ih => by_cases h : m < 10 <;> simp [dec, h]; have := ih (m / 10); omega
theorem decN_len (m : Nat) : (decN m).length ≤ 20 := dec_len 20 m
theorem digS_size (n : Int) : (digS n).size ≤ 21 := by
  unfold digS digL; rw [strOfNums_size]
  have := decN_len n.natAbs
  split <;> simp <;> omega

set_option maxHeartbeats 400000 in
theorem rdig_ind (f : Nat) : ∀ (n : Int) (w : World), I64 n → n.natAbs < 10 ^ (f + 1) → 
    Calls Tryd.prog 67 #[.int .i64 n] w fun e w' => e = .returned (.string (digS n)) ∧ Below w.heap.size w w' := by
  induction f with
  | zero =>
    intro n w _ hn
    have hn' : n.natAbs < 10 := by simpa using hn
    by_cases h0 : 0 ≤ n
    · refine (rdig_small n w h0 (by omega)).mono ?_
      rintro e w' ⟨rfl, hg⟩
      refine ⟨ret_str ?_, hg⟩
      unfold digS digL; rw [if_neg (by omega), decN_small _ hn', show ((n.natAbs : Nat) : Int) = n by omega]
    · refine (rdig_nsmall n w (by omega) (by omega)).mono ?_
      rintro e w' ⟨rfl, hg⟩
      refine ⟨ret_str ?_, hg⟩
      unfold digS digL; rw [if_pos (by omega), decN_small _ hn', show ((n.natAbs : Nat) : Int) = -n by omega, Int.sub_eq_add_neg]
  | succ f ih =>
    intro n w hi hn
    by_cases hs : n.natAbs < 10
    · exact ih n w hi (Nat.lt_of_lt_of_le hs (by rw [Nat.pow_succ]; have : 0 < 10 ^ f := Nat.pow_pos (by omega); omega))
    unfold I64 at hi
    have hq : n.natAbs / 10 < 10 ^ (f + 1) := by rw [Nat.div_lt_iff_lt_mul (by omega)]; rw [Nat.pow_succ] at hn; exact hn
    by_cases h0 : 0 ≤ n
    · have s1 := digS_size (n / 10)
      have s2 := strOfNums_size [48 + n % 10]
      have s3 : (strOfNums [48 + n % 10]).size ≤ 1 := by rw [s2]; simp
      have E : Hid (digS (n / 10) ++ strOfNums [48 + n % 10] = digS n) := Lib.hid (by
        unfold digS digL
        rw [if_neg (by omega), if_neg (by omega), nums_app, decN_step n.natAbs (by omega) (by omega), decN_small (n.natAbs % 10) (by omega)]
        rw [show (n / 10).natAbs = n.natAbs / 10 by omega, show ((n.natAbs % 10 : Nat) : Int) = n % 10 by omega])
      clear s2
      have hq2 : (n / 10).natAbs < 10 ^ (f + 1) := by rw [show (n / 10).natAbs = n.natAbs / 10 by omega]; exact hq
      have ih := Lib.hid ih
      have hq3 := Lib.hid hq2
      clear hq hq2 hn
      go_enter Tryd.func67, Tryd.ntmps67
      go_wp2_with fail
      refine (ih.out (n / 10) _ (by unfold I64; omega) hq3.out).mono ?_
      rintro e w1 ⟨rfl, hg⟩
      go_wp2_with fail
      refine (rdig_small (n % 10) _ (by omega) (by omega)).mono ?_
      rintro e w2 ⟨rfl, hg2⟩
      go_wp2_with fail
      go_ret
      exact ⟨ret_str E.out, bgt hg hg2⟩
    · have e1 : (n.tdiv 10).natAbs = n.natAbs / 10 := Int.natAbs_tdiv n 10
      have e2 : (n.tmod 10).natAbs = n.natAbs % 10 := Int.natAbs_tmod n 10
      have q1 : n.tdiv 10 = -((-n) / 10) := by rw [← Int.tdiv_eq_ediv_of_nonneg (by omega : 0 ≤ -n), ← Int.neg_tdiv, Int.neg_neg]
      have q2 : n.tmod 10 = -((-n) % 10) := by rw [← Int.tmod_eq_emod_of_nonneg (by omega : 0 ≤ -n), ← Int.neg_tmod, Int.neg_neg]
      have e3 : n.tmod 10 ≤ 0 := by omega
      have e4 : n.tdiv 10 < 0 := by omega
      have s1 := digS_size (n.tdiv 10)
      have s2 := strOfNums_size [48 + -n.tmod 10]
      have s3 : (strOfNums [48 + -n.tmod 10]).size ≤ 1 := by rw [s2]; simp
      have E : Hid (digS (n.tdiv 10) ++ strOfNums [48 + -n.tmod 10] = digS n) := Lib.hid (by
        unfold digS digL
        rw [if_pos (by omega), if_pos (by omega), nums_app, decN_step n.natAbs (by omega) (by omega), decN_small (n.natAbs % 10) (by omega)]
        rw [e1, show ((n.natAbs % 10 : Nat) : Int) = -n.tmod 10 by omega]; rfl)
      clear s2
      have hq3 : Hid ((n.tdiv 10).natAbs < 10 ^ (f + 1)) := Lib.hid (by rw [e1]; exact hq)
      have hi2 : -9223372036854775808 ≤ n.tdiv 10 := by omega
      have hm : -10 < n.tmod 10 := by omega
      have ih := Lib.hid ih
      clear hq hn e1 e2 q1 q2
      go_enter Tryd.func67, Tryd.ntmps67
      go_wp2_with fail
      refine (ih.out (n.tdiv 10) _ (by unfold I64; omega) hq3.out).mono ?_
      rintro e w1 ⟨rfl, hg⟩
      go_wp2_with fail
      refine (rdig_small (-n.tmod 10) _ (by omega) (by omega)).mono ?_
      rintro e w2 ⟨rfl, hg2⟩
      go_wp2_with fail
      go_ret
      exact ⟨ret_str E.out, bgt hg hg2⟩

theorem rdig_any (n : Int) (w : World) (hn : I64 n) :
    Calls Tryd.prog 67 #[.int .i64 n] w fun e w' => e = .returned (.string (digS n)) ∧ Below w.heap.size w w' :=
  rdig_ind 18 n w hn (by unfold I64 at hn; omega)
end Go.Proofs.YtagkmfhicpcjnaaDoor
/- The contract of num.Digits. -/
set_option linter.unusedVariables false
set_option maxRecDepth 100000
namespace Go.Proofs.YtagkmfhicpcjnaaDoor
open Go.RowKit

/-- A row of bytes. -/
def row (xs : List Int) : Array Value := (xs.map (Value.int .u8)).toArray
theorem row_set (xs : List Int) (i : Nat) (v : Int) : (row xs).setIfInBounds i (.int .u8 v) = row (xs.set i v) := by
  unfold row; simp [List.map_set]

theorem row_get (xs : List Int) (i : Nat) (h : i < xs.length) : (row xs)[i]? = some (.int .u8 (xs.getD i 0)) := by
  unfold row
  simp [List.getD, List.getElem?_eq_getElem h]
theorem slice_tail (b q : Nat) (z : Int) (hq : q < 20) (hz : z = q) (W : World) : (Instr.sliceAt 90 (.pointer (some ⟨b, 0, none⟩)) (some (.int .i64 z)) none none).run Tryd.prog W = .ok (.slice (some ⟨b, q, none⟩) (20 - q) (20 - q)) W := by
  subst hz
  have hl : Tryd.prog.arrayLen 90 = 20 := by kernel_rfl
  have hs : (sizeOf (Tryd.prog.elem 90)).run Tryd.prog W = .ok 1 W := by kernel_rfl
  rw [run_sliceAt_array_l W 90 ⟨b, 0, none⟩ (by kernel_rfl) .i64 (q : Int) (by omega) (by rw [hl]; omega), hs, hl]
  simp only [Result.andThen, slicedAt, Int.toNat_natCast]
  rw [if_neg (by omega)]
  simp [Addr.add]; intro h; exact h.symm
theorem text_tail (w : World) (xs ys : List Int) (q : Nat) (hl : xs.length = 20) (hq : q ≤ 20) (h : xs.drop q = ys) :
    (convert 65 9 (.slice (some ⟨w.heap.size, q, none⟩) (20 - q) (20 - q))).run Tryd.prog (w.alloc (.cells (row xs) 90)) = .ok (.string (strOfNums ys)) (w.alloc (.cells (row xs) 90)) := by
  subst h
  refine run_convert_bytes_arg (P := Tryd.prog) (w.alloc (.cells (row xs) 90)) 65 5 Tryd.underlying65 Tryd.underlying5 w.heap.size q (20 - q) (20 - q) (xs.drop q) (by simp [hl]) (fun i hi => ?_) 9 Tryd.underlying9
  rw [World.cell?_alloc_new, row_get xs (q + i) (by omega)]
  simp [List.getD, List.getElem?_drop]

set_option maxHeartbeats 1000000 in
theorem ndig_any (n : Int) (w : World) (hn : I64 n) :
    Calls Tryd.prog 65 #[.int .i64 n] w fun e w' => e = .returned (.string (digS n)) ∧ Below w.heap.size w w' := by
  have hx : n.natAbs ≤ 9223372036854775808 := by unfold I64 at hn; omega
  have D := Lib.hid (show digS n = strOfNums (if n < 0 then 45 :: decN n.natAbs else decN n.natAbs) from rfl)
  go_enter Tryd.func65, Tryd.ntmps65
  go_wp2_with (go_at_call 87; refine (mag_any _ _ hn).mono ?_; rintro e w' ⟨rfl, rfl⟩)
  generalize n.natAbs = m at *
  go_loopw [4, 5, 8] (fun at' rest i wr => ∃ (k p : Nat) (xs : List Int), k + p = 19 ∧ xs.length = 20 ∧ (k = 0 ∨ m / 10 ^ k ≠ 0) ∧ xs.drop (p + 1) = low k m ∧ at' = .int .i64 ((p : Int) + 1) ∧ rest = .int .u64 (m / 10 ^ k : Nat) ∧ i = .int .i64 k ∧ wr = w.alloc (.cells (row xs) 90)) (fun _ _ i _ => 19 - (intOf i).toNat)
  case atStart => exact ⟨0, 19, List.replicate 20 0, rfl, rfl, Or.inl rfl, rfl, rfl, by simp, rfl, rfl⟩
  case round =>
    obtain ⟨k, p, xs, hkp, hlen, hnz, hlow, hat, hrest, hi, hwr⟩ := hrel
    have hk19 : k < 19 := by
      rcases Nat.lt_or_ge k 19 with h | h
      · exact h
      · exfalso
        obtain rfl : k = 19 := by omega
        rcases hnz with h | h
        · omega
        · exact h (Nat.div_eq_of_lt (by omega))
    obtain ⟨q, rfl⟩ : ∃ q, p = q + 1 := ⟨p - 1, by omega⟩
    have hsucc : m / 10 ^ (k + 1) = m / 10 ^ k / 10 := by rw [Nat.pow_succ, Nat.div_div_eq_div_mul]
    obtain ⟨ys, hys⟩ : ∃ ys, ys = xs.set (q + 1) (48 + ((m / 10 ^ k % 10 : Nat) : Int)) := ⟨_, rfl⟩
    have hyl : ys.length = 20 := by rw [hys, List.length_set, hlen]
    have hyd : ys.drop (q + 1) = low (k + 1) m := by
      show _ = _ :: low k m
      rw [← hlow, hys, List.drop_set, if_neg (by omega), Nat.sub_self, List.drop_eq_getElem_cons (by omega)]
      rfl
    have HF : Hid (m / 10 ^ k < 10 → low (k + 1) m = decN m) := Lib.hid (fun h => decN_low k m hk19 (by rw [hsucc]; generalize m / 10 ^ k = r at h; omega) hnz)
    have hnz2 : 10 ≤ m / 10 ^ k → m / 10 ^ (k + 1) ≠ 0 := by intro h; rw [hsucc]; generalize m / 10 ^ k = r at h; omega
    have hrm : m / 10 ^ k ≤ 9223372036854775808 := Nat.le_trans (Nat.div_le_self _ _) hx
    have hc1 : (row xs)[q + 1]? = some (.int .u8 (xs.getD (q + 1) 0)) := row_get xs (q + 1) (by omega)
    have hc2 : (row ys)[q]? = some (.int .u8 (ys.getD q 0)) := row_get ys q (by omega)
    have hs1 : (row xs).setIfInBounds (q + 1) (.int .u8 (48 + ((m / 10 ^ k : Nat) : Int) % 10)) = row ys := by
      rw [row_set, hys]; rfl
    generalize m / 10 ^ k = r at *
    subst hat hrest hi hwr
    have HYD := Lib.hid hyd
    have HYL := Lib.hid hyl
    have HS := Lib.hid hsucc
    have HN := Lib.hid hnz2
    clear hlow hlen hsucc hnz hyd hyl hnz2 hys
    have hkp2 : k + q ≤ 18 := by omega
    have hkp3 : 18 ≤ k + q := by omega
    clear hkp
    by_cases hz : r < 10
    · have hz' : ((r : Int) / 10 == 0) = true := by simp; omega
      have hdec := HF.out hz
      by_cases hneg : n < 0
      · obtain ⟨zs, hzs⟩ : ∃ zs, zs = ys.set q 45 := ⟨_, rfl⟩
        have hs2 : (row ys).setIfInBounds q (.int .u8 45) = row zs := by rw [row_set, hzs]
        have hsl := slice_tail w.heap.size q q (by omega) rfl
        have hcv := text_tail w zs (45 :: decN m) q (by rw [hzs, List.length_set, HYL.out]) (by omega) (by
          rw [hzs, List.drop_set, if_neg (by omega), Nat.sub_self, List.drop_eq_getElem_cons (by have := HYL.out; omega)]
          show 45 :: _ = _
          rw [HYD.out, hdec])
        have HD := Lib.hid hdec
        clear hdec hzs
        go_wp2_with fail
        go_ret
        exact ⟨ret_str (by rw [D.out, if_pos hneg]), alloc_below _ _⟩
      · have hsl := slice_tail w.heap.size (q + 1) ((q : Int) + 1) (by omega) (by omega)
        have hcv := text_tail w ys (decN m) (q + 1) HYL.out (by omega) (by rw [HYD.out, hdec])
        rw [show 20 - (q + 1) = 19 - q by omega] at hcv
        have HD := Lib.hid hdec
        clear hdec
        go_wp2_with fail
        go_ret
        exact ⟨ret_str (by rw [D.out, if_neg (by omega)]), alloc_below _ _⟩
    · have hz' : ((r : Int) / 10 == 0) = false := by simp; omega
      go_wp2_with fail
      go_roundw
      case rel => exact ⟨k + 1, q, ys, by omega, HYL.out, Or.inr (HN.out (by omega)), HYD.out, rfl, val_int (by rw [HS.out]; rfl), rfl, rfl⟩
      case measure => simp [intOf]; omega
end Go.Proofs.YtagkmfhicpcjnaaDoor
/- Plain mathematics of reading digits; no program in sight. -/
set_option linter.unusedVariables false
set_option maxRecDepth 100000
namespace Go.Proofs.YtagkmfhicpcjnaaDoor
open Go.RowKit

/-- One more byte, read as a digit. -/
def rdB (n : Int) (c : UInt8) : Int := 10 * n + ((c.toNat : Int) - 48) % 256
/-- The number that bytes say, read as digits. -/
def rdL (l : List UInt8) : Int := l.foldl rdB 0
theorem rdL_snoc (l : List UInt8) (c : UInt8) : rdL (l ++ [c]) = 10 * rdL l + ((c.toNat : Int) - 48) % 256 := by
  unfold rdL; rw [List.foldl_append]; rfl
theorem rdL_bd' (k : Nat) : ∀ (l : List UInt8), l.length = k → 0 ≤ rdL l ∧ rdL l + 29 ≤ 29 * (10 ^ k : Nat) := by
  induction k with
  | zero => intro l h; rw [List.length_eq_zero_iff.1 h]; exact ⟨by decide, by decide⟩
  | succ k ih =>
    intro l h
    obtain ⟨a, c, rfl⟩ : ∃ a c, l = a ++ [c] := by
      have hne : l ≠ [] := by intro e; rw [e] at h; simp at h
      exact ⟨l.dropLast, l.getLast hne, (List.dropLast_concat_getLast hne).symm⟩
    have h1 := ih a (by simp at h; omega)
    rw [rdL_snoc, Nat.pow_succ]
    generalize (10 ^ k : Nat) = p at *
    have := c.toNat_lt
    omega
theorem rdL_bd (l : List UInt8) (h : l.length ≤ 14) : 0 ≤ rdL l ∧ rdL l ≤ 2900000000000000 := by
  have h1 := rdL_bd' l.length l rfl
  have h2 : (10 ^ l.length : Nat) ≤ 10 ^ 14 := Nat.pow_le_pow_right (by omega) h
  generalize (10 ^ l.length : Nat) = p at *
  omega
/-- The number that a text says. -/
def valS (s : ByteArray) : Int := if s.data.toList.head? = some 45 then -rdL s.data.toList.tail else rdL s.data.toList
/-- The text is the text of its number. -/
def okS (s : ByteArray) : Bool := decide (s.size ≤ 14 ∧ -1099511627776 ≤ valS s ∧ valS s ≤ 1099511627776 ∧ digS (valS s) = s)
end Go.Proofs.YtagkmfhicpcjnaaDoor
/- Contracts of Parse. -/
set_option linter.unusedVariables false
set_option maxRecDepth 100000
namespace Go.Proofs.YtagkmfhicpcjnaaDoor
open Go.RowKit

theorem take_snoc (s : ByteArray) (k : Nat) (h : k < s.size) : s.data.toList.take (k + 1) = s.data.toList.take k ++ [s[k]] := by
  rw [List.take_succ_eq_append_getElem (by simpa using h)]; rfl

set_option maxHeartbeats 400000 in
theorem read_any (s : ByteArray) (w : World) (hs : s.size ≤ 14) :
    Calls Tryd.prog 96 #[.string s] w fun e w' => e = .returned (.int .i64 (rdL s.data.toList)) ∧ w = w' := by
  go_enter Tryd.func96, Tryd.ntmps96
  go_wp2
  go_loop [3, 4, 7] (fun n _ i => ∃ k : Nat, k ≤ s.size ∧ i = .int .i64 k ∧ n = .int .i64 (rdL (s.data.toList.take k))) (fun _ _ i => s.size - (intOf i).toNat)
  case atStart => exact ⟨0, Nat.zero_le _, rfl, rfl⟩
  case round =>
    obtain ⟨k, hk, rfl, rfl⟩ := hrel
    have hl : (s.data.toList.take k).length ≤ 14 := by have := List.length_take_le k s.data.toList; omega
    obtain ⟨b1, b2⟩ := rdL_bd _ hl
    by_cases hlt : k < s.size
    · have S := Lib.hid (show rdL (s.data.toList.take (k + 1)) = _ by rw [take_snoc s k hlt, rdL_snoc])
      have hc := (s[k]).toNat_lt
      generalize rdL (s.data.toList.take k) = n at *
      go_wp2
      go_round
      case rel => exact ⟨k + 1, by omega, by go_num, val_int (by rw [S.out])⟩
      case measure => simp [intOf]; omega
    · go_wp2
      go_ret
      exact ⟨ret_int (by rw [List.take_of_length_le (by simp; omega)]), rfl⟩

/-- What Parse returns. -/
def parsed (s : ByteArray) : Ending := .returned (.tuple #[.int .i64 (if okS s then valS s else 0), .bool (okS s)])

theorem parsed_no (s : ByteArray) (h : okS s = false) : parsed s = .returned (.tuple #[.int .i64 0, .bool false]) := by unfold parsed; rw [h]; rfl
theorem parsed_yes (s : ByteArray) (h : okS s = true) : parsed s = .returned (.tuple #[.int .i64 (valS s), .bool true]) := by unfold parsed; rw [h]; rfl
theorem same_list (a b : ByteArray) : (a.toList == b.toList) = decide (a = b) := by
  rw [Lib.toList_data, Lib.toList_data]
  by_cases h : a = b
  · rw [h]; simp
  · rw [decide_eq_false h, beq_eq_false_iff_ne]
    intro e; apply h; apply ByteArray.ext; exact Array.toList_inj.1 e
theorem ok_out (s : ByteArray) (h : ¬ (-1099511627776 ≤ valS s ∧ valS s ≤ 1099511627776)) : okS s = false := by
  unfold okS; rw [decide_eq_false]; intro e; exact h ⟨e.2.1, e.2.2.1⟩
theorem ok_ne (s : ByteArray) (h : (!(digS (valS s)).toList == s.toList) = true) : okS s = false := by
  unfold okS; rw [decide_eq_false]; intro e
  rw [same_list, e.2.2.2] at h; simp at h
theorem ok_eq (s : ByteArray) (h14 : s.size ≤ 14) (h2 : -1099511627776 ≤ valS s ∧ valS s ≤ 1099511627776) (h : (!(digS (valS s)).toList == s.toList) = false) : okS s = true := by
  unfold okS; rw [decide_eq_true]
  rw [same_list] at h
  exact ⟨h14, h2.1, h2.2, by simpa using h⟩
theorem val_neg (s : ByteArray) (h0 : 0 < s.size) (h : s[0] = 45) : valS s = -rdL (s.extract 1 s.size).data.toList := by
  have e : s.data.toList.head? = some 45 := by
    rw [List.head?_eq_getElem?, List.getElem?_eq_getElem (by simpa using h0)]
    exact congrArg some h
  unfold valS
  rw [if_pos e, Lib.extract_data, List.drop_one, List.take_of_length_le (by simp)]
theorem val_pos (s : ByteArray) (h0 : 0 < s.size) (h : ¬ s[0] = 45) : valS s = rdL s.data.toList := by
  have e : ¬ s.data.toList.head? = some 45 := by
    rw [List.head?_eq_getElem?, List.getElem?_eq_getElem (by simpa using h0)]
    intro e; exact h (Option.some.inj e)
  unfold valS
  rw [if_neg e]

theorem nsat_in (a : Int) (w : World) (h : -1099511627776 ≤ a ∧ a ≤ 1099511627776) :
    Calls Tryd.prog 97 #[.int .i64 a] w fun e w' => e = .returned (.int .i64 a) ∧ w = w' :=
  (nsat_any a w).mono fun _ _ ⟨h1, h2⟩ => ⟨by rw [h1, sat_id a h.1 h.2], h2⟩

theorem toList_ne (s : ByteArray) (h : 0 < s.size) : s.toList.isEmpty = false ∧ ¬ s.toList = [] := by
  rw [Lib.toList_data]
  have hl : s.data.toList.length = s.size := by simp
  cases hd : s.data.toList with
  | nil => rw [hd] at hl; simp at hl; omega
  | cons a l => exact ⟨rfl, by simp⟩

theorem nparse_none (w : World) :
    Calls Tryd.prog 82 #[.string ByteArray.empty] w fun e w' => e = parsed ByteArray.empty ∧ Below w.heap.size w w' := by
  have hp : Hid (parsed ByteArray.empty = .returned (.tuple #[.int .i64 0, .bool false])) := Lib.hid (parsed_no _ (by
    unfold okS; rw [decide_eq_false]; intro h; have := congrArg ByteArray.size h.2.2.2; revert this; decide +kernel))
  have e1 : ByteArray.empty.toList.isEmpty = true := by rw [Lib.toList_data]; rfl
  have e2 : ByteArray.empty.toList = [] := by rw [Lib.toList_data]; rfl
  go_enter Tryd.func82, Tryd.ntmps82
  go_wp2_with fail
  go_ret2
  exact ⟨hp.out.symm, Below.refl _ _⟩

set_option maxHeartbeats 400000 in
theorem nparse_any (s : ByteArray) (w : World) (hs : s.size ≤ 10000) :
    Calls Tryd.prog 82 #[.string s] w fun e w' => e = parsed s ∧ Below w.heap.size w w' := by
  by_cases h0 : s.size = 0
  · have e : s = ByteArray.empty := by apply ByteArray.ext; exact Array.size_eq_zero_iff.1 h0
    subst e
    exact nparse_none w
  obtain ⟨e1, e2⟩ := toList_ne s (by omega)
  by_cases h14 : 14 < s.size
  · have hp : Hid (parsed s = .returned (.tuple #[.int .i64 0, .bool false])) := Lib.hid (by
      unfold parsed okS; rw [decide_eq_false (by omega)]; rfl)
    go_enter Tryd.func82, Tryd.ntmps82
    go_wp2_with fail
    go_ret2
    exact ⟨hp.out.symm, Below.refl _ _⟩
  have h14' : s.size ≤ 14 := by omega
  by_cases h45 : s[0] = 45
  · have hV := Lib.hid (val_neg s (by omega) h45)
    have hz : (s.extract 1 s.size).size ≤ 14 := by simp; omega
    obtain ⟨b1, b2⟩ := rdL_bd (s.extract 1 s.size).data.toList (by simpa using hz)
    have hd := digS_size (-rdL (s.extract 1 s.size).data.toList)
    go_enter Tryd.func82, Tryd.ntmps82
    go_wp2_with fail
    refine (read_any _ _ hz).mono ?_
    rintro e w' ⟨rfl, rfl⟩
    generalize rdL (s.extract 1 s.size).data.toList = m at *
    clear h45 h14 h0
    by_cases hin : -1099511627776 ≤ -m ∧ -m ≤ 1099511627776
    · have T1 := Lib.hid (fun h => parsed_no s (ok_ne s h))
      have T2 := Lib.hid (fun h => parsed_yes s (ok_eq s h14' (by rw [hV.out]; exact hin) h))
      rw [hV.out] at T1 T2
      go_wp2_with fail
      refine (nsat_in _ _ hin).mono ?_
      rintro e w' ⟨rfl, rfl⟩
      go_wp2_with fail
      refine (ndig_any _ _ (by unfold I64; omega)).mono ?_
      rintro e w' ⟨rfl, hg⟩
      go_wp2_with fail
      · go_ret2
        exact ⟨(T1.out ‹_›).symm, hg⟩
      · go_ret2
        exact ⟨(T2.out ‹_›).symm, hg⟩
    · have hne : (-m != sat (-m)) = true := by
        have := sat_in (-m)
        simp; intro e; rw [← e] at this; exact hin this
      have T1 := Lib.hid (parsed_no s (ok_out s (by rw [hV.out]; exact hin)))
      go_wp2_with fail
      refine (nsat_any _ _).mono ?_
      rintro e w' ⟨rfl, rfl⟩
      go_wp2_with fail
      go_ret2
      exact ⟨T1.out.symm, Below.refl _ _⟩
  · have hV := Lib.hid (val_pos s (by omega) h45)
    have h45' : ((s[0].toNat : Int) == 45) = false := by
      rw [beq_eq_false_iff_ne]; intro e; apply h45; apply UInt8.toNat_inj.1; show s[0].toNat = 45; omega
    obtain ⟨b1, b2⟩ := rdL_bd s.data.toList (by simpa using h14')
    have hd := digS_size (rdL s.data.toList)
    go_enter Tryd.func82, Tryd.ntmps82
    go_wp2_with fail
    refine (read_any _ _ h14').mono ?_
    rintro e w' ⟨rfl, rfl⟩
    generalize rdL s.data.toList = m at *
    clear h45
    by_cases hin : -1099511627776 ≤ m ∧ m ≤ 1099511627776
    · have T1 := Lib.hid (fun h => parsed_no s (ok_ne s h))
      have T2 := Lib.hid (fun h => parsed_yes s (ok_eq s h14' (by rw [hV.out]; exact hin) h))
      rw [hV.out] at T1 T2
      go_wp2_with fail
      refine (nsat_in _ _ hin).mono ?_
      rintro e w' ⟨rfl, rfl⟩
      go_wp2_with fail
      refine (ndig_any _ _ (by unfold I64; omega)).mono ?_
      rintro e w' ⟨rfl, hg⟩
      go_wp2_with fail
      · go_ret2
        exact ⟨(T1.out ‹_›).symm, hg⟩
      · go_ret2
        exact ⟨(T2.out ‹_›).symm, hg⟩
    · have hne : (m != sat (m)) = true := by
        have := sat_in (m)
        simp; intro e; rw [← e] at this; exact hin this
      have T1 := Lib.hid (parsed_no s (ok_out s (by rw [hV.out]; exact hin)))
      go_wp2_with fail
      refine (nsat_any _ _).mono ?_
      rintro e w' ⟨rfl, rfl⟩
      go_wp2_with fail
      go_ret2
      exact ⟨T1.out.symm, Below.refl _ _⟩
end Go.Proofs.YtagkmfhicpcjnaaDoor
/- The contract of the reference's Parse. -/
set_option linter.unusedVariables false
set_option maxRecDepth 100000
namespace Go.Proofs.YtagkmfhicpcjnaaDoor
open Go.RowKit

theorem val_neg2 (s : ByteArray) (h0 : 0 < s.size) (h : s[0] = 45) : valS s = -rdL s.data.toList.tail := by
  rw [val_neg s h0 h, Lib.extract_data, List.drop_one, List.take_of_length_le (by simp)]
theorem take_snoc1 (s : ByteArray) (k : Nat) (h : k + 1 < s.size) : s.data.toList.tail.take (k + 1) = s.data.toList.tail.take k ++ [s[k + 1]] := by
  rw [List.take_succ_eq_append_getElem (by simp; omega)]; simp; rfl

/-- A byte of the text of a number is a digit, or the sign. -/
theorem dec_dig (f : Nat) : ∀ (m : Nat) (x : Int), x ∈ dec f m → 48 ≤ x ∧ x ≤ 57 := by
  induction f with
  | zero => intro m x h; simp [dec] at h
  | succ f ih =>
    intro m x h
    unfold dec at h
    split at h
    · simp at h; omega
    · rw [List.mem_append] at h
      rcases h with h | h
      · exact ih _ _ h
      · simp at h; omega
theorem digS_byte (v : Int) (s : ByteArray) (hs : digS v = s) (j : Nat) (h : j < s.size) (hd : ¬ (48 ≤ s[j].toNat ∧ s[j].toNat ≤ 57)) : j = 0 ∧ s[j] = 45 := by
  have hx : ∀ (l : List Int), (∀ x, x ∈ l → 48 ≤ x ∧ x ≤ 57) → ∀ (i : Nat) (c : UInt8), (l.map fun n => UInt8.ofNat n.toNat)[i]? = some c → 48 ≤ c.toNat ∧ c.toNat ≤ 57 := by
    intro l hl i c e
    rw [List.getElem?_map] at e
    cases hi : l[i]? with
    | none => rw [hi] at e; cases e
    | some x =>
      rw [hi] at e
      have hm := hl x (List.mem_of_getElem? hi)
      have e' : UInt8.ofNat x.toNat = c := Option.some.inj e
      rw [← e', UInt8.toNat_ofNat']
      omega
  have hg : s.data.toList[j]? = some s[j] := by rw [List.getElem?_eq_getElem (by simpa using h)]; rfl
  have hdat : s.data.toList = (digL v).map fun n => UInt8.ofNat n.toNat := by rw [← hs]; rfl
  rw [hdat] at hg
  unfold digL at hg
  split at hg
  · cases j with
    | zero => exact ⟨rfl, (Option.some.inj hg).symm⟩
    | succ j => exact absurd (hx _ (dec_dig 20 _) j _ hg) hd
  · exact absurd (hx _ (dec_dig 20 _) j _ hg) hd
theorem bad_neg (s : ByteArray) (h0 : 0 < s.size) (h : s[0] = 45) : ∀ j (hj : j + 1 < s.size), ¬ (48 ≤ s[j + 1].toNat ∧ s[j + 1].toNat ≤ 57) → okS s = false := by
  intro j hj hd
  unfold okS; rw [decide_eq_false]; intro e
  have := digS_byte _ s e.2.2.2 (j + 1) hj hd
  omega
theorem bad_pos (s : ByteArray) (h0 : 0 < s.size) (h : ¬ s[0] = 45) : ∀ j (hj : j < s.size), ¬ (48 ≤ s[j].toNat ∧ s[j].toNat ≤ 57) → okS s = false := by
  intro j hj hd
  unfold okS; rw [decide_eq_false]; intro e
  obtain ⟨rfl, h2⟩ := digS_byte _ s e.2.2.2 j hj hd
  exact h h2

set_option maxHeartbeats 1000000 in
theorem rparse_neg (s : ByteArray) (w : World) (h0 : 0 < s.size) (h14 : s.size ≤ 14) (h : s[0] = 45) :
    Calls Tryd.prog 85 #[.string s] w fun e w' => e = parsed s ∧ Below w.heap.size w w' := by
  obtain ⟨e1, e2⟩ := toList_ne s h0
  have hV := Lib.hid (val_neg2 s h0 h)
  have HB := Lib.hid (bad_neg s h0 h)
  have hlen : s.data.toList.tail.length + 1 = s.size := by simp; omega
  have HL := Lib.hid hlen
  clear hlen
  go_enter Tryd.func85, Tryd.ntmps85
  go_wp2_with fail
  go_loop [4, 6] (fun n i => ∃ j : Nat, j + 1 ≤ s.size ∧ i = .int .i64 ((j : Int) + 1) ∧ n = .int .i64 (rdL (s.data.toList.tail.take j))) (fun _ i => s.size - (intOf i).toNat)
  case atStart => exact ⟨0, by omega, rfl, rfl⟩
  case round =>
    obtain ⟨j, hj, rfl, rfl⟩ := hrel
    have hl : (s.data.toList.tail.take j).length ≤ 14 := by have := List.length_take_le j s.data.toList.tail; have := HL.out; omega
    obtain ⟨b1, b2⟩ := rdL_bd _ hl
    by_cases hlt : j + 1 < s.size
    · have S := Lib.hid (show rdL (s.data.toList.tail.take (j + 1)) = _ by rw [take_snoc1 s j hlt, rdL_snoc])
      have hc := (s[j + 1]).toNat_lt
      by_cases hd : 48 ≤ s[j + 1].toNat ∧ s[j + 1].toNat ≤ 57
      · obtain ⟨hd1, hd2⟩ := hd
        generalize rdL (s.data.toList.tail.take j) = n at *
        go_wp2_with fail
        all_goals go_round
        case rel => exact ⟨j + 1, by omega, by go_num, val_int (by rw [S.out]; omega)⟩
        case measure => simp [intOf]; omega
      · have T := Lib.hid (parsed_no s (HB.out j hlt hd))
        have hd' : s[j + 1].toNat < 48 ∨ 57 < s[j + 1].toNat := by omega
        clear hd
        generalize rdL (s.data.toList.tail.take j) = n at *
        rcases hd' with hd1 | hd1
        all_goals
          go_wp2_with fail
          go_ret2
          exact ⟨T.out.symm, Below.refl _ _⟩
    · have ha : rdL (s.data.toList.tail.take j) = rdL s.data.toList.tail := by rw [List.take_of_length_le (by have := HL.out; omega)]
      rw [ha] at b1 b2 ⊢
      generalize rdL s.data.toList.tail = m at *
      have hd := digS_size (-m)
      clear ha hl
      by_cases hin : -1099511627776 ≤ -m ∧ -m ≤ 1099511627776
      · have T1 := Lib.hid (fun h => parsed_no s (ok_ne s h))
        have T2 := Lib.hid (fun h => parsed_yes s (ok_eq s h14 (by rw [hV.out]; exact hin) h))
        rw [hV.out] at T1 T2
        obtain ⟨hin1, hin2⟩ := hin
        cases hq : ((digS (-m)).toList == s.toList) with
        | false =>
          have T := Lib.hid (T1.out (by rw [hq]; rfl))
          go_wp2_with fail
          refine (rdig_any _ _ (by unfold I64; omega)).mono ?_
          rintro e w' ⟨rfl, hg⟩
          go_wp2_with fail
          go_ret2
          exact ⟨T.out.symm, hg⟩
        | true =>
          have T := Lib.hid (T2.out (by rw [hq]; rfl))
          go_wp2_with fail
          refine (rdig_any _ _ (by unfold I64; omega)).mono ?_
          rintro e w' ⟨rfl, hg⟩
          go_wp2_with fail
          go_ret2
          exact ⟨T.out.symm, hg⟩
      · have T1 := Lib.hid (parsed_no s (ok_out s (by rw [hV.out]; exact hin)))
        have hin' : -m < -1099511627776 ∨ 1099511627776 < -m := by omega
        clear hin
        rcases hin' with hin | hin
        all_goals first
          | (exfalso; clear T1; omega)
          | (go_wp2_with fail; go_ret2; exact ⟨T1.out.symm, Below.refl _ _⟩)

set_option maxHeartbeats 1000000 in
theorem rparse_pos (s : ByteArray) (w : World) (h0 : 0 < s.size) (h14 : s.size ≤ 14) (h : ¬ s[0] = 45) :
    Calls Tryd.prog 85 #[.string s] w fun e w' => e = parsed s ∧ Below w.heap.size w w' := by
  obtain ⟨e1, e2⟩ := toList_ne s h0
  have hV := Lib.hid (val_pos s h0 h)
  have HB := Lib.hid (bad_pos s h0 h)
  have hlen : s.data.toList.length = s.size := by simp
  have HL := Lib.hid hlen
  clear hlen
  have h45 : ((s[0].toNat : Int) == 45) = false := by
    rw [beq_eq_false_iff_ne]; intro e; apply h; apply UInt8.toNat_inj.1; show s[0].toNat = 45; omega
  clear h
  go_enter Tryd.func85, Tryd.ntmps85
  go_wp2_with fail
  go_loop [4, 6] (fun n i => ∃ j : Nat, j ≤ s.size ∧ i = .int .i64 (j : Int) ∧ n = .int .i64 (rdL (s.data.toList.take j))) (fun _ i => s.size - (intOf i).toNat)
  case atStart => exact ⟨0, by omega, rfl, rfl⟩
  case round =>
    obtain ⟨j, hj, rfl, rfl⟩ := hrel
    have hl : (s.data.toList.take j).length ≤ 14 := by have := List.length_take_le j s.data.toList; have := HL.out; omega
    obtain ⟨b1, b2⟩ := rdL_bd _ hl
    by_cases hlt : j < s.size
    · have S := Lib.hid (show rdL (s.data.toList.take (j + 1)) = _ by rw [take_snoc s j hlt, rdL_snoc])
      have hc := (s[j]).toNat_lt
      by_cases hd : 48 ≤ s[j].toNat ∧ s[j].toNat ≤ 57
      · obtain ⟨hd1, hd2⟩ := hd
        generalize rdL (s.data.toList.take j) = n at *
        go_wp2_with fail
        all_goals go_round
        case rel => exact ⟨j + 1, by omega, by go_num, val_int (by rw [S.out]; omega)⟩
        case measure => simp [intOf]; omega
      · have T := Lib.hid (parsed_no s (HB.out j hlt hd))
        have hd' : s[j].toNat < 48 ∨ 57 < s[j].toNat := by omega
        clear hd
        generalize rdL (s.data.toList.take j) = n at *
        rcases hd' with hd1 | hd1
        all_goals
          go_wp2_with fail
          go_ret2
          exact ⟨T.out.symm, Below.refl _ _⟩
    · have ha : rdL (s.data.toList.take j) = rdL s.data.toList := by rw [List.take_of_length_le (by have := HL.out; omega)]
      rw [ha] at b1 b2 ⊢
      generalize rdL s.data.toList = m at *
      have hd := digS_size (m)
      clear ha hl
      by_cases hin : -1099511627776 ≤ m ∧ m ≤ 1099511627776
      · have T1 := Lib.hid (fun h => parsed_no s (ok_ne s h))
        have T2 := Lib.hid (fun h => parsed_yes s (ok_eq s h14 (by rw [hV.out]; exact hin) h))
        rw [hV.out] at T1 T2
        obtain ⟨hin1, hin2⟩ := hin
        cases hq : ((digS m).toList == s.toList) with
        | false =>
          have T := Lib.hid (T1.out (by rw [hq]; rfl))
          go_wp2_with fail
          refine (rdig_any _ _ (by unfold I64; omega)).mono ?_
          rintro e w' ⟨rfl, hg⟩
          go_wp2_with fail
          go_ret2
          exact ⟨T.out.symm, hg⟩
        | true =>
          have T := Lib.hid (T2.out (by rw [hq]; rfl))
          go_wp2_with fail
          refine (rdig_any _ _ (by unfold I64; omega)).mono ?_
          rintro e w' ⟨rfl, hg⟩
          go_wp2_with fail
          go_ret2
          exact ⟨T.out.symm, hg⟩
      · have T1 := Lib.hid (parsed_no s (ok_out s (by rw [hV.out]; exact hin)))
        have hin' : m < -1099511627776 ∨ 1099511627776 < m := by omega
        clear hin
        rcases hin' with hin | hin
        all_goals first
          | (exfalso; clear T1; omega)
          | (go_wp2_with fail; go_ret2; exact ⟨T1.out.symm, Below.refl _ _⟩)

theorem rparse_none (w : World) :
    Calls Tryd.prog 85 #[.string ByteArray.empty] w fun e w' => e = parsed ByteArray.empty ∧ Below w.heap.size w w' := by
  have hp : Hid (parsed ByteArray.empty = .returned (.tuple #[.int .i64 0, .bool false])) := Lib.hid (parsed_no _ (by
    unfold okS; rw [decide_eq_false]; intro h; have := congrArg ByteArray.size h.2.2.2; revert this; decide +kernel))
  have e1 : ByteArray.empty.toList.isEmpty = true := by rw [Lib.toList_data]; rfl
  have e2 : ByteArray.empty.toList = [] := by rw [Lib.toList_data]; rfl
  have e3 : ByteArray.empty.size = 0 := rfl
  go_enter Tryd.func85, Tryd.ntmps85
  go_wp2_with fail
  refine wp_loop_rounds 1 ?_
  rw [rounds_succ]
  go_wp2_with fail
  go_ret2
  exact ⟨hp.out.symm, Below.refl _ _⟩

set_option maxHeartbeats 400000 in
theorem rparse_any (s : ByteArray) (w : World) (hs : s.size ≤ 10000) :
    Calls Tryd.prog 85 #[.string s] w fun e w' => e = parsed s ∧ Below w.heap.size w w' := by
  by_cases h0 : s.size = 0
  · have e : s = ByteArray.empty := by apply ByteArray.ext; exact Array.size_eq_zero_iff.1 h0
    subst e
    exact rparse_none w
  by_cases h14 : 14 < s.size
  · have hp : Hid (parsed s = .returned (.tuple #[.int .i64 0, .bool false])) := Lib.hid (by
      unfold parsed okS; rw [decide_eq_false (by omega)]; rfl)
    go_enter Tryd.func85, Tryd.ntmps85
    go_wp2_with fail
    go_ret2
    exact ⟨hp.out.symm, Below.refl _ _⟩
  by_cases h45 : s[0] = 45
  · exact rparse_neg s w (by omega) (by omega) h45
  · exact rparse_pos s w (by omega) (by omega) h45
end Go.Proofs.YtagkmfhicpcjnaaDoor
/- The walks of the laws on texts. -/
set_option linter.unusedVariables false
set_option maxRecDepth 100000
namespace Go.Proofs.YtagkmfhicpcjnaaDoor
open Go.RowKit

/-- The number that Parse returns. -/
def numS (s : ByteArray) : Int := if okS s then valS s else 0
theorem nparse_two (s : ByteArray) (w : World) (hs : s.size ≤ 10000) :
    Calls Tryd.prog 82 #[.string s] w fun e w' => e = .returned (.tuple #[.int .i64 (numS s), .bool (okS s)]) ∧ Below w.heap.size w w' := nparse_any s w hs
theorem rparse_two (s : ByteArray) (w : World) (hs : s.size ≤ 10000) :
    Calls Tryd.prog 85 #[.string s] w fun e w' => e = .returned (.tuple #[.int .i64 (numS s), .bool (okS s)]) ∧ Below w.heap.size w w' := rparse_any s w hs

/-- The bytes of a list of numbers. -/
def byt (l : List Int) : List UInt8 := l.map fun n => UInt8.ofNat n.toNat
theorem byt_app (a b : List Int) : byt (a ++ b) = byt a ++ byt b := by unfold byt; rw [List.map_append]
theorem rdL_one (d : Nat) (h : d < 10) (l : List UInt8) : rdL (l ++ byt [(48 + d : Int)]) = 10 * rdL l + d := by
  have e : byt [(48 + d : Int)] = [UInt8.ofNat (48 + d)] := by
    show [UInt8.ofNat (48 + (d : Int)).toNat] = _
    rw [show (48 + (d : Int)).toNat = 48 + d by omega]
  rw [e, rdL_snoc, UInt8.toNat_ofNat']
  omega
theorem rdL_dec (f : Nat) : ∀ m, m < 10 ^ f → rdL (byt (dec f m)) = m := by
  induction f with
  | zero => intro m h; have : m = 0 := by simpa using h
            subst this; rfl
  | succ f ih =>
    intro m hm
    unfold dec
    by_cases h : m < 10
    · rw [if_pos h]
      have := rdL_one m h []
      simpa [rdL] using this
    · rw [if_neg h, byt_app, rdL_one (m % 10) (by omega), ih (m / 10) (by rw [Nat.div_lt_iff_lt_mul (by omega)]; rw [Nat.pow_succ] at hm; exact hm)]
      omega
theorem dec_head (f m : Nat) (h : 0 < f) : ∃ x l, dec f m = x :: l ∧ 48 ≤ x ∧ x ≤ 57 := by
  cases hd : dec f m with
  | nil =>
    exfalso
    obtain ⟨g, rfl⟩ : ∃ g, f = g + 1 := ⟨f - 1, by omega⟩
    unfold dec at hd
    split at hd <;> simp at hd
  | cons x l => exact ⟨x, l, rfl, dec_dig f m x (by rw [hd]; exact List.mem_cons_self)⟩
theorem valS_digS (n : Int) (hn : I64 n) : valS (digS n) = n := by
  unfold I64 at hn
  have hd : (digS n).data.toList = byt (digL n) := rfl
  unfold valS
  rw [hd]
  unfold digL
  by_cases h : n < 0
  · rw [if_pos h]
    have e : byt (45 :: decN n.natAbs) = 45 :: byt (decN n.natAbs) := rfl
    rw [e, if_pos (show (45 :: byt (decN n.natAbs)).head? = some 45 from rfl)]
    show -rdL (byt (dec 20 n.natAbs)) = n
    rw [rdL_dec 20 _ (by omega)]
    omega
  · rw [if_neg h]
    obtain ⟨x, l, hx, h1, h2⟩ := dec_head 20 n.natAbs (by omega)
    have hne : ¬ (byt (decN n.natAbs)).head? = some 45 := by
      unfold decN; rw [hx]
      intro e
      have e2 : UInt8.ofNat x.toNat = 45 := Option.some.inj e
      have e3 := congrArg UInt8.toNat e2
      rw [UInt8.toNat_ofNat'] at e3
      have e4 : (45 : UInt8).toNat = 45 := rfl
      omega
    rw [if_neg hne]
    show rdL (byt (dec 20 n.natAbs)) = n
    rw [rdL_dec 20 _ (by omega)]
    omega
theorem dec_len2 (f : Nat) : ∀ (m k : Nat), m < 10 ^ (k + 1) → (dec f m).length ≤ k + 1 := by
  induction f with
  | zero => intro m k _; simp [dec]
  | succ f ih =>
    intro m k hm
    unfold dec
    by_cases h : m < 10
    · rw [if_pos h]; simp
    · rw [if_neg h]
      cases k with
      | zero => simp at hm; omega
      | succ k =>
        have := ih (m / 10) k (by rw [Nat.div_lt_iff_lt_mul (by omega)]; rw [Nat.pow_succ] at hm; exact hm)
        simp; omega
theorem okS_digS (n : Int) (hn : I64 n) : okS (digS n) = decide (-1099511627776 ≤ n ∧ n ≤ 1099511627776) := by
  unfold okS
  rw [valS_digS n hn]
  by_cases h : -1099511627776 ≤ n ∧ n ≤ 1099511627776
  · rw [decide_eq_true h, decide_eq_true]
    refine ⟨?_, h.1, h.2, rfl⟩
    unfold digS digL; rw [strOfNums_size]
    have := dec_len2 20 n.natAbs 12 (by omega)
    unfold decN
    split <;> simp <;> omega
  · rw [decide_eq_false h, decide_eq_false]
    intro e; exact h ⟨e.2.1, e.2.2.1⟩
theorem numS_in (n : Int) (h : -1099511627776 ≤ n ∧ n ≤ 1099511627776) : okS (digS n) = true ∧ numS (digS n) = n := by
  have hn : I64 n := by unfold I64; omega
  have e := okS_digS n hn
  rw [decide_eq_true h] at e
  refine ⟨e, ?_⟩
  unfold numS; rw [e, if_pos rfl, valS_digS n hn]
theorem numS_out (n : Int) (hn : I64 n) (h : ¬ (-1099511627776 ≤ n ∧ n ≤ 1099511627776)) : okS (digS n) = false ∧ numS (digS n) = 0 := by
  have e := okS_digS n hn
  rw [decide_eq_false h] at e
  refine ⟨e, ?_⟩
  unfold numS; rw [e]; rfl
theorem numS_bd (s : ByteArray) : I64 (numS s) := by
  unfold numS I64
  by_cases h : okS s = true
  · rw [if_pos h]; unfold okS at h; have := of_decide_eq_true h; omega
  · rw [if_neg h]; omega
theorem back_eq (s : ByteArray) (h : okS s = true) : ((digS (numS s)).toList == s.toList) = true := by
  rw [same_list]
  unfold numS; rw [if_pos h]; unfold okS at h; rw [decide_eq_true (of_decide_eq_true h).2.2.2]
theorem nparse_dig_in (n : Int) (w : World) (h : -1099511627776 ≤ n ∧ n ≤ 1099511627776) :
    Calls Tryd.prog 82 #[.string (digS n)] w fun e w' => e = .returned (.tuple #[.int .i64 n, .bool true]) ∧ Below w.heap.size w w' :=
  (nparse_two (digS n) w (by have := digS_size n; omega)).mono fun _ _ ⟨h1, h2⟩ => ⟨by rw [h1, (numS_in n h).1, (numS_in n h).2], h2⟩
theorem nparse_dig_out (n : Int) (w : World) (hn : I64 n) (h : ¬ (-1099511627776 ≤ n ∧ n ≤ 1099511627776)) :
    Calls Tryd.prog 82 #[.string (digS n)] w fun e w' => e = .returned (.tuple #[.int .i64 0, .bool false]) ∧ Below w.heap.size w w' :=
  (nparse_two (digS n) w (by have := digS_size n; omega)).mono fun _ _ ⟨h1, h2⟩ => ⟨by rw [h1, (numS_out n hn h).1, (numS_out n hn h).2], h2⟩

end Go.Proofs.YtagkmfhicpcjnaaDoor
/- Layer 20's mathematics: values and attributes; encodings, texts. -/
set_option linter.unusedVariables false
set_option maxRecDepth 100000
namespace Go.Proofs.YtagkmfhicpcjnaaDoor.Vlu
open Wire (bs enI enT fInt fText fInt_back fText_back fInt_canon fText_canon)
open Names (nm quo unq unq_quo unq_sound)

abbrev Str := List UInt8
/-- A value: the kind, the number, the text. -/
abbrev Vl := Int × Int × ByteArray
def z0 : Vl := (0, 0, ByteArray.empty)
def lo (k : Int) : Int := if k = 2 then -1099511627776 else 0
def hi (k : Int) : Int := if k = 1 then 1 else if k = 2 then 1099511627776 else if k = 3 then 63 else 0
def chk (v : Vl) : Int :=
  if v.1 < 0 ∨ 4 < v.1 then 7 else if v.2.1 < lo v.1 ∨ hi v.1 < v.2.1 then 2 else if 60 < v.2.2.size then 3 else if v.2.2.size ≠ 0 ∧ v.1 ≠ 4 then 4 else 0
structure At where
  n : ByteArray
  k : Int
  mn : Int
  mx : Int
  en : List ByteArray
  wr : Bool
  sf : Bool
def mem (l : List ByteArray) (x : ByteArray) : Bool := l.any fun y => decide (y = x)
/-- The first error among members, behind those that were seen. -/
def enE : List ByteArray → List ByteArray → Int
  | _, [] => 0
  | seen, x :: r => if nm x.data.toList = false then 10 else if mem seen x = true then 9 else enE (seen ++ [x]) r
def bad (a : At) : Prop := (a.k = 2 ∧ (a.mn < -1099511627776 ∨ 1099511627776 < a.mx ∨ a.mx < a.mn)) ∨ (a.k ≠ 2 ∧ (a.mn ≠ 0 ∨ a.mx ≠ 0))
instance (a : At) : Decidable (bad a) := inferInstanceAs (Decidable (_ ∨ _))
def dfn (a : At) : Int :=
  if nm a.n.data.toList = false then 10 else if a.k < 1 ∨ 4 < a.k then 7 else if bad a then 2
  else if a.k ≠ 3 then (if a.en = [] then 0 else 4) else if a.en.length < 1 ∨ 64 < a.en.length then 3 else enE [] a.en
def outr (a : At) (v : Vl) : Prop := (v.1 = 2 ∧ (v.2.1 < a.mn ∨ a.mx < v.2.1)) ∨ (v.1 = 3 ∧ (a.en.length : Int) ≤ v.2.1)
instance (a : At) (v : Vl) : Decidable (outr a v) := inferInstanceAs (Decidable (_ ∨ _))
def fits (a : At) (v : Vl) : Int := if dfn a ≠ 0 then dfn a else if chk v ≠ 0 then chk v else if v.1 ≠ a.k then 11 else if outr a v then 2 else 0
def clp (n a b : Int) : Int := if b < (if n < a then a else n) then b else (if n < a then a else n)
def lmt (a : At) (v : Vl) : Vl := if dfn a ≠ 0 ∨ a.k ≠ 2 ∨ v.1 ≠ 2 then v else (v.1, clp v.2.1 a.mn a.mx, v.2.2)
def zer (a : At) : Vl := if dfn a ≠ 0 then z0 else lmt a (a.k, 0, ByteArray.empty)
/-- What is encoded: itself, or nothing. -/
def nrm (v : Vl) : Vl := if chk v = 0 then v else z0
def put0 (u : Vl) : List UInt8 := enI u.1 ++ (if u.1 = 0 then [] else if u.1 = 4 then enT u.2.2 else enI u.2.1)
def put (v : Vl) : List UInt8 := put0 (nrm v)
/-- A value read from the front: what is left, the error. -/
def tk (s : ByteArray) : Vl × ByteArray × Int :=
  if (fInt s).2.2 ≠ 0 then (z0, (fInt s).2.1, (fInt s).2.2)
  else if (fInt s).1 = 4 then
    (if (fText 60 (fInt s).2.1).2.2 ≠ 0 then (z0, (fText 60 (fInt s).2.1).2.1, (fText 60 (fInt s).2.1).2.2)
     else if chk (4, 0, (fText 60 (fInt s).2.1).1) ≠ 0 then (z0, (fText 60 (fInt s).2.1).2.1, 4)
     else ((4, 0, (fText 60 (fInt s).2.1).1), (fText 60 (fInt s).2.1).2.1, 0))
  else if 1 ≤ (fInt s).1 ∧ (fInt s).1 ≤ 3 then
    (if (fInt (fInt s).2.1).2.2 ≠ 0 then (z0, (fInt (fInt s).2.1).2.1, (fInt (fInt s).2.1).2.2)
     else if chk ((fInt s).1, (fInt (fInt s).2.1).1, ByteArray.empty) ≠ 0 then (z0, (fInt (fInt s).2.1).2.1, 4)
     else (((fInt s).1, (fInt (fInt s).2.1).1, ByteArray.empty), (fInt (fInt s).2.1).2.1, 0))
  else if chk ((fInt s).1, 0, ByteArray.empty) ≠ 0 then (z0, (fInt s).2.1, 4)
  else (((fInt s).1, 0, ByteArray.empty), (fInt s).2.1, 0)
def dcd (s : ByteArray) : Vl × Int := if (tk s).2.2 ≠ 0 then (z0, (tk s).2.2) else if (tk s).2.1.size ≠ 0 then (z0, 23) else ((tk s).1, 0)

theorem chk_z0 : chk z0 = 0 := by decide
theorem nrm_ok (v : Vl) : chk (nrm v) = 0 := by
  unfold nrm
  split
  · assumption
  · exact chk_z0
theorem nrm_of {v : Vl} (h : chk v = 0) : nrm v = v := if_pos h
theorem size_zero {s : ByteArray} (h : s.size = 0) : s = ByteArray.empty := ByteArray.ext (Array.eq_empty_of_size_eq_zero h)
/-- What a valid value is. -/
theorem chk_iff {v : Vl} : chk v = 0 ↔ 0 ≤ v.1 ∧ v.1 ≤ 4 ∧ lo v.1 ≤ v.2.1 ∧ v.2.1 ≤ hi v.1 ∧ v.2.2.size ≤ 60 ∧ (v.1 ≠ 4 → v.2.2 = ByteArray.empty) := by
  unfold chk
  by_cases h1 : v.1 < 0 ∨ 4 < v.1
  · rw [if_pos h1]
    exact ⟨fun h => absurd h (by decide), fun ⟨a, b, _⟩ => by omega⟩
  rw [if_neg h1]
  by_cases h2 : v.2.1 < lo v.1 ∨ hi v.1 < v.2.1
  · rw [if_pos h2]
    exact ⟨fun h => absurd h (by decide), fun ⟨_, _, a, b, _⟩ => by omega⟩
  rw [if_neg h2]
  by_cases h3 : 60 < v.2.2.size
  · rw [if_pos h3]
    exact ⟨fun h => absurd h (by decide), fun ⟨_, _, _, _, a, _⟩ => by omega⟩
  rw [if_neg h3]
  by_cases h4 : v.2.2.size ≠ 0 ∧ v.1 ≠ 4
  · rw [if_pos h4]
    exact ⟨fun h => absurd h (by decide), fun ⟨_, _, _, _, _, a⟩ => absurd (by rw [a h4.2]; rfl) h4.1⟩
  · rw [if_neg h4]
    refine ⟨fun _ => ⟨by omega, by omega, by omega, by omega, by omega, fun a => size_zero ?_⟩, fun _ => rfl⟩
    exact Classical.byContradiction fun q => h4 ⟨q, a⟩
theorem hi_le (k : Int) : hi k ≤ 1099511627776 := by unfold hi; repeat' split <;> try omega
theorem lo_ge (k : Int) : -1099511627776 ≤ lo k := by unfold lo; split <;> omega
theorem chk_n {v : Vl} (h : chk v = 0) : -1099511627776 ≤ v.2.1 ∧ v.2.1 ≤ 1099511627776 := by
  obtain ⟨_, _, h1, h2, _⟩ := chk_iff.1 h
  have := hi_le v.1
  have := lo_ge v.1
  omega
theorem fText_le (s : ByteArray) (t : List UInt8) (m : Int) (h : (s.size : Int) ≤ m) (h2 : s.size ≤ 1000) : fText m (bs (enT s ++ t)) = (s, bs t, 0) := by
  unfold fText enT
  have e : Wire.fCount m (bs ((enI (s.size : Int) ++ s.data.toList) ++ t)) = ((s.size : Int), bs (s.data.toList ++ t), 0) := by
    rw [List.append_assoc]
    exact Wire.fCount_back _ _ _ (by unfold Wire.I64; omega) (by omega) h
  rw [e]
  simp only [ne_eq, not_true, if_false, Int.toNat_natCast]
  exact Wire.fTake_back s t
/-- A valid value is read back from its encoding, with what follows it. -/
theorem tk_put0 {u : Vl} (h : chk u = 0) (t : List UInt8) : tk (bs (put0 u ++ t)) = (u, bs t, 0) := by
  obtain ⟨k, n, s⟩ := u
  have hn := chk_n h
  obtain ⟨h1, h2, h3, h4, h5, h6⟩ := chk_iff.1 h
  simp only at h1 h2 h3 h4 h5 h6 hn
  have e1 : fInt (bs (put0 (k, n, s) ++ t)) = (k, bs ((if k = 0 then [] else if k = 4 then enT s else enI n) ++ t), 0) := by
    unfold put0
    dsimp only
    rw [List.append_assoc]
    exact fInt_back k _ (by unfold Wire.I64; omega)
  unfold tk
  rw [e1]
  dsimp only
  rw [if_neg (by decide)]
  by_cases k4 : k = 4
  · subst k4
    have e2 : fText 60 (bs ((if (4 : Int) = 0 then [] else if (4 : Int) = 4 then enT s else enI n) ++ t)) = (s, bs t, 0) := fText_le s t 60 (by omega) (by omega)
    rw [if_pos rfl, e2]
    have hn0 : n = 0 := by have : lo 4 = 0 := by decide
                           have : hi 4 = 0 := by decide
                           omega
    subst hn0
    dsimp only
    rw [if_neg (by decide), if_neg (by rw [h]; decide)]
  · have hs := h6 k4
    subst hs
    rw [if_neg k4]
    by_cases k0 : k = 0
    · subst k0
      have hn0 : n = 0 := by have : lo 0 = 0 := by decide
                             have : hi 0 = 0 := by decide
                             omega
      subst hn0
      rw [if_neg (by omega), if_pos rfl, if_neg (by rw [h]; decide), List.nil_append]
    · rw [if_pos (by omega), if_neg k0, if_neg k4, fInt_back n t (by unfold Wire.I64; omega)]
      dsimp only
      rw [if_neg (by decide), if_neg (by rw [h]; decide)]
theorem bs_data (l : List UInt8) : (bs l).data.toList = l := rfl
theorem bs_of (s : ByteArray) : bs s.data.toList = s := by apply ByteArray.ext; exact Array.toArray_toList
theorem put_nrm (v : Vl) : put v = put0 (nrm v) := rfl
/-- A valid value is decoded out of its encoding. -/
theorem dcd_put (v : Vl) : dcd (bs (put v)) = (nrm v, 0) := by
  have := tk_put0 (nrm_ok v) []
  rw [List.append_nil] at this
  unfold dcd put
  rw [this]
  rfl
theorem tk_put (v : Vl) (t : List UInt8) : tk (bs (put v ++ t)) = (nrm v, bs t, 0) := tk_put0 (nrm_ok v) t
/-- What was read is valid, and stood at the front. -/
theorem tk_canon {s t : ByteArray} {v : Vl} (hs : s.size ≤ 100000) (h : tk s = (v, t, 0)) : chk v = 0 ∧ s.data.toList = put0 v ++ t.data.toList := by
  unfold tk at h
  obtain ⟨k, t1, e1, hk⟩ : ∃ k t1 e1, fInt s = (k, t1, e1) := ⟨_, _, _, rfl⟩
  rw [hk] at h
  dsimp only at h
  by_cases h1 : e1 ≠ 0
  · rw [if_pos h1] at h
    simp only [Prod.mk.injEq] at h
    exact absurd h.2.2 h1
  rw [if_neg h1] at h
  have h1 : e1 = 0 := Classical.byContradiction h1
  subst h1
  obtain ⟨hi64, hd⟩ := fInt_canon s t1 k hs hk
  have ht1 : t1.size ≤ 100000 := by
    have := congrArg List.length hd
    rw [List.length_append] at this
    simp only [Array.length_toList] at this
    have e : t1.data.size = t1.size := rfl
    have e2 : s.data.size = s.size := rfl
    omega
  by_cases k4 : k = 4
  · rw [if_pos k4] at h
    subst k4
    obtain ⟨u, t2, e2, hu⟩ : ∃ u t2 e2, fText 60 t1 = (u, t2, e2) := ⟨_, _, _, rfl⟩
    rw [hu] at h
    dsimp only at h
    by_cases h2 : e2 ≠ 0
    · rw [if_pos h2] at h
      simp only [Prod.mk.injEq] at h
      exact absurd h.2.2 h2
    rw [if_neg h2] at h
    have h2 : e2 = 0 := Classical.byContradiction h2
    subst h2
    by_cases h3 : chk (4, 0, u) ≠ 0
    · rw [if_pos h3] at h
      simp only [Prod.mk.injEq] at h
      exact absurd h.2.2 (by decide)
    rw [if_neg h3] at h
    simp only [Prod.mk.injEq] at h
    obtain ⟨rfl, rfl, _⟩ := h
    refine ⟨Classical.byContradiction h3, ?_⟩
    obtain ⟨_, hd2⟩ := fText_canon 60 t1 u t2 ht1 hu
    rw [hd, hd2]
    unfold put0
    dsimp only
    rw [if_neg (by decide), if_pos rfl, List.append_assoc]
  rw [if_neg k4] at h
  by_cases k3 : 1 ≤ k ∧ k ≤ 3
  · rw [if_pos k3] at h
    obtain ⟨n, t2, e2, hu⟩ : ∃ n t2 e2, fInt t1 = (n, t2, e2) := ⟨_, _, _, rfl⟩
    rw [hu] at h
    dsimp only at h
    by_cases h2 : e2 ≠ 0
    · rw [if_pos h2] at h
      simp only [Prod.mk.injEq] at h
      exact absurd h.2.2 h2
    rw [if_neg h2] at h
    have h2 : e2 = 0 := Classical.byContradiction h2
    subst h2
    by_cases h3 : chk (k, n, ByteArray.empty) ≠ 0
    · rw [if_pos h3] at h
      simp only [Prod.mk.injEq] at h
      exact absurd h.2.2 (by decide)
    rw [if_neg h3] at h
    simp only [Prod.mk.injEq] at h
    obtain ⟨rfl, rfl, _⟩ := h
    refine ⟨Classical.byContradiction h3, ?_⟩
    obtain ⟨_, hd2⟩ := fInt_canon t1 t2 n ht1 hu
    rw [hd, hd2]
    unfold put0
    dsimp only
    rw [if_neg (by omega), if_neg k4, List.append_assoc]
  rw [if_neg k3] at h
  by_cases h3 : chk (k, 0, ByteArray.empty) ≠ 0
  · rw [if_pos h3] at h
    simp only [Prod.mk.injEq] at h
    exact absurd h.2.2 (by decide)
  rw [if_neg h3] at h
  simp only [Prod.mk.injEq] at h
  obtain ⟨rfl, rfl, _⟩ := h
  have h3 := Classical.byContradiction h3
  refine ⟨h3, ?_⟩
  obtain ⟨a, b, _⟩ := chk_iff.1 h3
  have k0 : k = 0 := by dsimp only at a b; omega
  rw [hd]
  unfold put0
  dsimp only
  rw [if_pos k0, List.append_nil]
theorem dcd_canon {s : ByteArray} {v : Vl} (hs : s.size ≤ 100000) (h : dcd s = (v, 0)) : chk v = 0 ∧ bs (put v) = s := by
  unfold dcd at h
  obtain ⟨u, t, e, hu⟩ : ∃ u t e, tk s = (u, t, e) := ⟨_, _, _, rfl⟩
  rw [hu] at h
  dsimp only at h
  by_cases h1 : e ≠ 0
  · rw [if_pos h1] at h
    simp only [Prod.mk.injEq] at h
    exact absurd h.2 h1
  rw [if_neg h1] at h
  have h1 : e = 0 := Classical.byContradiction h1
  subst h1
  by_cases h2 : t.size ≠ 0
  · rw [if_pos h2] at h
    simp only [Prod.mk.injEq] at h
    exact absurd h.2 (by decide)
  rw [if_neg h2] at h
  simp only [Prod.mk.injEq, and_true] at h
  subst h
  obtain ⟨hc, hd⟩ := tk_canon hs hu
  refine ⟨hc, ?_⟩
  rw [size_zero (Classical.byContradiction h2)] at hd
  have e0 : (ByteArray.empty).data.toList = [] := rfl
  rw [e0, List.append_nil] at hd
  rw [put_nrm, nrm_of hc, ← hd, bs_of]

/-! Texts. -/
def sNone : ByteArray := ⟨#[110, 111, 110, 101]⟩
def sTrue : ByteArray := ⟨#[116, 114, 117, 101]⟩
def sFals : ByteArray := ⟨#[102, 97, 108, 115, 101]⟩
def prt0 (v : Vl) : ByteArray :=
  if v.1 = 0 then sNone else if v.1 = 1 then (if v.2.1 = 1 then sTrue else sFals) else if v.1 = 2 then digS v.2.1
  else if v.1 = 3 then ⟨#[35]⟩ ++ digS v.2.1 else bs (quo v.2.2.data.toList)
def prt (v : Vl) : ByteArray := if chk v ≠ 0 then ByteArray.empty else prt0 v
/-- The only value that can have a text. -/
def gss (s : ByteArray) : Vl :=
  if s = sTrue ∨ s = sFals then (1, if s = sTrue then 1 else 0, ByteArray.empty)
  else if s.data.toList.head? = some 35 then (3, numS (s.extract 1 s.size), ByteArray.empty)
  else if s.data.toList.head? = some 34 then (4, 0, bs (unq s.data.toList).1)
  else if okS s = true then (2, numS s, ByteArray.empty) else z0
def prs (s : ByteArray) : Vl × Int := if s.size = 0 ∨ prt (gss s) ≠ s then (z0, 4) else (gss s, 0)

theorem dig_head (n : Int) (h : -1099511627776 ≤ n ∧ n ≤ 1099511627776) : ∃ x l, (digS n).data.toList = x :: l ∧ (x.toNat = 45 ∨ 48 ≤ x.toNat ∧ x.toNat ≤ 57) := by
  have hd : (digS n).data.toList = byt (digL n) := rfl
  rw [hd]
  unfold digL
  split
  · exact ⟨45, byt (decN n.natAbs), rfl, Or.inl rfl⟩
  · obtain ⟨x, l, hx, h1, h2⟩ := dec_head 20 n.natAbs (by omega)
    refine ⟨UInt8.ofNat x.toNat, byt l, ?_, Or.inr ?_⟩
    · unfold decN
      rw [hx]
      rfl
    · rw [UInt8.toNat_ofNat']
      omega
theorem ne_head {s t : ByteArray} (h : s.data.toList.head? ≠ t.data.toList.head?) : s ≠ t := fun e => h (by rw [e])
theorem gss_prt {v : Vl} (h : chk v = 0) : gss (prt v) = v := by
  obtain ⟨k, n, s⟩ := v
  have hn := chk_n h
  obtain ⟨h1, h2, h3, h4, h5, h6⟩ := chk_iff.1 h
  simp only at h1 h2 h3 h4 h5 h6 hn
  unfold prt
  rw [if_neg (by rw [h]; decide)]
  unfold prt0
  dsimp only
  by_cases k0 : k = 0
  · subst k0
    have : lo 0 = 0 := by decide
    have : hi 0 = 0 := by decide
    obtain rfl : n = 0 := by omega
    rw [h6 (by decide), if_pos rfl]
    rfl
  rw [if_neg k0]
  by_cases k1 : k = 1
  · subst k1
    have : lo 1 = 0 := by decide
    have : hi 1 = 1 := by decide
    rw [h6 (by decide), if_pos rfl]
    by_cases n1 : n = 1
    · subst n1
      rw [if_pos rfl]
      rfl
    · obtain rfl : n = 0 := by omega
      rw [if_neg (by decide)]
      rfl
  rw [if_neg k1]
  by_cases k2 : k = 2
  · subst k2
    rw [h6 (by decide), if_pos rfl]
    obtain ⟨x, l, hx, hr⟩ := dig_head n hn
    have c0 : ∀ c : UInt8, c.toNat ≠ 45 → ¬ (48 ≤ c.toNat ∧ c.toNat ≤ 57) → (digS n).data.toList.head? ≠ some c := fun c a b e => by
      rw [hx] at e
      have e : x = c := Option.some.inj e
      subst e
      rcases hr with q | q
      · exact a q
      · exact b q
    unfold gss
    rw [if_neg (by
      rintro (e | e)
      · exact ne_head (show (digS n).data.toList.head? ≠ sTrue.data.toList.head? from c0 116 (by decide) (by decide)) e
      · exact ne_head (show (digS n).data.toList.head? ≠ sFals.data.toList.head? from c0 102 (by decide) (by decide)) e), if_neg (c0 35 (by decide) (by decide)), if_neg (c0 34 (by decide) (by decide)), if_pos (numS_in n hn).1, (numS_in n hn).2]
  rw [if_neg k2]
  by_cases k3 : k = 3
  · subst k3
    rw [h6 (by decide), if_pos rfl]
    have hd : ((⟨#[35]⟩ : ByteArray) ++ digS n).data.toList = 35 :: (digS n).data.toList := by simp [ByteArray.data_append]
    have he : ((⟨#[35]⟩ : ByteArray) ++ digS n).extract 1 ((⟨#[35]⟩ : ByteArray) ++ digS n).size = digS n := by
      have e : ((⟨#[35]⟩ : ByteArray) ++ digS n) = bs (35 :: (digS n).data.toList) := by rw [← hd, bs_of]
      rw [e]
      have := Wire.extract_bs [35] (digS n).data.toList 1 rfl
      rw [List.singleton_append] at this
      rw [this, bs_of]
    unfold gss
    rw [if_neg (by
      rintro (e | e)
      · exact ne_head (t := sTrue) (by rw [hd]; exact fun q => absurd (Option.some.inj q) (by decide)) e
      · exact ne_head (t := sFals) (by rw [hd]; exact fun q => absurd (Option.some.inj q) (by decide)) e), if_pos (by rw [hd]; rfl), he, (numS_in n hn).2]
  rw [if_neg k3]
  obtain rfl : k = 4 := by omega
  have : lo 4 = 0 := by decide
  have : hi 4 = 0 := by decide
  obtain rfl : n = 0 := by omega
  have hq : (bs (quo s.data.toList)).data.toList.head? = some 34 := rfl
  unfold gss
  rw [if_neg (by
    rintro (e | e)
    · exact ne_head (t := sTrue) (by rw [hq]; decide) e
    · exact ne_head (t := sFals) (by rw [hq]; decide) e), if_neg (by rw [hq]; decide), if_pos hq, bs_data, unq_quo, if_neg (by
      have : s.data.toList.length = s.size := by simp
      omega)]
  dsimp only
  rw [bs_of]
theorem prt_size {v : Vl} (h : chk v = 0) : (prt v).size ≠ 0 := by
  intro e
  have e0 := size_zero e
  have := gss_prt h
  rw [e0] at this
  have e1 : gss ByteArray.empty = z0 := by decide
  rw [e1] at this
  subst this
  exact absurd e (by decide)
theorem prs_prt {v : Vl} (h : chk v = 0) : prs (prt v) = (v, 0) := by
  unfold prs
  rw [gss_prt h, if_neg (by
    rintro (e | e)
    · exact prt_size h e
    · exact e rfl)]
theorem prs_canon {s : ByteArray} {v : Vl} (h : prs s = (v, 0)) : chk v = 0 ∧ prt v = s := by
  unfold prs at h
  by_cases h1 : s.size = 0 ∨ prt (gss s) ≠ s
  · rw [if_pos h1] at h
    simp only [Prod.mk.injEq] at h
    exact absurd h.2 (by decide)
  rw [if_neg h1] at h
  simp only [Prod.mk.injEq, and_true] at h
  subst h
  have h2 : prt (gss s) = s := Classical.byContradiction fun q => h1 (Or.inr q)
  refine ⟨Classical.byContradiction fun q => h1 (Or.inl ?_), h2⟩
  unfold prt at h2
  rw [if_pos q] at h2
  rw [← h2]
  rfl
/-- Another way to parse gives the same. -/
theorem prs_one {s : ByteArray} {v : Vl} (h : chk v = 0) (e : prt v = s) : prs s = (v, 0) := by rw [← e]; exact prs_prt h
theorem prs_none {s : ByteArray} (h : ∀ v, chk v = 0 → prt v ≠ s) : prs s = (z0, 4) := by
  unfold prs
  by_cases h1 : s.size = 0 ∨ prt (gss s) ≠ s
  · rw [if_pos h1]
  · exfalso
    have e : prs s = (gss s, 0) := if_neg h1
    obtain ⟨a, b⟩ := prs_canon e
    exact h _ a b

/-! Near. -/
theorem dfn_int {a : At} (h : dfn a = 0) (hk : a.k = 2) : -1099511627776 ≤ a.mn ∧ a.mn ≤ a.mx ∧ a.mx ≤ 1099511627776 := by
  unfold dfn at h
  by_cases h1 : nm a.n.data.toList = false
  · rw [if_pos h1] at h; exact absurd h (by decide)
  rw [if_neg h1] at h
  by_cases h2 : a.k < 1 ∨ 4 < a.k
  · rw [if_pos h2] at h; exact absurd h (by decide)
  rw [if_neg h2] at h
  by_cases h3 : bad a
  · rw [if_pos h3] at h; exact absurd h (by decide)
  have q : ¬ (a.mn < -1099511627776 ∨ 1099511627776 < a.mx ∨ a.mx < a.mn) := fun q => h3 (Or.inl ⟨hk, q⟩)
  omega
theorem dfn_kind {a : At} (h : dfn a = 0) : 1 ≤ a.k ∧ a.k ≤ 4 := by
  unfold dfn at h
  by_cases h1 : nm a.n.data.toList = false
  · rw [if_pos h1] at h; exact absurd h (by decide)
  rw [if_neg h1] at h
  by_cases h2 : a.k < 1 ∨ 4 < a.k
  · rw [if_pos h2] at h; exact absurd h (by decide)
  omega
theorem dfn_enum {a : At} (h : dfn a = 0) (hk : a.k = 3) : 1 ≤ a.en.length := by
  unfold dfn at h
  by_cases h1 : nm a.n.data.toList = false
  · rw [if_pos h1] at h; exact absurd h (by decide)
  rw [if_neg h1] at h
  by_cases h2 : a.k < 1 ∨ 4 < a.k
  · rw [if_pos h2] at h; exact absurd h (by decide)
  rw [if_neg h2] at h
  by_cases h3 : bad a
  · rw [if_pos h3] at h; exact absurd h (by decide)
  rw [if_neg h3, if_neg (by omega)] at h
  by_cases h4 : a.en.length < 1 ∨ 64 < a.en.length
  · rw [if_pos h4] at h; exact absurd h (by decide)
  omega
theorem clp_in {n a b : Int} (h : a ≤ b) : a ≤ clp n a b ∧ clp n a b ≤ b ∧ (a ≤ n → n ≤ b → clp n a b = n) ∧ (n < a → clp n a b = a) ∧ (b < n → clp n a b = b) := by
  unfold clp
  repeat' split <;> omega
theorem fits_iff {a : At} {v : Vl} : fits a v = 0 ↔ dfn a = 0 ∧ chk v = 0 ∧ v.1 = a.k ∧ ¬ outr a v := by
  unfold fits
  by_cases h1 : dfn a ≠ 0
  · rw [if_pos h1]; exact ⟨fun h => absurd h h1, fun h => absurd h.1 h1⟩
  rw [if_neg h1]
  by_cases h2 : chk v ≠ 0
  · rw [if_pos h2]; exact ⟨fun h => absurd h h2, fun h => absurd h.2.1 h2⟩
  rw [if_neg h2]
  by_cases h3 : v.1 ≠ a.k
  · rw [if_pos h3]; exact ⟨fun h => absurd h (by decide), fun h => absurd h.2.2.1 h3⟩
  rw [if_neg h3]
  by_cases h4 : outr a v
  · rw [if_pos h4]; exact ⟨fun h => absurd h (by decide), fun h => absurd h4 h.2.2.2⟩
  rw [if_neg h4]
  exact ⟨fun _ => ⟨Classical.byContradiction h1, Classical.byContradiction h2, Classical.byContradiction h3, h4⟩, fun _ => rfl⟩
theorem lmt_int {a : At} {v : Vl} (h : dfn a = 0) (hk : a.k = 2) (hv : v.1 = 2) : lmt a v = (v.1, clp v.2.1 a.mn a.mx, v.2.2) := by
  unfold lmt
  rw [if_neg (by rintro (q | q | q) <;> exact absurd (by assumption) q)]
theorem zer_fits {a : At} (h : dfn a = 0) : fits a (zer a) = 0 := by
  have hz : zer a = lmt a (a.k, 0, ByteArray.empty) := if_neg (by rw [h]; decide)
  rw [hz, fits_iff]
  obtain ⟨k1, k4⟩ := dfn_kind h
  by_cases hk : a.k = 2
  · obtain ⟨b1, b2, b3⟩ := dfn_int h hk
    obtain ⟨c1, c2, _⟩ := clp_in (n := 0) b2
    rw [lmt_int h hk hk]
    refine ⟨h, chk_iff.2 ⟨by dsimp only; omega, by dsimp only; omega, ?_, ?_, by dsimp only; decide, fun _ => rfl⟩, rfl, ?_⟩
    · dsimp only; rw [hk]; show (-1099511627776 : Int) ≤ _; omega
    · dsimp only; rw [hk]; show _ ≤ (1099511627776 : Int); omega
    · rintro (⟨_, q⟩ | ⟨q, _⟩)
      · dsimp only at q; omega
      · dsimp only at q; omega
  · have e : lmt a (a.k, 0, ByteArray.empty) = (a.k, 0, ByteArray.empty) := if_pos (Or.inr (Or.inl hk))
    rw [e]
    have hl : lo a.k ≤ 0 := by unfold lo; rw [if_neg hk]; omega
    have hh : 0 ≤ hi a.k := by unfold hi; repeat' split <;> omega
    refine ⟨h, chk_iff.2 ⟨by dsimp only; omega, by dsimp only; omega, hl, hh, by dsimp only; decide, fun _ => rfl⟩, rfl, ?_⟩
    rintro (⟨q, _⟩ | ⟨q, q2⟩)
    · exact hk q
    · have := dfn_enum h q
      dsimp only at q2
      omega
theorem lmt_fits {a : At} {v : Vl} (h : dfn a = 0) (hk : a.k = 2) (hv : v.1 = 2) (hc : chk v = 0) : fits a (lmt a v) = 0 := by
  obtain ⟨b1, b2, b3⟩ := dfn_int h hk
  obtain ⟨c1, c2, _⟩ := clp_in (n := v.2.1) b2
  rw [lmt_int h hk hv, fits_iff]
  have hs := (chk_iff.1 hc).2.2.2.2.2 (by omega)
  refine ⟨h, chk_iff.2 ⟨by dsimp only; omega, by dsimp only; omega, ?_, ?_, by dsimp only; rw [hs]; decide, fun _ => hs⟩, by dsimp only; omega, ?_⟩
  · dsimp only; rw [hv]; show (-1099511627776 : Int) ≤ _; omega
  · dsimp only; rw [hv]; show _ ≤ (1099511627776 : Int); omega
  · rintro (⟨_, q⟩ | ⟨q, _⟩)
    · dsimp only at q; omega
    · dsimp only at q; omega
theorem lmt_same {a : At} {v : Vl} (hv : v.1 = 2) (h : fits a v = 0) : lmt a v = v := by
  obtain ⟨h1, h2, h3, h4⟩ := fits_iff.1 h
  have hk : a.k = 2 := by omega
  have q : ¬ (v.2.1 < a.mn ∨ a.mx < v.2.1) := fun x => h4 (Or.inl ⟨hv, x⟩)
  obtain ⟨_, _, c, _⟩ := clp_in (n := v.2.1) (dfn_int h1 hk).2.1
  rw [lmt_int h1 hk hv, c (by omega) (by omega)]
theorem lmt_near {a : At} {v : Vl} {o : Int} (h : dfn a = 0) (hk : a.k = 2) (hv : v.1 = 2) (ho : fits a (2, o, ByteArray.empty) = 0) : (v.2.1 - (lmt a v).2.1).natAbs ≤ (v.2.1 - o).natAbs := by
  obtain ⟨_, _, _, h4⟩ := fits_iff.1 ho
  have q : ¬ (o < a.mn ∨ a.mx < o) := fun x => h4 (Or.inl ⟨rfl, x⟩)
  obtain ⟨c1, c2, c3, c4, c5⟩ := clp_in (n := v.2.1) (dfn_int h hk).2.1
  rw [lmt_int h hk hv]
  dsimp only
  by_cases a1 : v.2.1 < a.mn
  · rw [c4 a1]; omega
  · by_cases a2 : a.mx < v.2.1
    · rw [c5 a2]; omega
    · rw [c3 (by omega) (by omega)]; omega
end Go.Proofs.YtagkmfhicpcjnaaDoor.Vlu
/- The contract of the reference's quoted. -/
set_option linter.unusedVariables false
set_option maxRecDepth 100000
namespace Go.Proofs.YtagkmfhicpcjnaaDoor.Names
open Go.RowKit

set_option maxHeartbeats 400000 in
theorem hex_any (c : UInt8) (w : World) :
    Calls Tryd.prog 104 #[.int .u8 (c.toNat : Int)] w fun e w' => e = .returned (.int .i64 (hvI c)) ∧ w = w' := by
  have hc := c.toNat_lt
  by_cases h1 : 48 ≤ c.toNat ∧ c.toNat ≤ 57
  · obtain ⟨h1, h2⟩ := h1
    have E := Lib.hid (show hvI c = (c.toNat : Int) - 48 by have := hv_num c h1 h2; unfold hvI; rw [this, if_pos (by omega)]; omega)
    go_enter Tryd.func104, Tryd.ntmps104
    go_wp2_with fail
    go_ret
    exact ⟨ret_int (by rw [E.out]), rfl⟩
  · by_cases h2 : 97 ≤ c.toNat ∧ c.toNat ≤ 102
    · obtain ⟨h3, h4⟩ := h2
      have E := Lib.hid (show hvI c = (c.toNat : Int) - 97 + 10 by have := hv_let c h3 h4; unfold hvI; rw [this, if_pos (by omega)]; omega)
      have hn : ¬ c.toNat ≤ 57 := by omega
      clear h1
      go_enter Tryd.func104, Tryd.ntmps104
      go_wp2_with fail
      go_ret
      exact ⟨ret_int (by rw [E.out]), rfl⟩
    · have E := Lib.hid (show hvI c = -1 by have := hv_bad c h1 h2; unfold hvI; rw [this, if_neg (by omega)])
      by_cases a1 : 48 ≤ c.toNat
      · have a2 : ¬ c.toNat ≤ 57 := by omega
        by_cases a3 : 97 ≤ c.toNat
        · have a4 : ¬ c.toNat ≤ 102 := by omega
          clear h1 h2
          go_enter Tryd.func104, Tryd.ntmps104
          go_wp2_with fail
          go_ret
          exact ⟨ret_int (by rw [E.out]), rfl⟩
        · clear h1 h2
          go_enter Tryd.func104, Tryd.ntmps104
          go_wp2_with fail
          go_ret
          exact ⟨ret_int (by rw [E.out]), rfl⟩
      · have a3 : ¬ 97 ≤ c.toNat := by omega
        clear h1 h2
        go_enter Tryd.func104, Tryd.ntmps104
        go_wp2_with fail
        go_ret
        exact ⟨ret_int (by rw [E.out]), rfl⟩

/-- What quoted hands back: the text, the index behind. -/
def qdEnd (a : Nat) (x : Option (List UInt8 × Nat)) : Int := match x with | none => -1 | some y => ((a + y.2 : Nat) : Int)
def OutQd (at' : Nat) (x : Option (List UInt8 × Nat)) (w : World) (e : Ending) (w' : World) : Prop :=
  e = .returned (.tuple #[.string (bs (rqV x).1), .int .i64 (qdEnd at' x)]) ∧ Below w.heap.size w w'
theorem outd_none {p : Nat} {x : Option (List UInt8 × Nat)} {w w' : World} {s : ByteArray} (h : x = none) (hs : s = bs []) (hb : Below w.heap.size w w') : OutQd p x w (.returned (.tuple #[.string s, .int .i64 (-1)])) w' := by subst h; subst hs; exact ⟨rfl, hb⟩
theorem outd_some {p : Nat} {x : Option (List UInt8 × Nat)} {w w' : World} {t : List UInt8} {n : Nat} (h : x = some (t, n)) {b : Int} (hn : b = ((p + n : Nat) : Int)) (hb : Below w.heap.size w w') : OutQd p x w (.returned (.tuple #[.string (bs t), .int .i64 b])) w' := by
  subst h; subst hn; exact ⟨rfl, hb⟩

set_option maxRecDepth 100000 in
set_option maxHeartbeats 4000000 in
theorem quoted_any (s : ByteArray) (a : Nat) (w : World) (hs : s.size ≤ 100000) (ha : a ≤ s.size) (x : Option (List UInt8 × Nat)) (hx : rdq (s.data.toList.drop a) = x) :
    Calls Tryd.prog 100 #[.string s, .int .i64 (a : Int)] w (OutQd a x w) := by
  obtain ⟨i0, hi, hz0, hz1, hz2⟩ := info_parts info_u8
  by_cases hlt0 : a < s.size
  case neg =>
    have X := Lib.hid (show x = none by rw [← hx, at_end s a (by omega)]; rfl)
    clear hx
    go_enter Tryd.func100, Tryd.ntmps100
    go_wp2_with fail
    exact bodyPost_ret (v := .tuple #[.string (bs []), .int .i64 (-1)]) (by simp [results, Tryd.results100, go_sem]; rfl) rfl (outd_none X.out rfl (Below.refl _ _))
  by_cases hq : s[a].toNat = 34
  case neg =>
    have X := Lib.hid (show x = none by rw [← hx]; unfold rdq; rw [if_neg (head_ne s a hlt0 hq)])
    have t34 : ((s[a].toNat : Int) != 34) = true := by simp; omega
    clear hx hq
    go_enter Tryd.func100, Tryd.ntmps100
    go_wp2_with fail
    exact bodyPost_ret (v := .tuple #[.string (bs []), .int .i64 (-1)]) (by simp [results, Tryd.results100, go_sem]; rfl) rfl (outd_none X.out rfl (Below.refl _ _))
  have t34 : ((s[a].toNat : Int) != 34) = false := by simp; omega
  have X0 := at_drop s a hlt0
  have hs34 : s[a] = 34 := UInt8.toNat_inj.1 (by rw [hq]; rfl)
  rw [X0, hs34, wk_rdq] at hx
  have hll : (s.data.toList.drop (a + 1)).length = s.size - (a + 1) := by rw [List.length_drop, toNat_bytes]
  have HLL := Lib.hid hll
  rw [hll] at hx
  obtain ⟨y, hy⟩ : ∃ y, wk (s.size - (a + 1) + 1) (s.data.toList.drop (a + 1)) = y := ⟨_, rfl⟩
  have X := Lib.hid (show x = y.bind (fin (s.data.toList.drop (a + 1))) by rw [← hx, hy])
  have Y := Lib.hid (show y = (wk (s.size - (a + 1) + 1) (s.data.toList.drop (a + 1))).map fun z => ([] ++ z.1, (a + 1 - (a + 1)) + z.2) by
    rw [hy]; simp)
  have S34 := Lib.hid hs34
  have HX0 := Lib.hid X0
  have d0 : decide (s.size ≤ a) = false := decide_eq_false (by omega)
  clear hx hy hll hq X0 hs34
  go_enter Tryd.func100, Tryd.ntmps100
  go_wp2_with fail
  go_loopw [6, 7] (fun v i wr => ∃ (p f : Nat) (acc : List UInt8), i = .int .i64 p ∧ a + 1 ≤ p ∧ p ≤ s.size ∧ acc.length ≤ p ∧ s.size < p + f ∧
      y = ((wk f (s.data.toList.drop p)).map fun z => (acc ++ z.1, (p - (a + 1)) + z.2)) ∧ OwnB wr w.heap.size v acc ∧ Below w.heap.size w wr) (fun _ i _ => s.size - (intOf i).toNat)
  case atStart => exact ⟨a + 1, s.size - (a + 1) + 1, [], by go_num, Nat.le_refl _, hlt0, by simp, by omega, Y.out, World.ownsRow_nil _ _ _ _, Below.refl _ _⟩
  case round =>
    obtain ⟨p, f, acc, rfl, h1, h2, h3, h4, h5, hown, hb⟩ := hrel
    obtain ⟨f, rfl⟩ : ∃ g, f = g + 1 := ⟨f - 1, by omega⟩
    have B := Lib.hid hb
    have hsz := hb.size
    have HL := Lib.hid (fun k (hk : u6.ownBlock = some k) => (hown.lt k hk).1)
    have HO := Lib.hid hown
    by_cases hlt : p < s.size
    · have hc := (s[p]).toNat_lt
      have HP := Lib.hid (at_drop s p hlt)
      by_cases hq : s[p].toNat = 34
      · have c34 : ((s[p].toNat : Int) != 34) = false := by simp; omega
        have Y2 := Lib.hid (show y = some (acc, p - (a + 1)) by rw [h5, HP.out, wk_quote f _ _ hq]; simp)
        have hcut : (s.extract a (p + 1)).data.toList = 34 :: (s.data.toList.drop (a + 1)).take (p - (a + 1) + 1) := by
          have e : (s.extract a (p + 1)).data.toList = (s.data.toList.drop a).take (p + 1 - a) := by simp [List.extract]
          rw [e, HX0.out, S34.out, show p + 1 - a = (p - (a + 1) + 1) + 1 by omega, List.take_succ_cons]
        have hfit : p - (a + 1) < (s.data.toList.drop (a + 1)).length := by rw [HLL.out]; omega
        have i1 : IntKind.i64.wrap ((p : Int) + 1) = (p : Int) + 1 := IntWalk.i64_in _ (by omega)
        have i2 : (0 : Int) ≤ (p : Int) + 1 := by omega
        have i3 : (a : Int) ≤ (p : Int) + 1 := by omega
        have i4 : (p : Int) + 1 ≤ (s.size : Int) := by omega
        have i5 : ((p : Int) + 1).toNat = p + 1 := by omega
        have i6 : decide (s.size ≤ p) = false := decide_eq_false (by omega)
        have HACC := Lib.hid (show (bs acc).size ≤ 100000 by rw [bs_size]; omega)
        have hcv := conv_own (show OwnB wr.drew w.heap.size u6 acc from World.ownsRow.drew hown)
        have hcv0 := conv_own hown
        by_cases hg : quo acc = 34 :: (s.data.toList.drop (a + 1)).take (p - (a + 1) + 1)
        · have X2 := Lib.hid (show x = some (acc, p - (a + 1) + 2) by
            rw [X.out, Y2.out]; show fin _ (acc, p - (a + 1)) = _; unfold fin; rw [if_pos ⟨hfit, hg⟩])
          have t1 : ((bs (quo acc)).toList == (s.extract a (p + 1)).toList) = true := by
            rw [Lib.toList_data, Lib.toList_data, bs_data, hcut, ← hg]; simp
          have t2 : ((bs (quo acc)).toList != (s.extract a (p + 1)).toList) = false := by unfold bne; rw [t1]; rfl
          clear hg hfit hcut hq h5 hb
          go_wp2_with fail
          go_region_held3 (fun w' => (convert 65 9 u6).run Tryd.prog w' = .ok (.string (bs acc)) w') (first | exact hcv0 | exact hcv | exact conv_own (ownsRow_below (World.ownsRow.drew HO.out) B3.out)) (first
            | (go_at_call 68; refine (rquote_any (bs acc) _ HACC.out).mono ?_; rintro r w3 ⟨rfl, hb3⟩; rw [bs_data]; have B3 := Lib.hid hb3; clear hb3) | fail)
          have hcv3 := conv_own (ownsRow_below (World.ownsRow.drew HO.out) B3.out)
          go_wp2_with fail
          exact bodyPost_ret (v := .tuple #[.string (bs acc), .int .i64 ((p : Int) + 1)]) (by simp [results, Tryd.results100, go_sem]) rfl (outd_some X2.out (by omega) (B.out.drew.trans (B3.out.mono hsz)))
        · have X2 := Lib.hid (show x = none by
            rw [X.out, Y2.out]; show fin _ (acc, p - (a + 1)) = _; unfold fin; rw [if_neg (fun h => hg h.2)])
          have t1 : ((bs (quo acc)).toList == (s.extract a (p + 1)).toList) = false := by
            rw [Lib.toList_data, Lib.toList_data, bs_data, hcut, beq_eq_false_iff_ne]; exact hg
          have t2 : ((bs (quo acc)).toList != (s.extract a (p + 1)).toList) = true := by unfold bne; rw [t1]; rfl
          clear hg hfit hcut hq h5 hb
          go_wp2_with fail
          go_region_held3 (fun w' => (convert 65 9 u6).run Tryd.prog w' = .ok (.string (bs acc)) w') (first | exact hcv0 | exact hcv | exact conv_own (ownsRow_below (World.ownsRow.drew HO.out) B3.out)) (first
            | (go_at_call 68; refine (rquote_any (bs acc) _ HACC.out).mono ?_; rintro r w3 ⟨rfl, hb3⟩; rw [bs_data]; have B3 := Lib.hid hb3; clear hb3) | fail)
          have hcv3 := conv_own (ownsRow_below (World.ownsRow.drew HO.out) B3.out)
          go_wp2_with fail
          exact bodyPost_ret (v := .tuple #[.string (bs []), .int .i64 (-1)]) (by simp [results, Tryd.results100, go_sem]; rfl) rfl (outd_none X2.out rfl (B.out.drew.trans (B3.out.mono hsz)))
      · have c34 : ((s[p].toNat : Int) != 34) = true := by simp; omega
        by_cases h92 : s[p].toNat = 92
        · have c92 : ((s[p].toNat : Int) != 92) = false := by simp; omega
          have i1 : IntKind.i64.wrap ((p : Int) + 1) = (p : Int) + 1 := IntWalk.i64_in _ (by omega)
          by_cases hl1 : p + 1 < s.size
          · have l1 : (p : Int) + 1 < (s.size : Int) := by omega
            have hc1 := (s[p + 1]).toNat_lt
            by_cases hq1 : s[p + 1].toNat = 34 ∨ s[p + 1].toNat = 92
            · have W0 := wesc_self s[p + 1] (s.data.toList.drop (p + 2)) hq1
              rw [← at_drop s (p + 1) hl1] at W0
              have Y2 := Lib.hid (show y = ((wk f (s.data.toList.drop (p + 2))).map fun z => ((acc ++ [s[p + 1]]) ++ z.1, (p + 2 - (a + 1)) + z.2)) by
                rw [h5, HP.out, wk_esc f _ _ _ _ h92 W0, ← HP.out, List.drop_drop, Option.map_map]
                congr 1
                funext z
                simp; omega)
              by_cases h34 : s[p + 1].toNat = 34
              · have u34 : ((s[p + 1].toNat : Int) == 34) = true := by simp; omega
                clear h5 hb hq hq1 h92 W0 h34
                go_wp2_with (at_builtin; refine wpList_append_own _ rfl (.tmp 61) (.tmp 66) 65 rfl w.heap.size 5 i0 (.int .u8 0) 1 1 Tryd.underlying65 hi hz0 hz1 hz2 rfl (by decide) _ _ _ rfl (hown.alloc _) ⟨wr.heap.size, 0, none⟩ 1 1 [.int .u8 (s[p + 1].toNat : Int)] rfl rfl (one_cell _ _ _) ?c2 ?c3 ?c4 ?c5 ?_)
                case c2 => intro u hu; simp at hu; subst hu; rfl
                case c3 => unfold maxLen; omega
                case c4 => omega
                case c5 => simp; omega
                intro v' w3 hown' hgrow _
                have R3 := Lib.hid (ownB_app (acc := acc) (news := [s[p + 1]]) hown')
                have B3 := Lib.hid ((B.out.alloc (by omega) _).grown hgrow (by simp; omega) HL.out)
                clear hown' hgrow hown
                go_wp2_with fail
                go_roundw
                case rel => exact ⟨p + 2, f, acc ++ [s[p + 1]], by go_num, by omega, by omega, by rw [snoc_len]; omega, by omega, Y2.out, R3.out, B3.out⟩
                case measure => simp [intOf]; omega
              · have u34 : ((s[p + 1].toNat : Int) == 34) = false := by simp; omega
                have u92 : ((s[p + 1].toNat : Int) == 92) = true := by simp; omega
                clear h5 hb hq hq1 h92 W0 h34
                go_wp2_with (at_builtin; refine wpList_append_own _ rfl (.tmp 61) (.tmp 66) 65 rfl w.heap.size 5 i0 (.int .u8 0) 1 1 Tryd.underlying65 hi hz0 hz1 hz2 rfl (by decide) _ _ _ rfl (hown.alloc _) ⟨wr.heap.size, 0, none⟩ 1 1 [.int .u8 (s[p + 1].toNat : Int)] rfl rfl (one_cell _ _ _) ?c2 ?c3 ?c4 ?c5 ?_)
                case c2 => intro u hu; simp at hu; subst hu; rfl
                case c3 => unfold maxLen; omega
                case c4 => omega
                case c5 => simp; omega
                intro v' w3 hown' hgrow _
                have R3 := Lib.hid (ownB_app (acc := acc) (news := [s[p + 1]]) hown')
                have B3 := Lib.hid ((B.out.alloc (by omega) _).grown hgrow (by simp; omega) HL.out)
                clear hown' hgrow hown
                go_wp2_with fail
                go_roundw
                case rel => exact ⟨p + 2, f, acc ++ [s[p + 1]], by go_num, by omega, by omega, by rw [snoc_len]; omega, by omega, Y2.out, R3.out, B3.out⟩
                case measure => simp [intOf]; omega
            · have u34 : ((s[p + 1].toNat : Int) == 34) = false := by simp; omega
              have u92 : ((s[p + 1].toNat : Int) == 92) = false := by simp; omega
              by_cases hxq : s[p + 1].toNat = 120 ∧ p + 3 < s.size
              · obtain ⟨hx1, hl3⟩ := hxq
                have u120 : ((s[p + 1].toNat : Int) == 120) = true := by simp; omega
                have l3 : (p : Int) + 3 < (s.size : Int) := by omega
                have hc2 := (s[p + 2]).toNat_lt
                have hc3 := (s[p + 3]).toNat_lt
                have W0 := wesc_hex s[p + 1] s[p + 2] s[p + 3] (s.data.toList.drop (p + 4)) hx1
                rw [← at_drop s (p + 3) hl3, ← at_drop s (p + 2) (by omega), ← at_drop s (p + 1) (by omega)] at W0
                have j2 := hvI_le s[p + 2]
                have j3 := hvI_le s[p + 3]
                have D2 := Lib.hid (hex_any s[p + 2])
                have D3 := Lib.hid (hex_any s[p + 3])
                by_cases hh : hv s[p + 2] < 16 ∧ hv s[p + 3] < 16
                · have e2 : hvI s[p + 2] = (hv s[p + 2] : Int) := by unfold hvI; rw [if_pos hh.1]
                  have e3 : hvI s[p + 3] = (hv s[p + 3] : Int) := by unfold hvI; rw [if_pos hh.2]
                  rw [e2] at D2
                  rw [e3] at D3
                  rw [if_pos hh] at W0
                  generalize hv s[p + 2] = x2 at *
                  generalize hv s[p + 3] = x3 at *
                  have Y2 := Lib.hid (show y = ((wk f (s.data.toList.drop (p + 4))).map fun z => ((acc ++ [UInt8.ofNat (16 * x2 + x3)]) ++ z.1, (p + 4 - (a + 1)) + z.2)) by
                    rw [h5, HP.out, wk_esc f _ _ _ _ h92 W0, ← HP.out, List.drop_drop, Option.map_map]
                    congr 1
                    funext z
                    simp; omega)
                  have CE := Lib.hid (show (16 * (x2 : Int) + (x3 : Int)) = ((UInt8.ofNat (16 * x2 + x3)).toNat : Int) by rw [UInt8.toNat_ofNat']; omega)
                  have i1 : IntKind.i64.wrap ((p : Int) + 1) = (p : Int) + 1 := IntWalk.i64_in _ (by omega)
                  clear j2 j3 e2 e3 h5 hb hq hq1 h92 hx1 W0
                  go_wp2_with (first
                    | (go_at_call 104; ((with_reducible refine (D2.out _).mono ?_); rintro e w' ⟨rfl, rfl⟩))
                    | (go_at_call 104; ((with_reducible refine (D3.out _).mono ?_); rintro e w' ⟨rfl, rfl⟩)))
                  have q2 : IntKind.i64.wrap ((p : Int) + 2) = (p : Int) + 2 := IntWalk.i64_in _ (by omega)
                  have q3 : IntKind.i64.wrap ((p : Int) + 3) = (p : Int) + 3 := IntWalk.i64_in _ (by omega)
                  have q4 : (0 : Int) ≤ (p : Int) + 2 := by omega
                  have q5 : (0 : Int) ≤ (p : Int) + 3 := by omega
                  have q6 : (p : Int) + 2 < (s.size : Int) := by omega
                  have q7 : (p : Int) + 3 < (s.size : Int) := by omega
                  have q8 : ((p : Int) + 2).toNat = p + 2 := by omega
                  have q9 : ((p : Int) + 3).toNat = p + 3 := by omega
                  have m1 : IntKind.i64.wrap (16 * (x2 : Int)) = 16 * (x2 : Int) := IntWalk.i64_in _ (by omega)
                  have m2 : IntKind.i64.wrap (16 * (x2 : Int) + (x3 : Int)) = 16 * (x2 : Int) + (x3 : Int) := IntWalk.i64_in _ (by omega)
                  have m3 : IntKind.u8.wrap (16 * (x2 : Int) + (x3 : Int)) = 16 * (x2 : Int) + (x3 : Int) := by rw [IntKind.wrap_u8]; omega
                  go_region_held3 (fun _ => True) (trivial) (first
                    | (go_at_call 104; ((with_reducible refine (D2.out _).mono ?_); rintro e w' ⟨rfl, rfl⟩))
                    | (go_at_call 104; ((with_reducible refine (D3.out _).mono ?_); rintro e w' ⟨rfl, rfl⟩))
                    | (refine step_append_lies _ (by rfl) (.tmp 98) (.tmp 112) 65 (by rfl) w.heap.size 5 i0 (.int .u8 0) 1 1 Tryd.underlying65 hi hz0 hz1 hz2 rfl (by omega) u6 acc.length (u8s acc) (by rfl) ((HO.out.alloc _).drew) ⟨wr.heap.size, 0, none⟩ 1 1 [.int .u8 (16 * (x2 : Int) + (x3 : Int))] (by rfl) (by rfl) (World.news_of_block (cs := #[.int .u8 (16 * (x2 : Int) + (x3 : Int))]) (t := 5) (fr := (0, 0)) (heap_alloc_new wr _)) (by simp [Value.oneCell']) (by omega) (by unfold maxLen; omega) (by omega) (by simp; omega) (wr.heap.size + 1) (by simp) ?_; intro gg cap w3 hown' hgrow hat hlt3) | fail)
                  all_goals
                    have R3 := Lib.hid (show OwnB w3 w.heap.size (.slice (some ⟨gg, 0, none⟩) (acc.length + 1) cap) (acc ++ [UInt8.ofNat (16 * x2 + x3)]) by
                      refine ownB_app (news := [UInt8.ofNat (16 * x2 + x3)]) ?_
                      have h := hown'
                      rw [CE.out] at h
                      exact h)
                    have B3 := Lib.hid ((((B.out.alloc hsz _).drew)).grown hgrow (by simp; omega) HL.out)
                    clear hown' hgrow hown hat hlt3
                    go_wp2_with fail
                    go_roundw
                    case rel => exact ⟨p + 4, f, acc ++ [UInt8.ofNat (16 * x2 + x3)], by go_num, by omega, by omega, by rw [snoc_len]; omega, by omega, Y2.out, R3.out, B3.out⟩
                    case measure => simp [intOf]; omega
                · have Y2 := Lib.hid (show y = none by rw [h5, HP.out, wk_bad f _ _ h92 (by rw [W0, if_neg hh])]; rfl)
                  have X2 := Lib.hid (show x = none by rw [X.out, Y2.out]; rfl)
                  by_cases h2x : hv s[p + 2] < 16
                  · have e2 : hvI s[p + 2] = (hv s[p + 2] : Int) := by unfold hvI; rw [if_pos h2x]
                    have e3 : hvI s[p + 3] = -1 := by unfold hvI; rw [if_neg (fun h => hh ⟨h2x, h⟩)]
                    rw [e2] at D2
                    rw [e3] at D3
                    generalize hv s[p + 2] = x2 at *
                    clear j2 j3 e2 e3 h5 hb hq hq1 h92 hx1 W0 hh
                    go_wp2_with (first
                      | (go_at_call 104; ((with_reducible refine (D2.out _).mono ?_); rintro e w' ⟨rfl, rfl⟩))
                      | (go_at_call 104; ((with_reducible refine (D3.out _).mono ?_); rintro e w' ⟨rfl, rfl⟩)))
                    exact bodyPost_ret (v := .tuple #[.string (bs []), .int .i64 (-1)]) (by simp [results, Tryd.results100, go_sem]; rfl) rfl (outd_none X2.out rfl B.out)
                  · have e2 : hvI s[p + 2] = -1 := by unfold hvI; rw [if_neg h2x]
                    rw [e2] at D2
                    clear j2 j3 e2 h5 hb hq hq1 h92 hx1 W0 hh h2x
                    go_wp2_with (first
                      | (go_at_call 104; ((with_reducible refine (D2.out _).mono ?_); rintro e w' ⟨rfl, rfl⟩)))
                    exact bodyPost_ret (v := .tuple #[.string (bs []), .int .i64 (-1)]) (by simp [results, Tryd.results100, go_sem]; rfl) rfl (outd_none X2.out rfl B.out)
              · have W0 : wesc (s.data.toList.drop (p + 1)) = none := by
                  rw [at_drop s (p + 1) hl1]
                  by_cases hx1 : s[p + 1].toNat = 120
                  · by_cases h3l : p + 2 < s.size
                    · rw [at_drop s (p + 1 + 1) h3l, at_end s (p + 1 + 1 + 1) (by omega)]; exact wesc_short1 _ _ hx1
                    · rw [at_end s (p + 1 + 1) (by omega)]; exact wesc_short0 _ hx1
                  · exact wesc_other _ _ hq1 hx1
                have Y2 := Lib.hid (show y = none by rw [h5, HP.out, wk_bad f _ _ h92 W0]; rfl)
                have X2 := Lib.hid (show x = none by rw [X.out, Y2.out]; rfl)
                by_cases hl3 : p + 3 < s.size
                · have l3 : (p : Int) + 3 < (s.size : Int) := by omega
                  have u120 : ((s[p + 1].toNat : Int) == 120) = false := by simp; omega
                  clear h5 hb hq hq1 h92 W0 hxq
                  go_wp2_with fail
                  exact bodyPost_ret (v := .tuple #[.string (bs []), .int .i64 (-1)]) (by simp [results, Tryd.results100, go_sem]; rfl) rfl (outd_none X2.out rfl B.out)
                · have l3 : ¬ (p : Int) + 3 < (s.size : Int) := by omega
                  clear h5 hb hq hq1 h92 W0 hxq
                  go_wp2_with fail
                  exact bodyPost_ret (v := .tuple #[.string (bs []), .int .i64 (-1)]) (by simp [results, Tryd.results100, go_sem]; rfl) rfl (outd_none X2.out rfl B.out)
          · have l1 : ¬ (p : Int) + 1 < (s.size : Int) := by omega
            have l3 : ¬ (p : Int) + 3 < (s.size : Int) := by omega
            have Y2 := Lib.hid (show y = none by rw [h5, HP.out, wk_bad f _ _ h92 (by rw [at_end s (p + 1) (by omega)]; rfl)]; rfl)
            have X2 := Lib.hid (show x = none by rw [X.out, Y2.out]; rfl)
            clear h5 hb hq h92
            go_wp2_with fail
            exact bodyPost_ret (v := .tuple #[.string (bs []), .int .i64 (-1)]) (by simp [results, Tryd.results100, go_sem]; rfl) rfl (outd_none X2.out rfl B.out)
        · have c92 : ((s[p].toNat : Int) != 92) = true := by simp; omega
          have Y2 := Lib.hid (show y = ((wk f (s.data.toList.drop (p + 1))).map fun z => ((acc ++ [s[p]]) ++ z.1, (p + 1 - (a + 1)) + z.2)) by
            rw [h5, HP.out, wk_plain f _ _ hq h92, Option.map_map]
            congr 1
            funext z
            simp; omega)
          clear h5 hb hq h92
          go_wp2_with (at_builtin; refine wpList_append_own _ rfl (.tmp 34) (.tmp 38) 65 rfl w.heap.size 5 i0 (.int .u8 0) 1 1 Tryd.underlying65 hi hz0 hz1 hz2 rfl (by decide) _ _ _ rfl (hown.alloc _) ⟨wr.heap.size, 0, none⟩ 1 1 [.int .u8 (s[p].toNat : Int)] rfl rfl (one_cell _ _ _) ?c2 ?c3 ?c4 ?c5 ?_)
          case c2 => intro u hu; simp at hu; subst hu; rfl
          case c3 => unfold maxLen; omega
          case c4 => omega
          case c5 => simp; omega
          intro v' w3 hown' hgrow _
          have R3 := Lib.hid (ownB_app (acc := acc) (news := [s[p]]) hown')
          have B3 := Lib.hid ((B.out.alloc (by omega) _).grown hgrow (by simp; omega) HL.out)
          clear hown' hgrow hown
          go_wp2_with fail
          go_roundw
          case rel => exact ⟨p + 1, f, acc ++ [s[p]], by go_num, by omega, by omega, by rw [snoc_len]; omega, by omega, Y2.out, R3.out, B3.out⟩
          case measure => simp [intOf]; omega
    · obtain rfl : p = s.size := by omega
      have Y2 := Lib.hid (show y = some (acc, s.size - (a + 1)) by rw [h5, at_end s s.size (Nat.le_refl _), wk_nil]; simp)
      have X2 := Lib.hid (show x = none by
        rw [X.out, Y2.out]; show fin _ (acc, s.size - (a + 1)) = _; unfold fin; rw [if_neg]
        rintro ⟨h, _⟩
        have := HLL.out
        omega)
      have i6 : decide (s.size ≤ s.size) = true := decide_eq_true (Nat.le_refl _)
      clear h5 hb
      go_wp2_with fail
      go_quiet (fail)
      go_wp2_with fail
      exact bodyPost_ret (v := .tuple #[.string (bs []), .int .i64 (-1)]) (by simp [results, Tryd.results100, go_sem]; rfl) rfl (outd_none X2.out rfl (B.out.trans ((below_drewN _ _).mono hsz)))
end Go.Proofs.YtagkmfhicpcjnaaDoor.Names
/- Contracts of the reference: Unquote, part, Fields, and of Same. -/
set_option linter.unusedVariables false
set_option maxRecDepth 100000
namespace Go.Proofs.YtagkmfhicpcjnaaDoor.Names
open Go.RowKit

set_option maxHeartbeats 1000000 in
theorem ruq_any (s : ByteArray) (w : World) (hs : s.size ≤ 100000) (x : List UInt8 × Int) (hx : unq s.data.toList = x) :
    Calls Tryd.prog 86 #[.string s] w (OutUq x w) := by
  rcases hr : rdq s.data.toList with _ | ⟨t, n⟩
  · have X := Lib.hid (hx.symm.trans (unq_none hr))
    have Q := Lib.hid (quoted_any s 0 w hs (Nat.zero_le _) none (by rw [List.drop_zero]; exact hr))
    clear hx hr
    go_enter Tryd.func86, Tryd.ntmps86
    go_wp2_with fail
    refine Q.out.mono ?_
    rintro e w1 ⟨rfl, hb⟩
    have B := Lib.hid hb
    clear hb
    simp only [rqV, qdEnd, Option.getD_none]
    go_wp2_with fail
    exact bodyPost_ret (v := .tuple #[.string (bs []), .int .i64 4]) (by simp [results, Tryd.results86, go_sem]; rfl) rfl (outu X.out rfl B.out)
  · have Q := Lib.hid (quoted_any s 0 w hs (Nat.zero_le _) (some (t, n)) (by rw [List.drop_zero]; exact hr))
    have hz := rdq_size hr
    rw [toNat_bytes] at hz
    have hn0 : ¬ (n : Int) < 0 := by omega
    have htb := bs_size t
    have htl : (bs t).size ≤ 100000 := by omega
    by_cases h1 : n < s.size
    · have X := Lib.hid (hx.symm.trans (unq_more hr (by rw [toNat_bytes]; exact h1)))
      have hne : ((n : Int) != (s.size : Int)) = true := by simp; omega
      clear hx hr htb
      go_enter Tryd.func86, Tryd.ntmps86
      go_wp2_with fail
      refine Q.out.mono ?_
      rintro e w1 ⟨rfl, hb⟩
      have B := Lib.hid hb
      clear hb
      simp only [rqV, qdEnd, Option.getD_some, Nat.zero_add]
      go_wp2_with fail
      exact bodyPost_ret (v := .tuple #[.string (bs []), .int .i64 4]) (by simp [results, Tryd.results86, go_sem]; rfl) rfl (outu X.out rfl B.out)
    · have hne : ((n : Int) != (s.size : Int)) = false := by simp; omega
      by_cases h2 : 60 < t.length
      · have X := Lib.hid (hx.symm.trans (unq_long hr (by rw [toNat_bytes]; exact h1) h2))
        have h3 : 60 < (bs t).size := by omega
        clear hx hr htb
        go_enter Tryd.func86, Tryd.ntmps86
        go_wp2_with fail
        refine Q.out.mono ?_
        rintro e w1 ⟨rfl, hb⟩
        have B := Lib.hid hb
        clear hb
        simp only [rqV, qdEnd, Option.getD_some, Nat.zero_add]
        go_wp2_with fail
        exact bodyPost_ret (v := .tuple #[.string (bs []), .int .i64 3]) (by simp [results, Tryd.results86, go_sem]; rfl) rfl (outu X.out rfl B.out)
      · have X := Lib.hid (hx.symm.trans (unq_good hr (by rw [toNat_bytes]; exact h1) h2))
        have h3 : ¬ 60 < (bs t).size := by omega
        clear hx hr htb
        go_enter Tryd.func86, Tryd.ntmps86
        go_wp2_with fail
        refine Q.out.mono ?_
        rintro e w1 ⟨rfl, hb⟩
        have B := Lib.hid hb
        clear hb
        simp only [rqV, qdEnd, Option.getD_some, Nat.zero_add]
        go_wp2_with fail
        exact bodyPost_ret (v := .tuple #[.string (bs t), .int .i64 0]) (by simp [results, Tryd.results86, go_sem]) rfl (outu X.out rfl B.out)

/-- The first part may stand there. -/
def okp (l : List UInt8) : Bool := decide (psz l ≠ 0) && (decide (l.head? = some 34) || decide (psz l = l.length) || decide ((l.getD (psz l) 0).toNat = 32))
/-- What the reference's part hands back. -/
def ptR (s : ByteArray) (a : Nat) : Int := if okp (s.data.toList.drop a) then ((a + psz (s.data.toList.drop a) : Nat) : Int) else -1
theorem psz_tw' (s : ByteArray) (a : Nat) (h : (s.data.toList.drop a).head? ≠ some 34) : psz (s.data.toList.drop a) = tw s a := by
  unfold psz tw; rw [if_neg h]
theorem getD_drop (s : ByteArray) (a k : Nat) (h : a + k < s.size) : (s.data.toList.drop a).getD k 0 = s[a + k] := by
  simp [List.getD, List.getElem?_drop, h]
  rfl

/-- The reference's next step in the words of what Fields hands back. -/
theorem ok_parts {l : List UInt8} (h : okp l = false) (f : Nat) : fl (f + 1) l = none := by
  unfold okp at h
  by_cases hz : psz l = 0
  · exact fl_none f l hz
  · have e : decide (psz l ≠ 0) = true := decide_eq_true hz
    rw [e, Bool.true_and, Bool.or_eq_false_iff, Bool.or_eq_false_iff] at h
    exact fl_bad f l (of_decide_eq_false h.1.2) (of_decide_eq_false h.2)
theorem ok_ne {l : List UInt8} (h : okp l = true) : psz l ≠ 0 := by
  unfold okp at h
  rw [Bool.and_eq_true] at h
  exact of_decide_eq_true h.1

end Go.Proofs.YtagkmfhicpcjnaaDoor.Names
/- Contracts of the reference: Valid, Same. -/
set_option linter.unusedVariables false
set_option maxRecDepth 100000
namespace Go.Proofs.YtagkmfhicpcjnaaDoor.Names
open Go.RowKit

set_option maxHeartbeats 2000000 in
theorem rvalid_any (s : ByteArray) (w : World) (hs : s.size ≤ 9223372036854775807) (b : Bool) (hbb : nm s.data.toList = b) :
    Calls Tryd.prog 43 #[.string s] w (OutBool b w) := by
  have hl := toNat_bytes s
  by_cases h0 : 0 < s.size
  case neg =>
    have X := Lib.hid (show b = false by rw [← hbb]; exact nm_empty (by omega))
    have d0 : decide ((s.size : Int) < 1) = true := decide_eq_true (by omega)
    clear hbb hl
    go_enter Tryd.func43, Tryd.ntmps43
    go_wp2_with fail
    go_ret
    exact outb X.out (Below.refl _ _)
  have d0 : decide ((s.size : Int) < 1) = false := decide_eq_false (by omega)
  by_cases h24 : 24 < s.size
  · have X := Lib.hid (show b = false by rw [← hbb]; exact nm_long (by omega))
    clear hbb hl
    go_enter Tryd.func43, Tryd.ntmps43
    go_wp2_with fail
    go_ret
    exact outb X.out (Below.refl _ _)
  have X := Lib.hid (show b = nmF 0 (s.data.toList.drop 0) by rw [← hbb, List.drop_zero]; exact nm_go (by omega) (by omega))
  clear hbb hl
  go_enter Tryd.func43, Tryd.ntmps43
  go_wp2_with fail
  go_loop [3] (fun i => ∃ (p : Nat), i = .int .i64 p ∧ p ≤ s.size ∧ b = nmF p (s.data.toList.drop p)) (fun i => s.size - (intOf i).toNat)
  case atStart => exact ⟨0, rfl, Nat.zero_le _, X.out⟩
  case round =>
    obtain ⟨p, rfl, h1, h2⟩ := hrel
    by_cases hp : p < s.size
    · have hc := (s[p]).toNat_lt
      rw [at_drop s p hp, nmF_cons, nmB_eq] at h2
      by_cases hl : 97 ≤ s[p].toNat ∧ s[p].toNat ≤ 122
      · obtain ⟨g1, g2⟩ := hl
        have X2 := Lib.hid (show b = nmF (p + 1) (s.data.toList.drop (p + 1)) by rw [h2, show letB s[p].toNat = true from decide_eq_true ⟨g1, g2⟩]; rfl)
        clear h2 X
        go_wp2_with fail
        go_round
        case rel => exact ⟨p + 1, by go_num, hp, X2.out⟩
        case measure => simp [intOf]; omega
      · rw [show letB s[p].toNat = false from decide_eq_false hl, Bool.false_or] at h2
        have hlF : (decide (97 ≤ s[p].toNat) && decide (s[p].toNat ≤ 122)) = false := by simp; omega
        by_cases hz : p = 0
        · have X2 := Lib.hid (show b = false by rw [h2, show decide (p ≠ 0) = false from decide_eq_false (by omega)]; rfl)
          have hz1 : ((p : Int) == 0) = true := by simp; omega
          clear h2 X hz
          by_cases a1 : 97 ≤ s[p].toNat
          · have a2 : decide ((s[p].toNat : Int) ≤ 122) = false := decide_eq_false (by omega)
            clear hl hlF
            go_wp2_with fail
            go_ret
            exact outb X2.out (Below.refl _ _)
          · clear hl hlF
            go_wp2_with fail
            go_ret
            exact outb X2.out (Below.refl _ _)
        · have hz1 : ((p : Int) == 0) = false := by simp; omega
          rw [decide_eq_true hz, Bool.true_and] at h2
          by_cases g1 : s[p].toNat = 95
          · have t95 : ((s[p].toNat : Int) != 95) = false := by simp; omega
            have a1 : ¬ 97 ≤ s[p].toNat := by omega
            have X2 := Lib.hid (show b = nmF (p + 1) (s.data.toList.drop (p + 1)) by rw [h2, show ltrB s[p].toNat = true from decide_eq_true (by omega)]; rfl)
            clear g1 h2 X hz hlF hl
            go_wp2_with fail
            go_round
            case rel => exact ⟨p + 1, by go_num, hp, X2.out⟩
            case measure => simp [intOf]; omega
          · have t95 : ((s[p].toNat : Int) != 95) = true := by simp; omega
            by_cases g2 : s[p].toNat = 45
            · have t45 : ((s[p].toNat : Int) != 45) = false := by simp; omega
              have a1 : ¬ 97 ≤ s[p].toNat := by omega
              have X2 := Lib.hid (show b = nmF (p + 1) (s.data.toList.drop (p + 1)) by rw [h2, show ltrB s[p].toNat = true from decide_eq_true (by omega)]; rfl)
              clear g1 g2 h2 X hz hlF hl
              go_wp2_with fail
              go_round
              case rel => exact ⟨p + 1, by go_num, hp, X2.out⟩
              case measure => simp [intOf]; omega
            · have t45 : ((s[p].toNat : Int) != 45) = true := by simp; omega
              by_cases g3 : s[p].toNat < 48
              · have a1 : ¬ 97 ≤ s[p].toNat := by omega
                have X2 := Lib.hid (show b = false by rw [h2, show ltrB s[p].toNat = false from decide_eq_false (by omega)]; rfl)
                clear g1 g2 h2 X hz hlF hl
                go_wp2_with fail
                go_ret
                exact outb X2.out (Below.refl _ _)
              · by_cases g4 : 57 < s[p].toNat
                · by_cases a1 : 97 ≤ s[p].toNat
                  · have a2 : decide ((s[p].toNat : Int) ≤ 122) = false := decide_eq_false (by omega)
                    have X2 := Lib.hid (show b = false by rw [h2, show ltrB s[p].toNat = false from decide_eq_false (by omega)]; rfl)
                    clear g1 g2 h2 X hz hlF hl
                    go_wp2_with fail
                    go_ret
                    exact outb X2.out (Below.refl _ _)
                  · skip
                    have X2 := Lib.hid (show b = false by rw [h2, show ltrB s[p].toNat = false from decide_eq_false (by omega)]; rfl)
                    clear g1 g2 h2 X hz hlF hl
                    go_wp2_with fail
                    go_ret
                    exact outb X2.out (Below.refl _ _)
                · have a1 : ¬ 97 ≤ s[p].toNat := by omega
                  have X2 := Lib.hid (show b = nmF (p + 1) (s.data.toList.drop (p + 1)) by rw [h2, show ltrB s[p].toNat = true from decide_eq_true (by omega)]; rfl)
                  clear g1 g2 h2 X hz hlF hl
                  go_wp2_with fail
                  go_round
                  case rel => exact ⟨p + 1, by go_num, hp, X2.out⟩
                  case measure => simp [intOf]; omega
    · have X2 := Lib.hid (show b = true by rw [h2, at_end s p (by omega)]; rfl)
      clear h2 X
      go_wp2_with fail
      go_ret
      exact outb X2.out (Below.refl _ _)
end Go.Proofs.YtagkmfhicpcjnaaDoor.Names
/- Lists of flat things (numbers, texts, structs of one-cell fields) in memory, for every seat and every type: read, owned, appended to, written, opened out of an argument. -/
set_option linter.unusedVariables false
set_option maxRecDepth 100000
namespace Go.Proofs.YtagkmfhicpcjnaaDoor
open Go.RowKit

/-- How a thing lies in cells. -/
structure Flat (α : Type) where
  sz : Nat
  enc : α → List Value
  ok : α → Prop
  pos : 0 < sz
  len : ∀ a, (enc a).length = sz
  one : ∀ a v, v ∈ enc a → v.oneCell' = true

section
variable {α : Type} {F : Flat α}

theorem flat_len (l : List α) : (l.flatMap F.enc).length = l.length * F.sz := by
  induction l with
  | nil => simp
  | cons a l ih => rw [List.flatMap_cons, List.length_append, ih, F.len, List.length_cons, Nat.add_mul]; omega
theorem flat_one (l : List α) : ∀ v ∈ l.flatMap F.enc, v.oneCell' = true := by
  intro v hv
  obtain ⟨a, _, h⟩ := List.mem_flatMap.1 hv
  exact F.one a v h
theorem flat_get : ∀ (l : List α) (i : Nat) (hi : i < l.length) (j : Nat), j < F.sz → (l.flatMap F.enc)[i * F.sz + j]? = (F.enc l[i])[j]?
  | [], i, hi, _, _ => absurd hi (by simp)
  | a :: l, 0, _, j, hj => by
    rw [List.flatMap_cons, Nat.zero_mul, Nat.zero_add, List.getElem?_append_left (by rw [F.len]; exact hj)]; rfl
  | a :: l, i + 1, hi, j, hj => by
    have e : (i + 1) * F.sz + j = F.sz + (i * F.sz + j) := by rw [Nat.add_mul, Nat.one_mul]; omega
    rw [List.flatMap_cons, e, List.getElem?_append_right (by rw [F.len]; omega), F.len, Nat.add_sub_cancel_left, flat_get l i (by simpa using hi) j hj]; rfl
theorem flat_set : ∀ (l : List α) (i : Nat) (hi : i < l.length) (j : Nat) (u : Value) (a' : α), j < F.sz → F.enc a' = (F.enc l[i]).set j u → (l.flatMap F.enc).set (i * F.sz + j) u = (l.set i a').flatMap F.enc
  | [], i, hi, _, _, _, _, _ => absurd hi (by simp)
  | a :: l, 0, _, j, u, a', hj, he => by
    rw [List.flatMap_cons, Nat.zero_mul, Nat.zero_add, List.set_append_left _ _ (by rw [F.len]; exact hj), List.set_cons_zero, List.flatMap_cons, he]; rfl
  | a :: l, i + 1, hi, j, u, a', hj, he => by
    have e : (i + 1) * F.sz + j = F.sz + (i * F.sz + j) := by rw [Nat.add_mul, Nat.one_mul]; omega
    rw [List.flatMap_cons, e, List.set_append_right _ _ (by rw [F.len]; omega), F.len, Nat.add_sub_cancel_left, flat_set l i (by simpa using hi) j u a' hj he, List.set_cons_succ, List.flatMap_cons]

/-- The slice with this address reads as this list. -/
def FlAt (F : Flat α) (w : World) (B : Nat) (A : Option Addr) (l : List α) : Prop :=
  ∀ i (hi : i < l.length), ∃ b p, A = some ⟨b, p, none⟩ ∧ b < B ∧ (∀ (j : Nat) (u : Value), (F.enc l[i])[j]? = some u → w.cell? ⟨b, p + i * F.sz + j, none⟩ = some u) ∧ F.ok l[i]
theorem FlAt.below {w w' : World} {B : Nat} {A : Option Addr} {l : List α} (h : FlAt F w B A l) (hb : Below B w w') : FlAt F w' B A l := fun i hi => by
  obtain ⟨b, p, h1, h2, h3, h4⟩ := h i hi
  exact ⟨b, p, h1, h2, fun j u hu => (hb.cell (p := ⟨b, p + i * F.sz + j, none⟩) h2).trans (h3 j u hu), h4⟩
theorem FlAt.mono {w : World} {B B' : Nat} {A : Option Addr} {l : List α} (h : FlAt F w B A l) (hB : B ≤ B') : FlAt F w B' A l := fun i hi => by
  obtain ⟨b, p, h1, h2, h3⟩ := h i hi
  exact ⟨b, p, h1, by omega, h3⟩
theorem FlAt.next {w w' : World} {A : Option Addr} {l : List α} (h : FlAt F w w.heap.size A l) (hb : Below w.heap.size w w') : FlAt F w' w'.heap.size A l := (h.below hb).mono hb.size
theorem FlAt.nil (w : World) (B : Nat) (A : Option Addr) : FlAt F w B A [] := fun i h => absurd h (by simp)
theorem FlAt.none {w : World} {B : Nat} {A : Option Addr} {l : List α} (h : FlAt F w B A l) (hA : A = Option.none) : l = [] := by
  cases l with
  | nil => rfl
  | cons x r => obtain ⟨b, p, h1, _⟩ := h 0 (by simp); rw [hA] at h1; cases h1
theorem FlAt.ok {w : World} {B : Nat} {A : Option Addr} {l : List α} (h : FlAt F w B A l) : ∀ a ∈ l, F.ok a := fun a ha => by
  obtain ⟨i, hi, rfl⟩ := List.getElem_of_mem ha
  obtain ⟨_, _, _, _, _, h4⟩ := h i hi
  exact h4
theorem FlAt.drew {w : World} {B : Nat} {A : Option Addr} {l : List α} (h : FlAt F w B A l) (n : Nat) : FlAt F (w.drewN n) B A l := h.below (below_drewN (Below.refl _ _) n)
/-- All its cells, from the first on. -/
theorem FlAt.cells {w : World} {B : Nat} {b p : Nat} {l : List α} (h : FlAt F w B (some ⟨b, p, Option.none⟩) l) : ∀ (j : Nat) (u : Value), (l.flatMap F.enc)[j]? = some u → w.cell? ((⟨b, p, Option.none⟩ : Addr).add j) = some u := by
  intro j u hu
  have hj : j < l.length * F.sz := by rw [← flat_len (F := F)]; exact (List.getElem?_eq_some_iff.1 hu).1
  have hp := F.pos
  have hi : j / F.sz < l.length := Nat.div_lt_of_lt_mul (by rw [Nat.mul_comm]; exact hj)
  have hm : j % F.sz < F.sz := Nat.mod_lt _ hp
  have e : j / F.sz * F.sz + j % F.sz = j := by rw [Nat.mul_comm]; exact Nat.div_add_mod j F.sz
  obtain ⟨b', p', h1, _, h3, _⟩ := h (j / F.sz) hi
  simp only [Option.some.injEq, Addr.mk.injEq, and_true] at h1
  obtain ⟨rfl, rfl⟩ := h1
  have := h3 (j % F.sz) u (by rw [← flat_get l (j / F.sz) hi (j % F.sz) hm, e]; exact hu)
  rw [Nat.add_assoc, e] at this
  rw [add_off]
  exact this

/-- A row of the call's own. -/
def OwnF (F : Flat α) (T : TypeId) (w : World) (B : Nat) (v : Value) (l : List α) : Prop := w.ownsRow B T F.sz v l.length (l.flatMap F.enc) ∧ ∀ a ∈ l, F.ok a
variable {T : TypeId}
theorem OwnF.nil (w : World) (B : Nat) : OwnF F T w B (.slice none 0 0) [] := ⟨World.ownsRow_nil _ _ _ _, fun a h => by cases h⟩
theorem OwnF.below {w w' : World} {B : Nat} {v : Value} {l : List α} (h : OwnF F T w B v l) (hb : Below w.heap.size w w') : OwnF F T w' B v l := ⟨own_below h.1 hb, h.2⟩
theorem OwnF.alloc {w : World} {B : Nat} {v : Value} {l : List α} (h : OwnF F T w B v l) (o : Obj) : OwnF F T (w.alloc o) B v l := h.below (alloc_below _ _)
theorem OwnF.drew {w : World} {B : Nat} {v : Value} {l : List α} (h : OwnF F T w B v l) (n : Nat) : OwnF F T (w.drewN n) B v l := h.below (below_drewN (Below.refl _ _) n)
theorem OwnF.kept {w w' : World} {row : Option Nat} {B : Nat} {v : Value} {l : List α} (h : OwnF F T w B v l) (hg : w.grownBy w' row) (hne : v.ownBlock = none ∨ v.ownBlock ≠ row) : OwnF F T w' B v l := ⟨h.1.kept hg hne, h.2⟩
theorem OwnF.form {w : World} {B : Nat} {v : Value} {l : List α} (h : OwnF F T w B v l) : ∃ A c, v = .slice A l.length c ∧ (l = [] → A = none ∨ A ≠ none) := by
  rcases h.1.2 with ⟨h1, h2⟩ | ⟨g, cap, cur, h1, _⟩
  · exact ⟨none, 0, by rw [h1, h2], fun _ => Or.inl rfl⟩
  · exact ⟨_, _, h1, fun _ => Or.inr (by simp)⟩
theorem OwnF.lt {w : World} {B : Nat} {v : Value} {l : List α} (h : OwnF F T w B v l) : ∀ k, v.ownBlock = some k → B ≤ k ∧ k < w.heap.size := h.1.lt
theorem OwnF.down {w : World} {B B' : Nat} {v : Value} {l : List α} (h : OwnF F T w B v l) (hB : B' ≤ B) : OwnF F T w B' v l := by
  refine ⟨⟨h.1.1, ?_⟩, h.2⟩
  rcases h.1.2 with h1 | ⟨g, cap, cur, h1, h2, h3⟩
  · exact Or.inl h1
  · exact Or.inr ⟨g, cap, cur, h1, by omega, h3⟩
/-- A row that stands: it is not nil. -/
theorem OwnF.at {w : World} {B : Nat} {v : Value} {l : List α} (h : OwnF F T w B v l) (hl : l ≠ []) : ∃ g cap, v = .slice (some ⟨g, 0, none⟩) l.length cap ∧ B ≤ g ∧ g < w.heap.size := by
  rcases h.1.2 with ⟨h1, h2⟩ | ⟨g, cap, cur, h1, h2, h3, _⟩
  · exact absurd (List.eq_nil_of_length_eq_zero h2) hl
  · exact ⟨g, cap, h1, h2, (Array.getElem?_eq_some_iff.1 h3).1⟩
theorem OwnF.cell {w : World} {B g cap : Nat} {l : List α} (h : OwnF F T w B (.slice (some ⟨g, 0, none⟩) l.length cap) l) (i : Nat) (hi : i < l.length) (j : Nat) (hj : j < F.sz) : w.cell? ⟨g, i * F.sz + j, none⟩ = (F.enc l[i])[j]? := by
  rw [h.1.cellAt _ (by have : (i + 1) * F.sz ≤ l.length * F.sz := Nat.mul_le_mul_right _ hi; rw [Nat.add_mul] at this; omega), flat_get l i hi j hj]
theorem OwnF.fr {w : World} {B g cap : Nat} {l : List α} (h : OwnF F T w B (.slice (some ⟨g, 0, none⟩) l.length cap) l) (j : Nat) : w.frozen? ⟨g, j, none⟩ = false := h.1.frozenAt j
/-- One cell of one element is written. -/
theorem OwnF.put {w : World} {B g cap : Nat} {l : List α} (h : OwnF F T w B (.slice (some ⟨g, 0, none⟩) l.length cap) l) (i : Nat) (hi : i < l.length) (j : Nat) (hj : j < F.sz) (u : Value) (a' : α) (he : F.enc a' = (F.enc l[i]).set j u) (hok : F.ok a') :
    OwnF F T (w.setCell ⟨g, i * F.sz + j, none⟩ u) B (.slice (some ⟨g, 0, none⟩) l.length cap) (l.set i a') := by
  refine ⟨?_, fun a ha => ?_⟩
  · rw [List.length_set, ← flat_set l i hi j u a' hj he]
    exact (h.1.stored (i * F.sz + j) u).1
  · rcases List.mem_or_eq_of_mem_set ha with h1 | h1
    · exact h.2 a h1
    · rw [h1]; exact hok
theorem OwnF.read {w : World} {B : Nat} {v : Value} {l : List α} (h : OwnF F T w B v l) : ∃ A c, v = .slice A l.length c ∧ FlAt F w w.heap.size A l ∧ l.length ≤ c ∧ (A = none → c = 0) := by
  rcases h.1.2 with ⟨h1, h2⟩ | ⟨g, cap, cur, h1, h2, h3, h4, _⟩
  · obtain rfl := List.eq_nil_of_length_eq_zero h2
    exact ⟨none, 0, h1, FlAt.nil _ _ _, Nat.le_refl _, fun _ => rfl⟩
  · subst h1
    refine ⟨_, _, rfl, fun i hi => ⟨g, 0, rfl, (Array.getElem?_eq_some_iff.1 h3).1, fun j u hu => ?_, h.2 _ (List.getElem_mem _)⟩, h4, fun e => by cases e⟩
    have hj : j < F.sz := by rw [← F.len l[i]]; exact (List.getElem?_eq_some_iff.1 hu).1
    rw [Nat.zero_add, h.cell i hi j hj, hu]
/-- A literal. -/
theorem OwnF.lit (w : World) (B : Nat) (l : List α) (cs : Array Value) (hB : B ≤ w.heap.size) (hn : l.length ≤ maxLen) (hc : cs.toList = l.flatMap F.enc) (hok : ∀ a ∈ l, F.ok a) :
    OwnF F T (w.alloc (.cells cs T)) B (.slice (some ⟨w.heap.size, 0, none⟩) l.length l.length) l := by
  refine ⟨?_, hok⟩
  rw [← hc]
  exact World.ownsRow_lit w cs l.length hB hn (by rw [← Array.length_toList, hc, flat_len])
theorem FlAt.lit (w : World) (l : List α) (cs : Array Value) (T : TypeId) (hn : l.length ≤ maxLen) (hc : cs.toList = l.flatMap F.enc) (hok : ∀ a ∈ l, F.ok a) :
    FlAt F (w.alloc (.cells cs T)) (w.alloc (.cells cs T)).heap.size (some ⟨w.heap.size, 0, Option.none⟩) l := by
  obtain ⟨A, c, h1, h2, _⟩ := (OwnF.lit (F := F) (T := T) w 0 l cs (Nat.zero_le _) hn hc hok).read
  simp only [Value.slice.injEq] at h1
  obtain ⟨rfl, _, rfl⟩ := h1
  exact h2

/-- What a program says of a type of elements. -/
structure Elems (P : Program) (t T : TypeId) (sz : Nat) : Prop where
  ut : P.underlying t = some (.slice T)
  info : ∃ i z bytes, P.info? T = some i ∧ i.zero = some z ∧ i.size = sz ∧ i.bytes = bytes ∧ bytes ≤ 1000 ∧ z.cells.size = sz
theorem Elems.mk' {P : Program} {t T : TypeId} {z : Value} {n m : Nat} (ut : P.underlying t = some (.slice T)) (h : (P.info? T).map (fun i => (i.zero, i.size, i.bytes)) = some (some z, n, m)) (hm : m ≤ 1000) (hz : z.cells.size = n) : Elems P t T n := by
  obtain ⟨i, h1, h2, h3, h4⟩ := info_get h
  exact ⟨ut, i, z, m, h1, h2, h3, h4, hm, hz⟩
/-- A list is appended to a row of the call's own. -/
theorem OwnF.app {P : Program} {t : TypeId} (E : Elems P t T F.sz) {w : World} {B C : Nat} {v : Value} {A : Option Addr} {c : Nat} {a l : List α} (ty : TypeId) (hv : OwnF F T w B v a) (hx : FlAt F w C A l) (hn : a.length + l.length ≤ 100000000) (hB : B ≤ w.heap.size) :
    ∃ v' w', (Builtin.append_ #[t, t] ty #[v, .slice A l.length c]).run P w = .ok v' w' ∧ OwnF F T w' B v' (a ++ l) ∧ Below B w w' ∧ (v' = .slice none 0 0 → v = .slice none 0 0) ∧ w.grownBy w' v.ownBlock := by
  obtain ⟨i0, z, m, h1, h2, h3, h4, h5, h6⟩ := E.info
  have key : ∀ (ad : Addr), (∀ (j : Nat) (u : Value), (l.flatMap F.enc)[j]? = some u → w.cell? (ad.add j) = some u) →
      ∃ v' w', (Builtin.append_ #[t, t] ty #[v, .slice (some ad) l.length c]).run P w = .ok v' w' ∧ OwnF F T w' B v' (a ++ l) ∧ Below B w w' ∧ (v' = .slice none 0 0 → v = .slice none 0 0) ∧ w.grownBy w' v.ownBlock := by
    intro ad had
    obtain ⟨v', w', g1, g2, g3, g4⟩ := run_append_own (P := P) w B t ty T i0 z F.sz m E.ut h1 h2 h3 h4 h6 F.pos v _ _ hv.1 ad l.length c (l.flatMap F.enc) (flat_len l) had (flat_one l) (by unfold maxLen; omega)
      (Nat.le_trans (Nat.mul_le_mul hn h5) (by omega)) hB
    refine ⟨v', w', g1, ⟨by rw [List.length_append, List.flatMap_append]; exact g2, fun x hx' => ?_⟩, ⟨g3.os, g3.tape, g3.output, g3.size, fun k hk => g3.block k (by omega) fun e => ?_⟩, fun e => (g4.1 e).1, g3⟩
    · rcases List.mem_append.1 hx' with h | h
      · exact hv.2 x h
      · exact hx.ok x h
    · have := (hv.lt k e.symm).1; omega
  cases A with
  | none =>
    obtain rfl := hx.none rfl
    by_cases hc : c = 0
    · subst hc
      exact ⟨v, w, run_append_owned_none w B t ty T i0 F.sz E.ut h1 v _ _ hv.1, by rw [List.append_nil]; exact hv, Below.refl _ _, id, ⟨rfl, rfl, rfl, Nat.le_refl _, fun _ _ _ => rfl⟩⟩
    · refine ⟨v, w, ?_, by rw [List.append_nil]; exact hv, Below.refl _ _, id, ⟨rfl, rfl, rfl, Nat.le_refl _, fun _ _ _ => rfl⟩⟩
      rcases hv.1.2 with ⟨rfl, e⟩ | ⟨g, cap, cur, rfl, _, _, hnc, _⟩
      · simp [Builtin.append_, run_underlying E.ut, sizeOf, typeInfo, h1, Builtin.lenOf, Builtin.firstCells]
      · simp [Builtin.append_, run_underlying E.ut, sizeOf, typeInfo, h1, Builtin.lenOf, Builtin.firstCells, hnc, storeCells]
  | some ad =>
    cases l with
    | nil => exact key ad fun j u hu => by simp at hu
    | cons x r =>
      obtain ⟨b, p, e, _⟩ := hx 0 (by simp)
      simp only [Option.some.injEq] at e
      subst e
      exact key _ hx.cells
/-- One element more, out of a new block. -/
theorem OwnF.one {P : Program} {t : TypeId} (E : Elems P t T F.sz) {w : World} {B : Nat} {v : Value} {a : List α} (ty : TypeId) (x : α) (cs : Array Value) (hcs : cs.toList = F.enc x) (hok : F.ok x) (hv : OwnF F T w B v a) (hn : a.length ≤ 10000000) (hB : B ≤ w.heap.size) :
    ∃ v' w', (Builtin.append_ #[t, t] ty #[v, .slice (some ⟨w.heap.size, 0, none⟩) 1 1]).run P (w.alloc (.cells cs T)) = .ok v' w' ∧ OwnF F T w' B v' (a ++ [x]) ∧ Below B w w' := by
  obtain ⟨v', w', h1, h2, h3, _⟩ := (hv.alloc (.cells cs T)).app E (c := 1) ty (FlAt.lit (F := F) w [x] cs T (by unfold maxLen; simp) (by simp [hcs]) (by simpa using hok)) (by simp; omega) (Nat.le_trans hB (by simp))
  exact ⟨v', w', h1, h2, ((Below.refl B w).alloc hB _).trans h3⟩

/-- A list is handed back. -/
def OutF (F : Flat α) (w : World) (l : List α) (e : Ending) (w' : World) : Prop := ∃ A c, e = .returned (.slice A l.length c) ∧ FlAt F w' w'.heap.size A l ∧ l.length ≤ c ∧ (A = none → c = 0) ∧ Below w.heap.size w w'
theorem outF {w w' : World} {l k : List α} {A : Option Addr} {n c : Nat} (h : l = k) (hn : n = l.length) (ho : FlAt F w' w'.heap.size A k) (hc : n ≤ c) (hA : A = none → c = 0) (hb : Below w.heap.size w w') : OutF F w l (.returned (.slice A n c)) w' := by subst h hn; exact ⟨A, c, rfl, ho, hc, hA, hb⟩
theorem outF_own {w w' : World} {l k : List α} {v : Value} {B : Nat} (h : l = k) (ho : OwnF F T w' B v k) (hb : Below w.heap.size w w') : OutF F w l (.returned v) w' := by
  subst h
  obtain ⟨A, c, rfl, h, h2, h3⟩ := ho.read
  exact ⟨A, c, rfl, h, h2, h3, hb⟩
theorem outF_nil {w w' : World} {l : List α} (h : l = []) (hb : Below w.heap.size w w') : OutF F w l (.returned (.slice none 0 0)) w' := by subst h; exact ⟨none, 0, rfl, FlAt.nil _ _ _, Nat.le_refl _, fun _ => rfl, hb⟩

/-! An argument opened. -/
open Go.ChangeShapes Go.WideShapes
variable {H : Type} {en : TypeId × Value → H}
theorem flat_open {P : Program} {t : TypeId} (ut : P.underlying t = some (.slice T)) (hC : P.cellsOf T = F.sz) {W : World} {fuel : Nat} {sp : Nat → Bool} {hd : Bool}
    (hel : ∀ (q : Nat) (cs : List Value) x, cs.length = F.sz → DataW.trod en P W 0 sp hd q T cs = some x → ∃ a, cs = F.enc a ∧ F.ok a)
    {A : Option Addr} {n c : Nat} {x : DataW H × List MemPlace} (hf : DataW.trod en P W 0 sp hd fuel t [.slice A n c] = some x) :
    ∃ l, n = List.length l ∧ FlAt F W W.heap.size A l ∧ l.length ≤ 9223372036854775807 ∧ l.length ≤ c ∧ (A = none → c = 0) := by
  rcases Go.Deep.open_slice ut hf with ⟨hcs, hx⟩ | ⟨a, len, cap, m, k, D, Pl, hcs, _, hl, hm, hmm, hx, hi⟩
  · simp at hcs
    obtain ⟨rfl, rfl, rfl⟩ := hcs
    exact ⟨[], rfl, FlAt.nil _ _ _, by simp, by simp, fun _ => rfl⟩
  · simp at hcs
    obtain ⟨rfl, rfl, rfl⟩ := hcs
    have hle : n ≤ m := by rw [hmm]; split <;> omega
    rcases Nat.eq_zero_or_pos n with rfl | hn0
    · exact ⟨[], rfl, FlAt.nil _ _ _, by simp, by simp, fun e => by cases e⟩
    have hp := F.pos
    obtain ⟨b, o2, rfl⟩ : ∃ b o, a = ⟨b, o, none⟩ := by
      obtain ⟨cs, hcs, ht⟩ := hi 0 (by omega)
      rw [hC, Nat.zero_mul, add_none] at hcs
      have h00 := (World.cells?_some hcs).2.2 0 (by omega)
      rw [add_none, List.getElem?_eq_getElem (by rw [(World.cells?_some hcs).2.1]; omega)] at h00
      exact plain_of h00
    obtain ⟨l, hll, hp⟩ := list_of n (p := fun i (s : α) => b < W.heap.size ∧ (∀ (j : Nat) (u : Value), (F.enc s)[j]? = some u → W.cell? ⟨b, o2 + i * F.sz + j, none⟩ = some u) ∧ F.ok s)
      (fun i hin => by
        obtain ⟨cs, hcs, ht⟩ := hi i (by omega)
        rw [hC] at hcs
        obtain ⟨_, hlen, hat⟩ := World.cells?_some hcs
        obtain ⟨s, rfl, hok⟩ := hel _ cs _ hlen ht
        have hc : ∀ (j : Nat) (u : Value), (F.enc s)[j]? = some u → W.cell? ⟨b, o2 + i * F.sz + j, none⟩ = some u := fun j u hu => by
          have hj : j < F.sz := by rw [← hlen]; exact (List.getElem?_eq_some_iff.1 hu).1
          have := hat j (by omega)
          rw [add_off, add_off] at this
          rw [this, hu]
        refine ⟨s, ?_, hc, hok⟩
        have h0 : 0 < (F.enc s).length := by rw [hlen]; exact hp
        exact World.block_lt_of_cell? W _ (hc 0 _ (List.getElem?_eq_getElem h0)))
    exact ⟨l, hll.symm, fun i hi => ⟨b, o2, rfl, (hp i hi).1, (hp i hi).2.1, (hp i hi).2.2⟩, by unfold maxLen at hm; omega, by omega, fun e => by cases e⟩
end
theorem lit_i64 {n : Int} (h : (Lit.int .i64 n).wf = true) : I64 n := by
  unfold I64
  simpa [Lit.wf, IntKind.min, IntKind.max, IntKind.signed, IntKind.bits] using h
theorem i64_wf {n : Int} (h : I64 n) : (Lit.int .i64 n).wf = true := by
  unfold I64 at h
  simpa [Lit.wf, IntKind.min, IntKind.max, IntKind.signed, IntKind.bits] using h
theorem lit_u64 {n : Int} (h : (Lit.int .u64 n).wf = true) : 0 ≤ n ∧ n < 18446744073709551616 := by
  have : 0 ≤ n ∧ n ≤ 18446744073709551615 := by simpa [Lit.wf, IntKind.min, IntKind.max, IntKind.signed, IntKind.bits] using h
  omega
theorem u64_wf {n : Int} (h : 0 ≤ n ∧ n < 18446744073709551616) : (Lit.int .u64 n).wf = true := by
  have : 0 ≤ n ∧ n ≤ 18446744073709551615 := by omega
  simpa [Lit.wf, IntKind.min, IntKind.max, IntKind.signed, IntKind.bits] using this

theorem lit_u8 {n : Int} (h : (Lit.int .u8 n).wf = true) : 0 ≤ n ∧ n ≤ 255 := by simpa [Lit.wf, IntKind.min, IntKind.max, IntKind.signed, IntKind.bits] using h
/-- A list of ints. -/
def fI : Flat Int := ⟨1, fun n => [.int .i64 n], I64, by decide, fun _ => rfl, fun _ v h => by simp at h; subst h; rfl⟩
theorem fI_cell {w : World} {B : Nat} {A : Option Addr} {l : List Int} (h : FlAt fI w B A l) (i : Nat) (hi : i < l.length) : ∃ b p, A = some ⟨b, p, none⟩ ∧ b < B ∧ w.cell? ⟨b, p + i, none⟩ = some (.int .i64 l[i]) ∧ I64 l[i] := by
  obtain ⟨b, p, h1, h2, h3, h4⟩ := h i hi
  exact ⟨b, p, h1, h2, by have := h3 0 _ rfl; simpa [fI] using this, h4⟩
end Go.Proofs.YtagkmfhicpcjnaaDoor
/- Slices that are cut at both ends, and appended to though nothing is free behind them: for every seat and every flat type. -/
set_option linter.unusedVariables false
set_option maxRecDepth 100000
namespace Go.Proofs.YtagkmfhicpcjnaaDoor
open Go.RowKit

section
variable {α : Type} {F : Flat α}
theorem flS_take {w : World} {B : Nat} {A : Option Addr} {l : List α} (h : FlAt F w B A l) (k : Nat) : FlAt F w B A (l.take k) := fun i hi => by
  have hi' : i < l.length := by rw [List.length_take] at hi; omega
  obtain ⟨b, p, h1, h2, h3, h4⟩ := h i hi'
  have e : (l.take k)[i] = l[i] := List.getElem_take
  exact ⟨b, p, h1, h2, fun j u hu => h3 j u (by rw [← e]; exact hu), by rw [e]; exact h4⟩
theorem flS_drop {w : World} {B b p : Nat} {l : List α} (h : FlAt F w B (some ⟨b, p, none⟩) l) (k : Nat) : FlAt F w B (some ⟨b, p + k * F.sz, none⟩) (l.drop k) := fun i hi => by
  have hi' : k + i < l.length := by rw [List.length_drop] at hi; omega
  obtain ⟨b', p', h1, h2, h3, h4⟩ := h (k + i) hi'
  simp only [Option.some.injEq, Addr.mk.injEq, and_true] at h1
  obtain ⟨rfl, rfl⟩ := h1
  have e : (l.drop k)[i] = l[k + i] := List.getElem_drop
  refine ⟨b, p + k * F.sz, rfl, h2, fun j u hu => ?_, by rw [e]; exact h4⟩
  have := h3 j u (by rw [← e]; exact hu)
  rw [Nat.add_mul, ← Nat.add_assoc] at this
  exact this
/-- A slice as its three words read: the elements, a capacity that holds them. -/
def SlS (F : Flat α) (w : World) (A : Option Addr) (c : Nat) (l : List α) : Prop := FlAt F w w.heap.size A l ∧ l.length ≤ c ∧ (A = none → c = 0)
theorem SlS.next {w w' : World} {A : Option Addr} {c : Nat} {l : List α} (h : SlS F w A c l) (hb : Below w.heap.size w w') : SlS F w' A c l := ⟨h.1.next hb, h.2.1, h.2.2⟩
theorem SlS.nil (w : World) : SlS F w none 0 [] := ⟨FlAt.nil _ _ _, Nat.le_refl _, fun _ => rfl⟩
theorem OwnF.slS {T : TypeId} {w : World} {B : Nat} {v : Value} {l : List α} (h : OwnF F T w B v l) : ∃ A c, v = .slice A l.length c ∧ SlS F w A c l := by
  obtain ⟨A, c, e, h1, h2, h3⟩ := h.read
  exact ⟨A, c, e, h1, h2, h3⟩
/-- 's[:k:k]', 's[k:]'. -/
theorem SlS.cut {P : Program} {t : TypeId} {w : World} {A : Option Addr} {c : Nat} {l : List α} (h : SlS F w A c l) (ut : P.underlying t = some (.slice (P.elem t))) (sz : ∀ W : World, (sizeOf (P.elem t)).run P W = .ok F.sz W) (k : Nat) (hk : k ≤ l.length) :
    ∃ A1, (∀ W : World, (Instr.sliceAt t (.slice A l.length c) none (some (.int .i64 (k : Int))) (some (.int .i64 (k : Int)))).run P W = .ok (.slice A1 k k) W) ∧ SlS F w A1 k (l.take k) := by
  have hkc : k ≤ c := Nat.le_trans hk h.2.1
  have e1 : ∀ W : World, (Instr.sliceAt t (.slice A l.length c) none (some (.int .i64 (k : Int))) (some (.int .i64 (k : Int)))).run P W = .ok (sliced A 0 k k F.sz) W := fun W => by
    rw [run_sliceAt_slice W _ _ _ _ _ ut, run_slice_hm W _ A l.length c ut .i64 .i64 k k (by omega) (by omega) (by omega), sz]
    rfl
  have hl : (l.take k).length ≤ k := by rw [List.length_take]; omega
  cases A with
  | none =>
    obtain rfl := h.1.none rfl
    refine ⟨none, fun W => (e1 W).trans ?_, by simpa using h.1, hl, fun _ => by simpa using hk⟩
    unfold sliced; simp
  | some ad =>
    by_cases hM : l = []
    · subst hM
      obtain rfl : k = 0 := by simpa using hk
      refine ⟨some ad, fun W => (e1 W).trans ?_, FlAt.nil _ _ _, by simp, fun e => by cases e⟩
      unfold sliced
      simp
    · obtain ⟨b, p, e3, _⟩ := h.1 0 (List.length_pos_iff.2 hM)
      simp only [Option.some.injEq] at e3
      subst e3
      have hadd : ∀ j, (⟨b, p, none⟩ : Addr).add j = ⟨b, p + j, none⟩ := fun j => by unfold Addr.add; split <;> simp_all
      refine ⟨some ⟨b, p, none⟩, fun W => (e1 W).trans ?_, flS_take h.1 k, hl, fun e => by cases e⟩
      unfold sliced
      simp [hadd]
theorem SlS.rest2 {P : Program} {t : TypeId} {w : World} {A : Option Addr} {c : Nat} {l : List α} (h : SlS F w A c l) (ut : P.underlying t = some (.slice (P.elem t))) (sz : ∀ W : World, (sizeOf (P.elem t)).run P W = .ok F.sz W) (k : Nat) (hk : k ≤ l.length) :
    ∃ A1, (∀ W : World, (Instr.sliceAt t (.slice A l.length c) (some (.int .i64 (k : Int))) none none).run P W = .ok (.slice A1 (l.length - k) (c - k)) W) ∧ SlS F w A1 (c - k) (l.drop k) ∧ (l ≠ [] → ∀ b p, A1 = some ⟨b, p, none⟩ → ∃ p', A = some ⟨b, p', none⟩) := by
  have hkc : k ≤ c := Nat.le_trans hk h.2.1
  have e1 : ∀ W : World, (Instr.sliceAt t (.slice A l.length c) (some (.int .i64 (k : Int))) none none).run P W = .ok (sliced A k l.length c F.sz) W := fun W => by
    rw [run_sliceAt_slice W _ _ _ _ _ ut, run_slice_l W _ A l.length c ut .i64 k (by omega) (by omega), sz]
    rfl
  have hl : (l.drop k).length ≤ c - k := by have := h.2.1; rw [List.length_drop]; omega
  cases A with
  | none =>
    obtain rfl := h.1.none rfl
    refine ⟨none, fun W => (e1 W).trans ?_, ⟨by simpa using h.1, hl, fun _ => by have := h.2.2 rfl; omega⟩, fun q => absurd rfl q⟩
    unfold sliced; simp
  | some ad =>
    by_cases hM : l = []
    · subst hM
      obtain rfl : k = 0 := by simpa using hk
      refine ⟨if c = 0 then some ad else some (ad.add 0), fun W => (e1 W).trans ?_, ⟨FlAt.nil _ _ _, by simp, fun e => by split at e <;> cases e⟩, fun q => absurd rfl q⟩
      unfold sliced
      simp
    · obtain ⟨b, p, e3, _⟩ := h.1 0 (List.length_pos_iff.2 hM)
      simp only [Option.some.injEq] at e3
      subst e3
      have hadd : ∀ j, (⟨b, p, none⟩ : Addr).add j = ⟨b, p + j, none⟩ := fun j => by unfold Addr.add; split <;> simp_all
      refine ⟨if c = k then some ⟨b, p, none⟩ else some ⟨b, p + k * F.sz, none⟩, fun W => (e1 W).trans ?_, ⟨?_, hl, fun e => by split at e <;> cases e⟩, fun _ b' p' e => ?_⟩
      · unfold sliced
        simp [hadd]
      · by_cases hc : c = k
        · rw [if_pos hc, List.drop_of_length_le (by have := h.2.1; omega)]
          exact FlAt.nil _ _ _
        · rw [if_neg hc]
          exact flS_drop h.1 k
      · split at e
        · simp only [Option.some.injEq, Addr.mk.injEq, and_true] at e
          exact ⟨p, by rw [e.1]⟩
        · simp only [Option.some.injEq, Addr.mk.injEq, and_true] at e
          exact ⟨p, by rw [e.1]⟩
theorem SlS.rest {P : Program} {t : TypeId} {w : World} {A : Option Addr} {c : Nat} {l : List α} (h : SlS F w A c l) (ut : P.underlying t = some (.slice (P.elem t))) (sz : ∀ W : World, (sizeOf (P.elem t)).run P W = .ok F.sz W) (k : Nat) (hk : k ≤ l.length) :
    ∃ A1, (∀ W : World, (Instr.sliceAt t (.slice A l.length c) (some (.int .i64 (k : Int))) none none).run P W = .ok (.slice A1 (l.length - k) (c - k)) W) ∧ SlS F w A1 (c - k) (l.drop k) := by
  obtain ⟨A1, h1, h2, _⟩ := h.rest2 ut sz k hk
  exact ⟨A1, h1, h2⟩
/-- Something is appended to a slice that has no room: a row of the call's own. -/
theorem SlS.grow {P : Program} {t T : TypeId} (E : Elems P t T F.sz) {w : World} {C : Nat} {A A2 : Option Addr} {n c : Nat} {a l : List α} (ty : TypeId) (h : SlS F w A a.length a) (hx : FlAt F w C A2 l) (hl : l ≠ []) (hn : a.length + l.length ≤ 100000000) :
    ∃ v' w', (Builtin.append_ #[t, t] ty #[.slice A a.length a.length, .slice A2 l.length c]).run P w = .ok v' w' ∧ OwnF F T w' w.heap.size v' (a ++ l) ∧ Below w.heap.size w w' := by
  cases A with
  | none =>
    obtain rfl := h.1.none rfl
    obtain ⟨v', w', h1, h2, h3, _⟩ := (OwnF.nil (F := F) (T := T) w w.heap.size).app E (c := c) ty hx hn (Nat.le_refl _)
    exact ⟨v', w', h1, h2, h3⟩
  | some ad =>
    obtain ⟨i0, z, m, h1, h2, h3, h4, h5, h6⟩ := E.info
    have h0 : 0 < l.length := List.length_pos_iff.2 hl
    obtain ⟨b2, p2, e2, _⟩ := hx 0 h0
    subst e2
    have holds : ∀ j u, (a.flatMap F.enc)[j]? = some u → w.cell? (ad.add j) = some u := by
      by_cases ha : a = []
      · subst ha
        intro j u hu
        simp at hu
      · obtain ⟨b, p, e, _⟩ := h.1 0 (List.length_pos_iff.2 ha)
        simp only [Option.some.injEq] at e
        subst e
        exact h.1.cells
    have hr := run_append_grow (P := P) w t ty T i0 z E.ut h1 h2 ad a.length a.length (a.flatMap F.enc) (by rw [h3]; exact flat_len a) holds ⟨b2, p2, none⟩ l.length c (l.flatMap F.enc) (by rw [h3]; exact flat_len l) hx.cells (by omega) (by omega)
      (growslice_fits (by omega) (by rw [h4]; exact Nat.le_trans (Nat.mul_le_mul hn h5) (by omega)))
    have hge := grownCap_ge w (a.length + l.length) a.length T
    have hcm := grownCap_le_maxLen w (a.length + l.length) a.length T (by unfold maxLen; omega)
    have hlen : (a.flatMap F.enc ++ l.flatMap F.enc).length = (a.length + l.length) * F.sz := by rw [List.length_append, flat_len, flat_len, Nat.add_mul]
    refine ⟨_, _, hr, ⟨⟨by rw [flat_len], .inr ⟨w.heap.size, _, _, by rw [List.length_append], Nat.le_refl _, heap_alloc_new w.drew _, by rw [List.length_append]; exact hge, hcm, ?_, ?_⟩⟩, fun x hx' => ?_⟩, ⟨rfl, rfl, rfl, by simp, fun k hk => heap_alloc_old w.drew _ hk⟩⟩
    · simp only [Array.size_append, List.size_toArray, size_zeroCells, h6, flat_len, ← Nat.add_mul]
      congr 1
      omega
    · simp only [Array.toList_append, List.append_assoc]
      rw [← List.append_assoc, List.length_append, ← hlen, List.flatMap_append]
      exact List.take_left
    · rcases List.mem_append.1 hx' with h' | h'
      · exact h.1.ok x h'
      · exact hx.ok x h'
/-- The same where perhaps nothing is appended: then it is the slice itself. -/
theorem SlS.more {P : Program} {t T : TypeId} (E : Elems P t T F.sz) {w : World} {C : Nat} {A A2 : Option Addr} {c : Nat} {a l : List α} (ty : TypeId) (h : SlS F w A a.length a) (hx : FlAt F w C A2 l) (hn : a.length + l.length ≤ 100000000) :
    ∃ A' c' w', (Builtin.append_ #[t, t] ty #[.slice A a.length a.length, .slice A2 l.length c]).run P w = .ok (.slice A' (a.length + l.length) c') w' ∧ SlS F w' A' c' (a ++ l) ∧ Below w.heap.size w w' := by
  by_cases hl : l = []
  · subst hl
    obtain ⟨i0, z, m, h1, h2, h3, h4, h5, h6⟩ := E.info
    refine ⟨A, a.length, w, ?_, by rw [List.append_nil]; exact h, Below.refl _ _⟩
    cases A <;> cases A2 <;> simp [Builtin.append_, run_underlying E.ut, sizeOf, typeInfo, h1, Builtin.lenOf, Builtin.firstCells, loadCells, loadCellsFrom, storeCells]
  · obtain ⟨v', w', h1, h2, h3⟩ := h.grow E (n := 0) (c := c) ty hx hl hn
    obtain ⟨A', c', rfl, h4⟩ := h2.slS
    rw [List.length_append] at h1
    exact ⟨A', c', w', h1, h4, h3⟩
end
end Go.Proofs.YtagkmfhicpcjnaaDoor
/- Contracts in grown form, for regions that draw (go_quiet_grown). -/
set_option linter.unusedVariables false
set_option maxRecDepth 100000
namespace Go.Proofs.YtagkmfhicpcjnaaDoor
open Go.RowKit

theorem mixedB : Tryd.prog.follows .mixedOrders = true := by kernel_rfl
/-- A value is handed back; memory has grown, and orders have been drawn. -/
def OutG (w : World) (v : Value) (e : Ending) (w' : World) : Prop := e = .returned v ∧ ∃ q os, w' = Go.Sort.grow (w.drewN q) os
theorem grown_below (w : World) (q : Nat) (os : Array Obj) : Below w.heap.size w (Go.Sort.grow (w.drewN q) os) := by
  refine ⟨rfl, rfl, rfl, ?_, fun k hk => ?_⟩
  · rw [Go.Sort.size_grow]; exact Nat.le_add_right _ _
  · unfold Go.Sort.grow
    show (w.heap ++ os)[k]? = _
    rw [Array.getElem?_append_left hk]
theorem outG_I {w : World} {n : Int} {e : Ending} {w' : World} (h : OutG w (.int .i64 n) e w') : OutI w n e w' := by
  obtain ⟨rfl, q, os, rfl⟩ := h
  exact ⟨rfl, grown_below _ _ _⟩
theorem outG_alloc {w : World} (o : Obj) {a b : Value} (h : a = b) : OutG w b (.returned a) (w.alloc o) := ⟨by rw [h], 0, #[o], by rw [Go.Sort.alloc_eq_grow]; rfl⟩
/-- From a world that has grown. -/
theorem outG_on {w W : World} {q : Nat} {os : Array Obj} {v : Value} {e : Ending} {w' : World} (hW : W = Go.Sort.grow (w.drewN q) os) (h : OutG W v e w') : OutG w v e w' := by
  obtain ⟨rfl, q', os', rfl⟩ := h
  subst hW
  exact ⟨rfl, q + q', os ++ os', by
    rw [show (Go.Sort.grow (w.drewN q) os).drewN q' = Go.Sort.grow ((w.drewN q).drewN q') os from rfl, World.drewN_drewN, Go.Sort.grow_grow]⟩
theorem outG_same {w W : World} {q : Nat} {os : Array Obj} {v : Value} {a : Value} (hW : W = Go.Sort.grow (w.drewN q) os) (h : a = v) : OutG w v (.returned a) W := ⟨by rw [h], q, os, hW⟩
theorem grown_alloc (w : World) (o : Obj) : w.alloc o = Go.Sort.grow (w.drewN 0) #[o] := by rw [Go.Sort.alloc_eq_grow]; rfl
theorem grown_more {w : World} {q q' : Nat} {os os' : Array Obj} : Go.Sort.grow ((Go.Sort.grow (w.drewN q) os).drewN q') os' = Go.Sort.grow (w.drewN (q + q')) (os ++ os') := by
  rw [show (Go.Sort.grow (w.drewN q) os).drewN q' = Go.Sort.grow ((w.drewN q).drewN q') os from rfl, World.drewN_drewN, Go.Sort.grow_grow]
/-- Callees met in a region that draws. -/
theorem grown_same {f : FuncId} {args : Array Value} {w : World} {n : Nat} {os : Array Obj} {v : Value}
    (h : Calls Tryd.prog f args (Go.Sort.grow (w.drewN n) os) fun e w' => e = .returned v ∧ Go.Sort.grow (w.drewN n) os = w') : Calls Tryd.prog f args (Go.Sort.grow (w.drewN n) os) fun e w'' => e = .returned v ∧ ∃ p : GrownBy, w'' = Go.Sort.grow (w.drewN p.n) p.os :=
  h.mono fun _ _ ⟨he, hm⟩ => ⟨he, ⟨n, os⟩, hm.symm⟩
theorem grown_out {f : FuncId} {args : Array Value} {w : World} {n : Nat} {os : Array Obj} {v : Value}
    (h : Calls Tryd.prog f args (Go.Sort.grow (w.drewN n) os) (OutG (Go.Sort.grow (w.drewN n) os) v)) : Calls Tryd.prog f args (Go.Sort.grow (w.drewN n) os) fun e w'' => e = .returned v ∧ ∃ p : GrownBy, w'' = Go.Sort.grow (w.drewN p.n) p.os :=
  Calls.grown_of h
/-- A box that was made first. -/
theorem box_grown {w W : World} {cs : Array Value} {T : TypeId} {q : Nat} {os : Array Obj} (hW : W = Go.Sort.grow ((w.alloc (.cells cs T)).drewN q) os) (j : Nat) {v : Value} (h : cs[j]? = some v) (n : Nat) (os' : Array Obj) : (Go.Sort.grow (W.drewN n) os').cell? ⟨w.heap.size, j, none⟩ = some v := by
  subst hW
  refine cell_grown (by rw [Go.Sort.size_grow]; show w.heap.size < (w.alloc _).heap.size + _; simp; omega) ?_ n os'
  exact box_at (grown_below _ _ _) j h
end Go.Proofs.YtagkmfhicpcjnaaDoor
/- The lexical walk of a region that draws, held fast: for guards that come out false (operations that are not wanted): no tactic reckons the walk. For every seat. -/
set_option linter.unusedVariables false
set_option maxRecDepth 100000
namespace Go.Proofs.YtagkmfhicpcjnaaDoor
open Go.RowKit

structure QH (P : Program) (ops : Array Oper) (C : World → Prop) (Q : Act → Prop) (l : List Oper) (a : Act) : Prop where
  out : wpQuiet P ops C Q l a
section
variable {P : Program} {ops : Array Oper} {C : World → Prop} {Q : Act → Prop} {a : Act} {o : Oper} {rest : List Oper}
theorem qh_skip (hw : Region.wanted o (yielded ops a.tmps) = false) (h : QH P ops C Q rest (a.put o.dst undef)) : QH P ops C Q (o :: rest) a :=
  ⟨wpQuiet_step fun K hK => by rw [if_neg (by rw [hw]; exact Bool.false_ne_true)]; exact hK _ h.out⟩
theorem qh_step (h : ∀ K : Act → Prop, (∀ a, QH P ops C Q rest a → K a) → if Region.wanted o (yielded ops a.tmps) then o.quiet P a C K else K (a.put o.dst undef)) : QH P ops C Q (o :: rest) a :=
  ⟨wpQuiet_step fun K hK => h K fun a ha => hK a ha.out⟩
theorem qh_nil (h : Q a) : QH P ops C Q [] a := ⟨h⟩
end
end Go.Proofs.YtagkmfhicpcjnaaDoor
