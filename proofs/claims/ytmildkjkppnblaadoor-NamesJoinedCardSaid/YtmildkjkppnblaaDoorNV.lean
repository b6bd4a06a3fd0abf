/- The contract of Quote of names. -/
import Derived.Test.YtmildkjkppnblaaDoorNU
set_option linter.unusedVariables false
namespace Go.Proofs.YtmildkjkppnblaaDoor
open Go.RowKit

/-- The two tables of the library that the decoder reads lie as they were laid. -/
def Tabs (w : World) : Prop := Lib.Utf8Tabs 0 1 w
theorem Tabs.below {w w' : World} (h : Tabs w) (hb : Below w.heap.size w w') : Tabs w' := Utf8Tabs_below h hb

/-- An iterator over s, one block above B, stands at pos; the row v of the call's own holds these bytes. -/
structure QR (B : Nat) (w : World) (s : ByteArray) (pos : Nat) (v : Value) (acc : List UInt8) (wr : World) : Prop where
  it : wr.heap[B + 1]? = some (.stringIter s pos)
  ow : OwnB wr B v acc
  be : Below B w wr
theorem QR.lt {B : Nat} {w : World} {s : ByteArray} {pos : Nat} {v : Value} {acc : List UInt8} {wr : World} (h : QR B w s pos v acc wr) : B + 1 < wr.heap.size := (Array.getElem?_eq_some_iff.1 h.it).1
theorem QR.next {B : Nat} {w : World} {s : ByteArray} {pos : Nat} {v : Value} {acc : List UInt8} {wr : World} (h : QR B w s pos v acc wr) (p : Nat) : QR B w s p v acc (wr.iterAt (B + 1) s p) := by
  refine ⟨Lib.iterAt_heap wr (B + 1) s pos p h.it, ?_, Lib.below_iterAt h.be (by omega) s p⟩
  obtain ⟨h1, h2⟩ := h.ow
  refine ⟨h1, ?_⟩
  rcases h2 with h2 | ⟨g, cap, cur, a, b, c, d⟩
  · exact .inl h2
  · refine .inr ⟨g, cap, cur, a, b, ?_, d⟩
    rw [Lib.iterAt_other _ _ _ _ _ (fun e => by rw [e, h.it] at c; cases c)]
    exact c
theorem QR.call {B : Nat} {w : World} {s : ByteArray} {pos : Nat} {v : Value} {acc : List UInt8} {wr w2 : World} (h : QR B w s pos v acc wr) (hb : Below wr.heap.size wr w2) : QR B w s pos v acc w2 :=
  ⟨by rw [hb.block (B + 1) h.lt]; exact h.it, ownsRow_below h.ow hb, h.be.trans (hb.mono (by have := h.lt; omega))⟩
theorem QR.row {B : Nat} {w : World} {s : ByteArray} {pos : Nat} {v v' : Value} {acc acc' : List UInt8} {wr w2 : World} (h : QR B w s pos v acc wr) (ho : OwnB w2 B v' acc') (hb : Below B wr w2) (hi : Iters wr w2) : QR B w s pos v' acc' w2 :=
  ⟨hi _ _ _ h.it, ho, h.be.trans hb⟩
theorem QR.app {B : Nat} {w : World} {s : ByteArray} {pos : Nat} {v v' : Value} {acc news : List UInt8} {wr w3 : World} {o : Obj} (h : QR B w s pos v acc wr)
    (hown : w3.ownsRow B 5 1 v' (acc.length + news.length) (u8s acc ++ u8s news)) (hg : (wr.alloc o).grownBy w3 v.ownBlock) : QR B w s pos v' (acc ++ news) w3 :=
  ⟨iters_app h.ow hg _ _ _ h.it, ownB_app hown, (h.be.alloc (by have := h.lt; omega) _).grown hg (by have := h.lt; simp; omega) (fun k e => (h.ow.lt k e).1)⟩

theorem qb_split (l : List UInt8) (k : Nat) (h : ∀ c ∈ l.take k, fm c = hx2 c) : qb l = hxs (l.take k) ++ qb (l.drop k) := by
  have e : hxs (l.take k) = qb (l.take k) := by
    generalize l.take k = m at *
    induction m with
    | nil => rfl
    | cons c m ih => rw [hxs_cons, qb_cons, ih (fun d hd => h d (List.mem_cons_of_mem _ hd)), h c List.mem_cons_self]
  rw [e, ← qb_append, List.take_append_drop]
theorem ext_mid (s : ByteArray) (p k : Nat) : (s.extract p (p + k)).data.toList = (s.data.toList.drop p).take k := by
  simp [List.extract]

set_option maxRecDepth 100000 in
set_option maxHeartbeats 4000000 in
theorem quote_any (s : ByteArray) (w : World) (hs : s.size ≤ 100000) (hT : Tabs w) :
    Calls Tryd.prog 7 #[.string s] w (OutS w (bs (quo s.data.toList))) := by
  obtain ⟨i0, hi, hz0, hz1, hz2⟩ := info_parts info_u8
  have O1 := Lib.hid (own_one w 34)
  have T := Lib.hid hT
  clear hT
  go_enter Tryd.func7, Tryd.ntmps7
  go_wp2_with fail
  go_loopw [3] (fun v wr => ∃ (pos : Nat) (acc : List UInt8), pos ≤ s.size ∧ acc.length ≤ 1 + 4 * pos ∧ quo s.data.toList = acc ++ (qb (s.data.toList.drop pos) ++ [34]) ∧ QR w.heap.size w s pos v acc wr) (fun _ wr => s.size - wr.iterPos (w.heap.size + 1))
  case atStart =>
    refine ⟨0, [34], Nat.zero_le _, by simp, rfl, ?_, ?_, ?_⟩
    · have := World.iter_heap (w.alloc (Obj.cells #[.int .u8 34] 5)) s 0
      simpa using this
    · exact World.ownsRow.alloc O1.out _
    · exact ((Below.refl _ _).alloc (Nat.le_refl _) _).alloc (by simp) _
  case round =>
    obtain ⟨pos, acc, h1, h2, h3, hr⟩ := hrel
    have hpos := iterPos_of hr.it
    have TR := Lib.hid (T.out.below hr.be)
    by_cases hp : pos < s.size
    · have hnx : ∀ ty, (Instr.next (.pointer (some ⟨w.heap.size + 1, 0, none⟩)) true ty).run Tryd.prog wr = _ := fun ty => Lib.run_next_any_at wr (w.heap.size + 1) s pos ty hr.it hp
      have hr2 := hr.next (pos + (Utf8.decode s pos).2)
      have hd1 := decode_le s pos
      have hc := (s[pos]).toNat_lt
      have hdec : (Utf8.decode s pos).1 < 128 ∧ s[pos].toNat = (Utf8.decode s pos).1 ∧ (Utf8.decode s pos).2 = 1 ∨ 128 ≤ (Utf8.decode s pos).1 ∧ ¬ s[pos].toNat < 128 := by
        by_cases ha : s[pos].toNat < 128
        · rw [decode_ascii s pos hp ha]; exact Or.inl ⟨ha, rfl, rfl⟩
        · exact Or.inr ⟨(decode_high s pos hp (by omega)).1, ha⟩
      have hfit : pos + (Utf8.decode s pos).2 ≤ s.size ∧ 1 ≤ (Utf8.decode s pos).2 ∧ ((¬ plB (Utf8.decode s pos).1 ∧ ¬ ((Utf8.decode s pos).1 = 34 ∨ (Utf8.decode s pos).1 = 92)) → ∀ c ∈ (s.data.toList.drop pos).take (Utf8.decode s pos).2, fm c = hx2 c) := by
        by_cases ha : s[pos].toNat < 128
        · rw [decode_ascii s pos hp ha]
          refine ⟨hp, Nat.le_refl _, fun hn c hc => ?_⟩
          rw [at_drop s pos hp] at hc
          have hcs : c = s[pos] := by simpa using hc
          subst hcs
          exact fm_hex _ hn.2 (by
            have h1 := hn.1
            have : ¬ (32 ≤ s[pos].toNat ∧ s[pos].toNat ≤ 126 ∧ s[pos].toNat ≠ 34 ∧ s[pos].toNat ≠ 92) := fun h => h1 (decide_eq_true h)
            omega)
        · have e := decode_fits s pos hp (by omega)
          refine ⟨e.1, (decode_high s pos hp (by omega)).2, fun _ c hc => ?_⟩
          obtain ⟨j, hj, e2⟩ := List.mem_iff_getElem.1 hc
          rw [List.length_take, List.length_drop, toNat_bytes] at hj
          have hj2 : pos + j < s.size := by omega
          have e3 : c = s[pos + j] := by
            rw [← e2, List.getElem_take, List.getElem_drop]; rfl
          have h128 := e.2 j hj2 (by omega)
          rw [e3]
          exact fm_hex _ (by omega) (by omega)
      have hgo : Lib.decodeGo (s.extract pos s.size) = Utf8.decode s pos := by
        unfold Lib.decodeGo
        rw [if_neg (by simp; omega), Lib.tail_decode]; rfl
      obtain ⟨W1, hW1⟩ : ∃ W1, W1 = wr.iterAt (w.heap.size + 1) s (pos + (Utf8.decode s pos).2) := ⟨_, rfl⟩
      rw [← hW1] at hnx hr2
      have TW := Lib.hid (T.out.below hr2.be)
      have DG := Lib.hid (Tryd.utf8_DecodeRuneInString (s.extract pos s.size) W1 TW.out)
      rw [hgo] at DG
      have R2 := Lib.hid hr2
      have hm2 := iterPos_of hr2.it
      have hown := hr2.ow
      have hBlt := hr2.lt
      have H3 := Lib.hid h3
      generalize (Utf8.decode s pos).1 = cc at *
      generalize (Utf8.decode s pos).2 = kk at *
      obtain ⟨g1, g2, g3⟩ := hfit
      have G3 := Lib.hid g3
      have PA := Lib.hid (plain_any cc W1)
      clear h3 hr hr2 hW1 g3 hgo
      by_cases hpl : plB cc = true
      · have hpl2 := of_decide_eq_true hpl
        rw [hpl] at PA
        have hcc : s[pos].toNat = cc ∧ kk = 1 := by
          rcases hdec with h | h
          · exact h.2
          · omega
        obtain ⟨hc1, rfl⟩ := hcc
        have E := Lib.hid (show quo s.data.toList = (acc ++ [s[pos]]) ++ (qb (s.data.toList.drop (pos + 1)) ++ [34]) by
          rw [H3.out, at_drop s pos hp, qb_cons, fm_id _ (by omega) (by omega)]; simp)
        clear hdec hpl hpl2 hc1
        go_wp2_with fail
        refine PA.out.mono ?_
        rintro e w2 ⟨rfl, rfl⟩
        go_wp2_with (at_builtin; refine wpList_append_own _ rfl (.tmp 33) (.tmp 37) 33 rfl w.heap.size 5 i0 (.int .u8 0) 1 1 Tryd.underlying33 hi hz0 hz1 hz2 rfl (by decide) _ _ _ rfl (hown.alloc _) ⟨W1.heap.size, 0, none⟩ 1 1 [.int .u8 (s[pos].toNat : Int)] rfl rfl (one_cell _ _ _) ?c2 ?c3 ?c4 ?c5 ?_)
        case c2 => intro u hu; simp at hu; subst hu; rfl
        case c3 => unfold maxLen; omega
        case c4 => omega
        case c5 => simp; omega
        intro v' w3 hown' hgrow _
        have R3 := Lib.hid (R2.out.app (news := [s[pos]]) hown' hgrow)
        clear hown' hgrow hown
        go_wp2_with fail
        go_roundw
        case rel => exact ⟨pos + 1, acc ++ [s[pos]], g1, by rw [snoc_len]; omega, E.out, R3.out⟩
        case measure => rw [iterPos_of R3.out.it, hpos]; omega
      · have hpf : plB cc = false := by simpa using hpl
        rw [hpf] at PA
        by_cases hsl : cc = 34 ∨ cc = 92
        · have SL := Lib.hid (slash_yes cc W1 hsl)
          have hcc : s[pos].toNat = cc ∧ kk = 1 := by
            rcases hdec with h | h
            · exact h.2
            · omega
          obtain ⟨hc1, rfl⟩ := hcc
          have E := Lib.hid (show quo s.data.toList = (acc ++ [92, s[pos]]) ++ (qb (s.data.toList.drop (pos + 1)) ++ [34]) by
            rw [H3.out, at_drop s pos hp, qb_cons, fm_sl _ (by omega)]; simp)
          clear hdec hpl hpf hc1 hsl
          go_wp2_with fail
          refine PA.out.mono ?_
          rintro e w2 ⟨rfl, rfl⟩
          go_wp2_with fail
          refine SL.out.mono ?_
          rintro e w2 ⟨rfl, rfl⟩
          go_wp2_with (at_builtin; refine wpList_append_own _ rfl (.tmp 42) (.tmp 46) 33 rfl w.heap.size 5 i0 (.int .u8 0) 1 1 Tryd.underlying33 hi hz0 hz1 hz2 rfl (by decide) _ _ _ rfl (hown.alloc _) ⟨W1.heap.size, 0, none⟩ 2 2 [.int .u8 92, .int .u8 (s[pos].toNat : Int)] rfl rfl (two_cells _ _ _ _) ?c2 ?c3 ?c4 ?c5 ?_)
          case c2 => intro u hu; simp at hu; rcases hu with rfl | rfl <;> rfl
          case c3 => unfold maxLen; omega
          case c4 => omega
          case c5 => simp; omega
          intro v' w3 hown' hgrow _
          have R3 := Lib.hid (R2.out.app (news := [92, s[pos]]) hown' hgrow)
          clear hown' hgrow hown
          go_wp2_with fail
          go_roundw
          case rel => exact ⟨pos + 1, acc ++ [92, s[pos]], g1, by simp; omega, E.out, R3.out⟩
          case measure => rw [iterPos_of R3.out.it, hpos]; omega
        · have SL := Lib.hid (slash_no cc W1 hsl)
          have E := Lib.hid (show quo s.data.toList = (acc ++ hxs (s.extract pos (pos + kk)).data.toList) ++ (qb (s.data.toList.drop (pos + kk)) ++ [34]) by
            rw [H3.out, qb_split _ kk (G3.out ⟨by rw [hpf]; simp, hsl⟩), List.drop_drop, ext_mid]; simp)
          have hxl := Lib.hid (show (hxs (s.extract pos (pos + kk)).data.toList).length ≤ 4 * kk by
            rw [hxs_length, ext_mid, List.length_take]; omega)
          have hxz : (s.extract pos (pos + kk)).size ≤ 100000 := by
            rw [← toNat_bytes, ext_mid, List.length_take, List.length_drop, toNat_bytes]; omega
          have j1 : IntKind.i64.wrap ((pos : Int) + (kk : Int)) = (pos : Int) + (kk : Int) := IntWalk.i64_in _ (by omega)
          have j2 : (pos : Int) ≤ (pos : Int) + (kk : Int) := by omega
          have j3 : (pos : Int) + (kk : Int) ≤ (s.size : Int) := by omega
          have j4 : ((pos : Int) + (kk : Int)).toNat = pos + kk := by omega
          have HXZ := Lib.hid hxz
          clear hdec hpl hpf hsl hxz
          go_wp2_with fail
          refine PA.out.mono ?_
          rintro e w2 ⟨rfl, rfl⟩
          go_wp2_with fail
          refine SL.out.mono ?_
          rintro e w2 ⟨rfl, rfl⟩
          go_wp2_with fail
          refine DG.out.mono ?_
          rintro e w2 ⟨rfl, hb2⟩
          have R3 := Lib.hid (R2.out.call hb2)
          have HR := Lib.hid (hex_rows w.heap.size _ acc (s.extract pos (pos + kk)) w2 R3.out.ow (by have := R3.out.lt; omega) (by omega) HXZ.out)
          clear hb2 hown
          go_wp2_with fail
          refine HR.out.mono ?_
          rintro e w3 ⟨v', rfl, ho, hb3, hi3, hz3⟩
          have R4 := Lib.hid (R3.out.row ho hb3 hi3)
          clear ho hb3 hi3 hz3
          go_wp2_with fail
          go_roundw
          case rel => exact ⟨pos + kk, acc ++ hxs (s.extract pos (pos + kk)).data.toList, g1, by rw [List.length_append]; have := hxl.out; omega, E.out, R4.out⟩
          case measure => rw [iterPos_of R4.out.it, hpos]; omega
    · have hnx : ∀ ty, (Instr.next (.pointer (some ⟨w.heap.size + 1, 0, none⟩)) true ty).run Tryd.prog wr = _ := fun ty => Lib.run_next_end_at wr (w.heap.size + 1) s pos ty hr.it hp
      have E := Lib.hid (show quo s.data.toList = acc ++ [34] by rw [h3, at_end s pos (by omega)]; rfl)
      have R2 := Lib.hid hr
      have hown := hr.ow
      have hBlt := hr.lt
      clear h3 hr
      go_wp2_with (at_builtin; refine wpList_append_own _ rfl (.tmp 48) (.tmp 49) 33 rfl w.heap.size 5 i0 (.int .u8 0) 1 1 Tryd.underlying33 hi hz0 hz1 hz2 rfl (by decide) _ _ _ rfl (hown.alloc _) ⟨wr.heap.size, 0, none⟩ 1 1 [.int .u8 34] rfl rfl (one_cell _ _ _) ?c2 ?c3 ?c4 ?c5 ?_)
      case c2 => intro u hu; simp at hu; subst hu; rfl
      case c3 => unfold maxLen; omega
      case c4 => omega
      case c5 => simp; omega
      intro v' w3 hown' hgrow _
      have R3 := Lib.hid (R2.out.app (news := [34]) hown' hgrow)
      have hcv := conv_own R3.out.ow
      clear hown' hgrow hown
      go_wp2_with fail
      go_ret
      exact ⟨ret_str (by rw [E.out]), R3.out.be⟩
end Go.Proofs.YtmildkjkppnblaaDoor
