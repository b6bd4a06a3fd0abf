/- The contract of readQuoted of names. -/
import Derived.Test.YtmildkjkppnblaaDoorNB
import Derived.Lib.OthersKept
import Derived.Laws.BytesArg
import Derived.BigCall
set_option linter.unusedVariables false
namespace Go.Proofs.YtmildkjkppnblaaDoor
open Go.RowKit

/-- A list of bytes as a string. -/
def bs (l : List UInt8) : ByteArray := ⟨l.toArray⟩
theorem bs_data (l : List UInt8) : (bs l).data.toList = l := rfl
theorem bs_size (l : List UInt8) : (bs l).size = l.length := by simp [bs, ByteArray.size]
theorem bs_inj {a b : List UInt8} (h : bs a = bs b) : a = b := by have := congrArg (fun s => s.data.toList) h; simpa [bs] using this
theorem of_data {s t : ByteArray} (h : s.data.toList = t.data.toList) : s = t := by
  apply ByteArray.ext; exact Array.toList_inj.1 h
theorem bs_append (a b : List UInt8) : bs a ++ bs b = bs (a ++ b) := of_data (by simp [bs])
theorem bs_self (s : ByteArray) : bs s.data.toList = s := of_data (bs_data _)
theorem str_bs (l : List UInt8) : strOfNums (l.map fun c => (c.toNat : Int)) = bs l := by
  apply of_data
  rw [strOfNums_data, bs_data, List.map_map]
  conv => rhs; rw [← List.map_id l]
  apply List.map_congr_left
  intro c _
  simp
theorem toNat_bytes (s : ByteArray) : s.data.toList.length = s.size := by simp
theorem ext_take (s : ByteArray) (n : Nat) : s.extract 0 n = bs (s.data.toList.take n) := by
  apply of_data; rw [bs_data]; simp [List.extract]
theorem ext_drop (s : ByteArray) (n : Nat) : s.extract n s.size = bs (s.data.toList.drop n) := by
  apply of_data; rw [bs_data]; simp [List.extract]
  exact List.take_of_length_le (by simp)

/-- Bytes as the cells of a row. -/
def u8s (l : List UInt8) : List Value := l.map fun c => Value.int .u8 (c.toNat : Int)
theorem u8s_append (a b : List UInt8) : u8s a ++ u8s b = u8s (a ++ b) := by unfold u8s; rw [List.map_append]
theorem u8s_length (a : List UInt8) : (u8s a).length = a.length := by unfold u8s; rw [List.length_map]
theorem snoc_len (ys : List UInt8) (c : UInt8) : (ys ++ [c]).length = ys.length + 1 := by simp
/-- The cell of a new row of one element. -/
theorem one_cell (w : World) (c : Value) (T : TypeId) : ∀ (j : Nat) (u : Value), [c][j]? = some u → (w.alloc (Obj.cells #[c] T)).cell? ({ block := w.heap.size, off := 0 : Addr }.add j) = some u := by
  intro j u h
  cases j with
  | zero => simp at h; subst h; simp [Addr.add, World.cell?_alloc_new]
  | succ j => simp at h
theorem info_u8 : (Tryd.prog.info? 5).map (fun i => (i.zero, i.size, i.bytes)) = some (some (.int .u8 0), 1, 1) := by kernel_rfl
theorem conv_own {w : World} {base n : Nat} {v : Value} {ys : List UInt8} (h : w.ownsRow base 5 1 v n (u8s ys)) :
    (convert 33 9 v).run Tryd.prog w = .ok (.string (bs ys)) w := by
  have hl := h.1
  rw [u8s_length] at hl
  rcases h.2 with ⟨rfl, h0⟩ | ⟨g, cap, cur, rfl, h2, h3, h4⟩
  · rw [run_convert_bytes_nil w 33 5 Tryd.underlying33 Tryd.underlying5 0 0 9 Tryd.underlying9]
    have : ys = [] := List.eq_nil_of_length_eq_zero (by omega)
    subst this; rfl
  · rw [← str_bs]
    refine run_convert_bytes_arg w 33 5 Tryd.underlying33 Tryd.underlying5 g 0 n cap _ (by simp; omega) (fun i hi => ?_) 9 Tryd.underlying9
    have := h.cells (g := g) rfl i (.int .u8 ((ys.map fun c => (c.toNat : Int)).getD i 0)) (by
      unfold u8s
      rw [List.getElem?_map]
      have hi2 : i < ys.length := by omega
      simp [List.getD, List.getElem?_eq_getElem hi2])
    rw [show ({ block := g, off := 0, spot := none : Addr }.add i) = ⟨g, i, none⟩ by unfold Addr.add; split <;> simp_all] at this
    rw [Nat.zero_add]; exact this

theorem ownsRow_iterAt {w : World} {base : Nat} {e : TypeId} {size : Nat} {v : Value} {n : Nat} {xs : List Value} (h : w.ownsRow base e size v n xs) {k : Nat} (hk : k < base) (s : ByteArray) (p : Nat) : (w.iterAt k s p).ownsRow base e size v n xs := by
  obtain ⟨h1, h2⟩ := h
  refine ⟨h1, ?_⟩
  rcases h2 with h2 | ⟨g, cap, cur, a, b, c, d⟩
  · exact .inl h2
  · exact .inr ⟨g, cap, cur, a, b, by rw [Lib.iterAt_other _ _ _ _ _ (by omega)]; exact c, d⟩
theorem ownsRow_below {w w' : World} {base : Nat} {e : TypeId} {size : Nat} {v : Value} {n : Nat} {xs : List Value} (h : w.ownsRow base e size v n xs) (hb : Below w.heap.size w w') : w'.ownsRow base e size v n xs := by
  obtain ⟨h1, h2⟩ := h
  refine ⟨h1, ?_⟩
  rcases h2 with h2 | ⟨g, cap, cur, a, b, c, d⟩
  · exact .inl h2
  · exact .inr ⟨g, cap, cur, a, b, by rw [hb.block g (Array.getElem?_eq_some_iff.1 c).1]; exact c, d⟩
theorem iterPos_of {w : World} {k : Nat} {s : ByteArray} {p : Nat} (h : w.heap[k]? = some (.stringIter s p)) : w.iterPos k = p := by simp [World.iterPos, h]

/-- An iterator over s stands at pos; the row v of the call's own holds these bytes; what was there is as it was. -/
structure RQ (B : Nat) (w : World) (s : ByteArray) (pos : Nat) (v : Value) (acc : List UInt8) (wr : World) : Prop where
  it : wr.heap[B]? = some (.stringIter s pos)
  ow : wr.ownsRow (B + 1) 5 1 v acc.length (u8s acc)
  be : Below B w wr
theorem RQ.lt {B : Nat} {w : World} {s : ByteArray} {pos : Nat} {v : Value} {acc : List UInt8} {wr : World} (h : RQ B w s pos v acc wr) : B < wr.heap.size := (Array.getElem?_eq_some_iff.1 h.it).1
theorem RQ.next {B : Nat} {w : World} {s : ByteArray} {pos : Nat} {v : Value} {acc : List UInt8} {wr : World} (h : RQ B w s pos v acc wr) (p : Nat) : RQ B w s p v acc (wr.iterAt B s p) :=
  ⟨Lib.iterAt_heap wr B s pos p h.it, ownsRow_iterAt h.ow (by omega) s p, Lib.below_iterAt h.be (Nat.le_refl _) s p⟩
theorem RQ.call {B : Nat} {w : World} {s : ByteArray} {pos : Nat} {v : Value} {acc : List UInt8} {wr w2 : World} (h : RQ B w s pos v acc wr) (hb : Below wr.heap.size wr w2) : RQ B w s pos v acc w2 :=
  ⟨by rw [hb.block B h.lt]; exact h.it, ownsRow_below h.ow hb, h.be.trans (hb.mono (Nat.le_of_lt h.lt))⟩
theorem RQ.app {B : Nat} {w : World} {s : ByteArray} {pos : Nat} {v v' : Value} {acc news : List UInt8} {wr w3 : World} {o : Obj} (h : RQ B w s pos v acc wr)
    (hown : w3.ownsRow (B + 1) 5 1 v' (acc.length + news.length) (u8s acc ++ u8s news)) (hg : (wr.alloc o).grownBy w3 v.ownBlock) : RQ B w s pos v' (acc ++ news) w3 := by
  have hl := h.lt
  have hk := h.ow.lt
  refine ⟨?_, by rw [List.length_append, ← u8s_append]; exact hown, (h.be.alloc (Nat.le_of_lt hl) _).grown hg (by simp; omega) (fun k e => by have := (hk k e).1; omega)⟩
  rw [hg.block B (by simp; omega) (fun e => by have := (hk B e.symm).1; omega), Below.heap_alloc _ _ _ hl]
  exact h.it

/-- What readQuoted hands back. -/
def rqV (x : Option (List UInt8 × Nat)) : List UInt8 × Nat := x.getD ([], 0)
def OutRq (x : Option (List UInt8 × Nat)) (w : World) (e : Ending) (w' : World) : Prop :=
  e = .returned (.tuple #[.string (bs (rqV x).1), .int .i64 ((rqV x).2 : Int)]) ∧ Below w.heap.size w w'
theorem outq_none {x : Option (List UInt8 × Nat)} {w w' : World} {s : ByteArray} (h : x = none) (hs : s = bs []) (hb : Below w.heap.size w w') : OutRq x w (.returned (.tuple #[.string s, .int .i64 0])) w' := by subst h; subst hs; exact ⟨rfl, hb⟩
theorem outq_some {x : Option (List UInt8 × Nat)} {w w' : World} {t : List UInt8} {n : Nat} (h : x = some (t, n)) {b : Int} (hn : b = (n : Int)) (hb : Below w.heap.size w w') : OutRq x w (.returned (.tuple #[.string (bs t), .int .i64 b])) w' := by
  subst h; subst hn; exact ⟨rfl, hb⟩

theorem head_at (s : ByteArray) (k : Nat) (h : k < s.size) : (s.data.toList.drop k).head? = some s[k] := by rw [at_drop s k h]; rfl
theorem head_ne (s : ByteArray) (k : Nat) (h : k < s.size) (h2 : s[k].toNat ≠ 34) : (s.data.toList.drop k).head? ≠ some 34 := by
  rw [head_at s k h]; intro e
  have := Option.some.inj e
  rw [this] at h2; exact h2 rfl
theorem head_eq (s : ByteArray) (k : Nat) (h : k < s.size) (h2 : s[k].toNat = 34) : (s.data.toList.drop k).head? = some 34 := by
  rw [head_at s k h]; exact congrArg some (UInt8.toNat_inj.1 (by rw [h2]; rfl))

theorem fm_ascii (c : UInt8) : ∀ b ∈ fm c, b.toNat < 128 := by
  have hc := c.toNat_lt
  intro b hb
  unfold fm at hb
  split at hb
  · simp at hb
    rcases hb with rfl | rfl
    · decide
    · omega
  · split at hb
    · have h1 := hx_byte (c.toNat / 16) (by omega)
      have h2 := hx_byte (c.toNat % 16) (by omega)
      simp at hb
      rcases hb with rfl | rfl | rfl | rfl
      · decide
      · decide
      · omega
      · omega
    · simp at hb
      subst hb
      omega
theorem fm_two (c a : UInt8) (t : List UInt8) (h : fm c = a :: t) (ha : a.toNat = 92) : 2 ≤ (fm c).length := by
  unfold fm at h ⊢
  split
  · simp
  · rename_i h1
    split
    · simp
    · rename_i h2
      rw [if_neg h1, if_neg h2] at h
      have := (List.cons.inj h).1
      rw [this] at h1
      exact absurd (Or.inr ha) h1
theorem esc_range (s : ByteArray) (pos : Nat) (hp : pos < s.size) (c : UInt8) (r : List UInt8) (h92 : s[pos].toNat = 92) (h : s.data.toList.drop pos = fm c ++ r) :
    2 ≤ (fm c).length ∧ pos + (fm c).length ≤ s.size ∧ ∀ j (hj : j < s.size), pos + 1 ≤ j → j < pos + (fm c).length → s[j].toNat < 128 := by
  have hl := congrArg List.length h
  rw [List.length_drop, toNat_bytes, List.length_append] at hl
  have h1 := fm_length c
  refine ⟨?_, by omega, fun j hj a b => ?_⟩
  · rw [at_drop s pos hp] at h
    match e : fm c with
    | [] => rw [e] at h1; simp at h1
    | x :: t =>
      rw [e] at h
      have h3 := (List.cons.inj h).1
      rw [← e]
      exact fm_two c x t e (by rw [← h3]; exact h92)
  · have e : s[j] = (s.data.toList.drop pos)[j - pos]'(by rw [List.length_drop, toNat_bytes]; omega) := by
      rw [List.getElem_drop]
      have : pos + (j - pos) = j := by omega
      simp only [this]
      rfl
    rw [e]
    apply fm_ascii c
    have : (s.data.toList.drop pos)[j - pos]'(by rw [List.length_drop, toNat_bytes]; omega) = (fm c)[j - pos]'(by omega) := by
      simp only [h]
      rw [List.getElem_append_left (by omega)]
    rw [this]
    exact List.getElem_mem _

theorem ne_list (s : ByteArray) (h : 0 < s.size) : ¬ s.toList = [] := by
  rw [Lib.toList_data]; intro e
  have := congrArg List.length e
  rw [toNat_bytes, List.length_nil] at this; omega
theorem ne_empty (s : ByteArray) (h : 0 < s.size) : s.toList.isEmpty = false := by
  have := ne_list s h
  cases e : s.toList with
  | nil => exact absurd e this
  | cons a b => rfl
theorem eq_empty (s : ByteArray) (h : ¬ 0 < s.size) : s = bs [] := of_data (by
  rw [bs_data]; exact List.eq_nil_of_length_eq_zero (by rw [toNat_bytes]; omega))

set_option maxRecDepth 100000 in
set_option maxHeartbeats 2000000 in
theorem rq_any (s : ByteArray) (w : World) (hs : s.size ≤ 100000) (x : Option (List UInt8 × Nat)) (hx : rdq s.data.toList = x) :
    Calls Tryd.prog 18 #[.string s] w (OutRq x w) := by
  obtain ⟨i0, hi, hz0, hz1, hz2⟩ := info_parts info_u8
  by_cases h0 : 0 < s.size
  case neg =>
    obtain rfl := eq_empty s h0
    have X := Lib.hid (show x = none by rw [← hx]; rfl)
    have n1 : (bs []).toList = [] := by rw [Lib.toList_data]; rfl
    have n2 : (bs []).toList.isEmpty = true := by rw [n1]; rfl
    clear hx h0
    go_enter Tryd.func18, Tryd.ntmps18
    go_wp2_with fail
    exact bodyPost_ret (v := .tuple #[.string (bs []), .int .i64 0]) (by simp [results, Tryd.results18, go_sem]; rfl) rfl (outq_none X.out rfl (Below.refl _ _))
  have n1 := ne_list s h0
  have n2 := ne_empty s h0
  by_cases hq : s[0].toNat = 34
  · have hl := toNat_bytes s
    have e0 := head_eq s 0 (by omega) hq
    rw [List.drop_zero] at e0
    have X := Lib.hid (show x = (rd s.data.toList.length (s.data.toList.drop 1)).map fun y => ([] ++ y.1, 1 + y.2) by
      rw [← hx]; unfold rdq; rw [if_pos e0]; rfl)
    have HQ := Lib.hid hq
    have hq2 : ((s[0].toNat : Int) != 34) = false := by simp; omega
    have hs1 : 1 ≤ s.size := by omega
    clear hx e0 hq
    go_enter Tryd.func18, Tryd.ntmps18
    go_wp2_with fail
    go_loopw [4, 5] (fun v m wr => ∃ (pos nx f : Nat) (n : Nat) (acc : List UInt8), m = .int .i64 n ∧ pos ≤ nx ∧ n ≤ nx ∧ (pos = nx ∨ n = nx) ∧ nx ≤ s.size ∧ 1 ≤ nx ∧ acc.length ≤ nx ∧ s.size < nx + f ∧
      (∀ j (hj : j < s.size), pos ≤ j → j < nx → s[j].toNat < 128) ∧ x = ((rd f (s.data.toList.drop nx)).map fun y => (acc ++ y.1, nx + y.2)) ∧ RQ w.heap.size w s pos v acc wr) (fun _ _ wr => s.size - wr.iterPos w.heap.size)
    case atStart => 
      refine ⟨0, 1, s.size, 1, [], rfl, by omega, by omega, Or.inr rfl, by omega, by omega, by simp, by omega, fun j hj h1 h2 => ?_, ?_, World.iter_heap w s 0, World.ownsRow_nil _ _ _ _, (Below.refl _ _).alloc (Nat.le_refl _) _⟩
      · obtain rfl : j = 0 := by omega
        have := HQ.out; omega
      · rw [← toNat_bytes s]; exact X.out
    case round =>
      obtain ⟨pos, nx, f, n, acc, rfl, h1, h2, h3, h4, h5, h6, h7, h8, h9, hr⟩ := hrel
      have hpos := iterPos_of hr.it
      by_cases hp : pos < s.size
      · by_cases ha : s[pos].toNat < 128
        · have hnx : ∀ ty, (Instr.next (.pointer (some ⟨w.heap.size, 0, none⟩)) true ty).run Tryd.prog wr = _ := fun ty => Lib.run_next_ascii_at wr w.heap.size s pos ty hr.it hp ha
          have hr2 := hr.next (pos + 1)
          obtain ⟨W1, hW1⟩ : ∃ W1, W1 = wr.iterAt w.heap.size s (pos + 1) := ⟨_, rfl⟩
          rw [← hW1] at hnx hr2
          have hBlt := hr2.lt
          have hm2 := iterPos_of hr2.it
          have R2 := Lib.hid hr2
          have X1 := Lib.hid h9
          have H8 := Lib.hid h8
          clear h8 h9 hr hW1 X
          by_cases hcon : pos < nx
          · obtain rfl : n = nx := by omega
            clear hr2
            go_wp2_with fail
            go_roundw
            case rel => exact ⟨pos + 1, n, f, n, acc, rfl, by omega, by omega, Or.inr rfl, h4, h5, h6, h7, fun j hj a b => H8.out j hj (by omega) b, X1.out, R2.out⟩
            case measure => rw [hm2, hpos]; omega
          · obtain rfl : pos = nx := by omega
            have hnlt : ¬ pos < n := by omega
            obtain ⟨f, rfl⟩ : ∃ g, f = g + 1 := ⟨f - 1, by omega⟩
            have hown := hr2.ow
            have B2 := Lib.hid hr2.be
            have HP := Lib.hid (at_drop s pos hp)
            clear hr2 hcon h3
            by_cases hq34 : s[pos].toNat = 34
            · have X2 := Lib.hid (show x = some (acc, pos + 1) by
                rw [X1.out, rd_quote f _ (head_eq s pos hp hq34)]; simp)
              have t34 : ((s[pos].toNat : Int) == 34) = true := by simp; omega
              have hcv := conv_own hown
              clear hown hq34
              go_wp2_with fail
              exact bodyPost_ret (v := .tuple #[.string (bs acc), .int .i64 ((pos : Int) + 1)]) (by simp [results, Tryd.results18, go_sem]) rfl (outq_some X2.out (by omega) B2.out)
            · have hh := head_ne s pos hp hq34
              have t34 : ((s[pos].toNat : Int) == 34) = false := by simp; omega
              by_cases hq92 : s[pos].toNat = 92
              · have t92 : ((s[pos].toNat : Int) == 92) = true := by simp; omega
                have S : stp (s.data.toList.drop pos) = esc (s.data.toList.drop (pos + 1)) := by rw [HP.out, stp_cons, if_pos hq92]
                have hxs : (s.extract pos s.size).size = s.size - pos := by simp
                have hxd : (s.extract pos s.size).data.toList.drop 1 = s.data.toList.drop (pos + 1) := by rw [ext_drop, bs_data, List.drop_drop]
                rcases hesc : esc (s.data.toList.drop (pos + 1)) with _ | ⟨c, k⟩
                · have X2 := Lib.hid (show x = none by rw [X1.out, rd_none f _ hh (by rw [S, hesc])]; rfl)
                  have Q := Lib.hid (esc_any (s.extract pos s.size) W1 (by omega) (by omega) none (by rw [hxd]; exact hesc))
                  clear hq34 hq92 hh S hxs hxd hesc hown
                  go_wp2_with fail
                  refine Q.out.mono ?_
                  rintro e w2 ⟨rfl, hb2⟩
                  have B3 := Lib.hid (B2.out.trans (hb2.mono (Nat.le_of_lt hBlt)))
                  clear hb2
                  simp only [escR, Option.getD_none]
                  go_wp2_with fail
                  exact bodyPost_ret (v := .tuple #[.string (bs []), .int .i64 0]) (by simp [results, Tryd.results18, go_sem]; rfl) rfl (outq_none X2.out rfl B3.out)
                · have hst := stp_sound (S.trans hesc)
                  obtain ⟨r, hr, hk⟩ := hst
                  have hk4 := fm_length c
                  have hkn : 2 ≤ k ∧ pos + k ≤ s.size ∧ (∀ j (hj : j < s.size), pos + 1 ≤ j → j < pos + k → s[j].toNat < 128) := by
                    rw [hk]
                    exact esc_range s pos hp c r hq92 hr
                  obtain ⟨hk2, hks, hk3⟩ := hkn
                  have K3 := Lib.hid hk3
                  have X2 := Lib.hid (show x = (rd f (s.data.toList.drop (pos + k))).map fun y => ((acc ++ [c]) ++ y.1, (pos + k) + y.2) by
                    rw [X1.out, rd_some f _ c k hh (S.trans hesc), List.drop_drop, Option.map_map]
                    congr 1
                    funext y
                    simp; omega)
                  have Q := Lib.hid (esc_any (s.extract pos s.size) W1 (by omega) (by omega) (some (c, k)) (by rw [hxd]; exact hesc))
                  have hk0 : ((k : Int) == 0) = false := by simp; omega
                  clear hq34 hq92 hh S hxs hxd hesc hown hr hk hk4 hk3
                  go_wp2_with fail
                  refine Q.out.mono ?_
                  rintro e w2 ⟨rfl, hb2⟩
                  have R2 := Lib.hid (R2.out.call hb2)
                  have hBlt := R2.out.lt
                  have hown := R2.out.ow
                  clear hb2
                  simp only [escR, Option.getD_some]
                  go_wp2_with (at_builtin; refine wpList_append_own _ rfl (.tmp 46) (.tmp 48) 33 rfl (w.heap.size + 1) 5 i0 (.int .u8 0) 1 1 Tryd.underlying33 hi hz0 hz1 hz2 rfl (by decide) _ _ _ rfl (hown.alloc _) ⟨w2.heap.size, 0, none⟩ 1 1 [.int .u8 (c.toNat : Int)] rfl rfl (one_cell _ _ _) ?c2 ?c3 ?c4 ?c5 ?_)
                  case c2 => intro u hu; simp at hu; subst hu; rfl
                  case c3 => unfold maxLen; omega
                  case c4 => omega
                  case c5 => simp; omega
                  intro v' w3 hown' hgrow _
                  have R3 := Lib.hid (R2.out.app (news := [c]) hown' hgrow)
                  clear hown' hgrow hown
                  go_wp2_with fail
                  go_roundw
                  case rel => exact ⟨pos + 1, pos + k, f, pos + k, acc ++ [c], by go_num, by omega, by omega, Or.inr rfl, hks, by omega, by rw [snoc_len]; omega, by omega, K3.out, X2.out, R3.out⟩
                  case measure => rw [iterPos_of R3.out.it, hpos]; omega
              · have t92 : ((s[pos].toNat : Int) == 92) = false := by simp; omega
                have S : stp (s.data.toList.drop pos) = if pl s[pos] then some (s[pos], 1) else none := by rw [HP.out, stp_cons, if_neg hq92]
                have PA := Lib.hid (plain_any s[pos].toNat W1)
                by_cases hpl : pl s[pos] = true
                · rw [plB_pl, hpl] at PA
                  rw [if_pos hpl] at S
                  have X2 := Lib.hid (show x = (rd f (s.data.toList.drop (pos + 1))).map fun y => ((acc ++ [s[pos]]) ++ y.1, (pos + 1) + y.2) by
                    rw [X1.out, rd_some f _ _ 1 hh S, List.drop_drop, Option.map_map]
                    congr 1
                    funext y
                    simp; omega)
                  clear hq34 hq92 hh S hpl
                  go_wp2_with fail
                  refine PA.out.mono ?_
                  rintro e w2 ⟨rfl, rfl⟩
                  go_wp2_with (at_builtin; refine wpList_append_own _ rfl (.tmp 56) (.tmp 60) 33 rfl (w.heap.size + 1) 5 i0 (.int .u8 0) 1 1 Tryd.underlying33 hi hz0 hz1 hz2 rfl (by decide) _ _ _ rfl (hown.alloc _) ⟨W1.heap.size, 0, none⟩ 1 1 [.int .u8 (s[pos].toNat : Int)] rfl rfl (one_cell _ _ _) ?c2 ?c3 ?c4 ?c5 ?_)
                  case c2 => intro u hu; simp at hu; subst hu; rfl
                  case c3 => unfold maxLen; omega
                  case c4 => omega
                  case c5 => simp; omega
                  intro v' w3 hown' hgrow _
                  have R3 := Lib.hid (R2.out.app (news := [s[pos]]) hown' hgrow)
                  clear hown' hgrow hown
                  go_wp2_with fail
                  go_roundw
                  case rel => exact ⟨pos + 1, pos + 1, f, n, acc ++ [s[pos]], rfl, by omega, by omega, Or.inl rfl, by omega, by omega, by rw [snoc_len]; omega, by omega, fun j hj a b => by omega, X2.out, R3.out⟩
                  case measure => rw [iterPos_of R3.out.it, hpos]; omega
                · have hpf : pl s[pos] = false := by simpa using hpl
                  rw [plB_pl, hpf] at PA
                  rw [if_neg hpl] at S
                  have X2 := Lib.hid (show x = none by rw [X1.out, rd_none f _ hh S]; rfl)
                  clear hq34 hq92 hh S hpl hpf hown
                  go_wp2_with fail
                  refine PA.out.mono ?_
                  rintro e w2 ⟨rfl, rfl⟩
                  go_wp2_with fail
                  exact bodyPost_ret (v := .tuple #[.string (bs []), .int .i64 0]) (by simp [results, Tryd.results18, go_sem]; rfl) rfl (outq_none X2.out rfl B2.out)
        · have hnx : ∀ ty, (Instr.next (.pointer (some ⟨w.heap.size, 0, none⟩)) true ty).run Tryd.prog wr = _ := fun ty => Lib.run_next_any_at wr w.heap.size s pos ty hr.it hp
          have hr2 := hr.next (pos + (Utf8.decode s pos).2)
          have hd1 := decode_le s pos
          have hd2 := (decode_high s pos hp (by omega)).1
          obtain ⟨W1, hW1⟩ : ∃ W1, W1 = wr.iterAt w.heap.size s (pos + (Utf8.decode s pos).2) := ⟨_, rfl⟩
          rw [← hW1] at hnx hr2
          have hcon : ¬ pos < nx := fun h => ha (h8 pos hp (Nat.le_refl _) h)
          obtain rfl : pos = nx := by omega
          have hnlt : ¬ pos < n := by omega
          obtain ⟨f, rfl⟩ : ∃ g, f = g + 1 := ⟨f - 1, by omega⟩
          have X2 := Lib.hid (show x = none by
            rw [h9, rd_none f _ (head_ne s pos hp (by omega)) (by
              rw [at_drop s pos hp, stp_cons, if_neg (by omega), if_neg]
              intro e
              have := of_decide_eq_true e
              omega)]
            rfl)
          have B2 := Lib.hid hr2.be
          generalize (Utf8.decode s pos).1 = cc at *
          have PA := Lib.hid (show plB cc = false from decide_eq_false (by omega))
          have t34 : ((cc : Int) == 34) = false := by simp; omega
          have t92 : ((cc : Int) == 92) = false := by simp; omega
          clear h8 h9 hr hr2 hW1 X hcon
          go_wp2_with fail
          refine (plain_any cc _).mono ?_
          rw [PA.out]
          rintro e w2 ⟨rfl, rfl⟩
          go_wp2_with fail
          exact bodyPost_ret (v := .tuple #[.string (bs []), .int .i64 0]) (by simp [results, Tryd.results18, go_sem]; rfl) rfl (outq_none X2.out rfl B2.out)
      · have hnx : ∀ ty, (Instr.next (.pointer (some ⟨w.heap.size, 0, none⟩)) true ty).run Tryd.prog wr = _ := fun ty => Lib.run_next_end_at wr w.heap.size s pos ty hr.it hp
        have X2 := Lib.hid (show x = none by
          rw [h9, at_end s nx (by omega)]
          obtain ⟨f, rfl⟩ : ∃ g, f = g + 1 := ⟨f - 1, by omega⟩
          rfl)
        have B := Lib.hid hr.be
        clear h8 h9 hr hpos X
        go_wp2_with fail
        exact bodyPost_ret (v := .tuple #[.string (bs []), .int .i64 0]) (by simp [results, Tryd.results18, go_sem]; rfl) rfl (outq_none X2.out rfl B.out)
  · have X := Lib.hid (show x = none by
      rw [← hx]; unfold rdq; rw [if_neg]
      have := head_ne s 0 h0 hq
      rw [List.drop_zero] at this; exact this)
    have hq2 : ((s[0].toNat : Int) != 34) = true := by simp; omega
    clear hx hq
    go_enter Tryd.func18, Tryd.ntmps18
    go_wp2_with fail
    exact bodyPost_ret (v := .tuple #[.string (bs []), .int .i64 0]) (by simp [results, Tryd.results18, go_sem]; rfl) rfl (outq_none X.out rfl (Below.refl _ _))
end Go.Proofs.YtmildkjkppnblaaDoor
