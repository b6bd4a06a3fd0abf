/- Layer 15's mathematics: pieces of messages and their reassembly; no program in sight. -/
import Derived.Test.YtljcjflbfjleoaaBy
set_option linter.unusedVariables false
namespace Go.Proofs.Ytljcjflbfjleoaa.Frg

/-- A message that is being reassembled. -/
structure Pt where
  s : Int
  i : Int
  c : Int
  t : Int
  h : List Bool
  d : List ByteArray
abbrev eb : ByteArray := ⟨#[]⟩
def tick (n : Int) : Int := if n < 0 then 0 else if 1099511627776 < n then 1099511627776 else n
theorem tick_in (n : Int) : 0 ≤ tick n ∧ tick n ≤ 1099511627776 := by unfold tick; split <;> (try split) <;> omega
theorem tick_id {n : Int} (h : 0 ≤ n) (h2 : n ≤ 1099511627776) : tick n = n := by unfold tick; rw [if_neg (by omega), if_neg (by omega)]
/-- Byte j. -/
def bt (p : ByteArray) (j : Nat) : Int := ((p.data.toList.getD j 0).toNat : Int)
theorem bt_in (p : ByteArray) (j : Nat) : 0 ≤ bt p j ∧ bt p j ≤ 255 := by unfold bt; have := (p.data.toList.getD j 0).toNat_lt; omega
/-- Whether a piece may have so many bytes of data. -/
def Sz (i c n : Int) : Prop := if i < c - 1 then n = 64 else if c = 1 then n ≤ 64 else if c = 16 then 1 ≤ n ∧ n ≤ 40 else 1 ≤ n ∧ n ≤ 64
instance (i c n : Int) : Decidable (Sz i c n) := by unfold Sz; infer_instance
theorem sz_le {i c n : Int} (h : Sz i c n) : n ≤ 64 := by unfold Sz at h; split at h <;> (try split at h) <;> (try split at h) <;> omega
def Form (p : ByteArray) : Prop := (1 ≤ bt p 2 ∧ bt p 2 ≤ 16) ∧ bt p 1 < bt p 2 ∧ Sz (bt p 1) (bt p 2) ((p.size : Int) - 3)
instance (p : ByteArray) : Decidable (Form p) := by unfold Form; infer_instance
/-- The error of a piece. -/
def chk (p : ByteArray) : Int := if p.size < 3 then 5 else if Form p then 0 else 4
theorem chk_zero {p : ByteArray} (h : chk p = 0) : 3 ≤ p.size ∧ Form p := by
  unfold chk at h
  split at h
  · omega
  · split at h
    · exact ⟨by omega, by assumption⟩
    · omega
theorem chk_of {p : ByteArray} (h : 3 ≤ p.size) (h2 : Form p) : chk p = 0 := by unfold chk; rw [if_neg (by omega), if_pos h2]
theorem chk_in (p : ByteArray) : 0 ≤ chk p ∧ chk p ≤ 5 := by unfold chk; split <;> (try split) <;> omega
/-- The data of a piece. -/
def dta (p : ByteArray) : ByteArray := bs (p.data.toList.drop 3)
theorem dta_size (p : ByteArray) : (dta p).size = p.size - 3 := by unfold dta; rw [bs_size, List.length_drop, bytes_len]

/-! Cutting. -/
def cnt (n : Nat) : Nat := if n = 0 then 1 else (n + 63) / 64
theorem cnt_pos (n : Nat) : 1 ≤ cnt n := by unfold cnt; split <;> omega
theorem cnt_le {n : Nat} (h : n ≤ 1000) : cnt n ≤ 16 := by unfold cnt; split <;> omega
def u8 (n : Int) : UInt8 := UInt8.ofNat n.toNat
theorem u8_nat (n : Int) (h : 0 ≤ n ∧ n < 256) : ((u8 n).toNat : Int) = n := by unfold u8; rw [UInt8.toNat_ofNat']; omega
/-- The k-th part of a message. -/
def part (s : ByteArray) (k : Nat) : List UInt8 := (s.data.toList.drop (64 * k)).take 64
def piece (s : ByteArray) (id : Int) (k : Nat) : ByteArray := bs (u8 id :: u8 k :: u8 (cnt s.size) :: part s k)
def pcs (s : ByteArray) (id : Int) : List ByteArray := (List.range (cnt s.size)).map (piece s id)
def split (s : ByteArray) (id : Int) : List ByteArray × Int := if 1000 < s.size then ([], 3) else if id < 0 ∨ 255 < id then ([], 2) else (pcs s id, 0)
theorem part_len (s : ByteArray) (k : Nat) : (part s k).length = min 64 (s.size - 64 * k) := by unfold part; rw [List.length_take, List.length_drop, bytes_len]
theorem pcs_len (s : ByteArray) (id : Int) : (pcs s id).length = cnt s.size := by unfold pcs; rw [List.length_map, List.length_range]
theorem pcs_at (s : ByteArray) (id : Int) (k : Nat) (h : k < (pcs s id).length) : (pcs s id)[k] = piece s id k := by
  have h' : k < ((List.range (cnt s.size)).map (piece s id)).length := h
  show ((List.range (cnt s.size)).map (piece s id))[k] = _
  rw [List.getElem_map, List.getElem_range]
theorem piece_size (s : ByteArray) (id : Int) (k : Nat) : (piece s id k).size = 3 + (part s k).length := by unfold piece; rw [bs_size]; simp; omega
theorem piece_0 (s : ByteArray) (id : Int) (k : Nat) (h : 0 ≤ id ∧ id ≤ 255) : bt (piece s id k) 0 = id := by
  unfold bt piece; rw [bs_data]; exact u8_nat id (by omega)
theorem piece_1 (s : ByteArray) (id : Int) (k : Nat) (h : k < 256) : bt (piece s id k) 1 = k := by
  unfold bt piece; rw [bs_data]; exact u8_nat k (by omega)
theorem piece_2 (s : ByteArray) (id : Int) (k : Nat) (h : s.size ≤ 1000) : bt (piece s id k) 2 = cnt s.size := by
  have := cnt_le h
  unfold bt piece; rw [bs_data]; exact u8_nat (cnt s.size) (by omega)
theorem piece_dta (s : ByteArray) (id : Int) (k : Nat) : dta (piece s id k) = bs (part s k) := by unfold dta piece; rw [bs_data]; rfl
theorem piece_sz (s : ByteArray) (k : Nat) (h : s.size ≤ 1000) (hk : k < cnt s.size) : Sz k (cnt s.size) ((part s k).length) := by
  rw [part_len]
  unfold Sz cnt at *
  split at hk
  · rename_i h0
    rw [if_pos h0, if_neg (by omega), if_pos (by omega)]
    omega
  · rename_i h0
    rw [if_neg h0]
    by_cases h1 : (k : Int) < ((s.size + 63) / 64 : Nat) - 1
    · rw [if_pos h1]
      omega
    · rw [if_neg h1]
      by_cases h2 : (((s.size + 63) / 64 : Nat) : Int) = 1
      · rw [if_pos h2]; omega
      · rw [if_neg h2]
        by_cases h3 : (((s.size + 63) / 64 : Nat) : Int) = 16
        · rw [if_pos h3]; omega
        · rw [if_neg h3]; omega
theorem piece_chk (s : ByteArray) (id : Int) (k : Nat) (h : s.size ≤ 1000) (hk : k < cnt s.size) : chk (piece s id k) = 0 := by
  have hc := cnt_le h
  refine chk_of (by rw [piece_size]; omega) ⟨by rw [piece_2 s id k h]; have := cnt_pos s.size; omega, by rw [piece_1 s id k (by omega), piece_2 s id k h]; omega, ?_⟩
  rw [piece_1 s id k (by omega), piece_2 s id k h, piece_size]
  have := piece_sz s k h hk
  rw [show (((3 + (part s k).length : Nat) : Int) - 3) = ((part s k).length : Int) by omega]
  exact this
/-- The parts, joined: the message. -/
def jn (l : List ByteArray) : ByteArray := bs (l.flatMap fun p => p.data.toList)
theorem jn_nil : jn [] = eb := rfl
theorem jn_next (l : List ByteArray) (x : ByteArray) : jn (l ++ [x]) = jn l ++ x := of_data (by unfold jn; rw [app_data, bs_data, bs_data]; simp)
theorem parts_take (s : ByteArray) (n : Nat) : (((List.range n).map fun k => bs (part s k)).flatMap fun p => p.data.toList) = s.data.toList.take (64 * n) := by
  induction n with
  | zero => rfl
  | succ n ih =>
    rw [List.range_succ, List.map_append, List.flatMap_append, ih]
    show _ ++ (((bs (part s n)).data.toList) ++ []) = _
    rw [bs_data, List.append_nil]
    unfold part
    rw [show 64 * (n + 1) = 64 * n + 64 by omega, List.take_add]
theorem cnt_all (n : Nat) : n ≤ 64 * cnt n := by unfold cnt; split <;> omega
theorem jn_parts (s : ByteArray) : jn ((List.range (cnt s.size)).map fun k => bs (part s k)) = s := by
  unfold jn
  rw [parts_take, List.take_of_length_le (by rw [bytes_len]; exact cnt_all _), bs_self]

/-! Entries. -/
def dat (d : List ByteArray) (k : Nat) : ByteArray := d.getD k eb
def nT (h : List Bool) : Nat := (h.filter id).length
theorem nT_le (h : List Bool) : nT h ≤ h.length := List.length_filter_le _ _
theorem nT_all {h : List Bool} : nT h = h.length ↔ ∀ b ∈ h, b = true := by unfold nT; rw [List.length_filter_eq_length_iff]; simp
def Slot (c : Int) (h : List Bool) (d : List ByteArray) (k : Nat) : Prop := if h.getD k false = true then Sz k c (dat d k).size else (dat d k).size = 0
instance (c : Int) (h : List Bool) (d : List ByteArray) (k : Nat) : Decidable (Slot c h d k) := by unfold Slot; infer_instance
structure Valid (x : Pt) : Prop where
  id : 0 ≤ x.i ∧ x.i ≤ 255
  ct : 2 ≤ x.c ∧ x.c ≤ 16
  tk : 0 ≤ x.t ∧ x.t ≤ 1099511627776
  hl : (x.h.length : Int) = x.c
  dl : (x.d.length : Int) = x.c
  sl : ∀ k, k < x.h.length → Slot x.c x.h x.d k
  lo : 0 < nT x.h
  hi : (nT x.h : Int) < x.c
def Rngs (x : Pt) : Prop := (0 ≤ x.i ∧ x.i ≤ 255) ∧ (2 ≤ x.c ∧ x.c ≤ 16) ∧ (0 ≤ x.t ∧ x.t ≤ 1099511627776) ∧ (x.h.length : Int) = x.c ∧ (x.d.length : Int) = x.c
instance (x : Pt) : Decidable (Rngs x) := by unfold Rngs; infer_instance
theorem valid_iff (x : Pt) : Valid x ↔ Rngs x ∧ (∀ k, k < x.h.length → Slot x.c x.h x.d k) ∧ 0 < nT x.h ∧ (nT x.h : Int) < x.c :=
  ⟨fun h => ⟨⟨h.id, h.ct, h.tk, h.hl, h.dl⟩, h.sl, h.lo, h.hi⟩, fun ⟨⟨h1, h2, h3, h4, h5⟩, h6, h7, h8⟩ => ⟨h1, h2, h3, h4, h5, h6, h7, h8⟩⟩
instance (x : Pt) : Decidable (Valid x) := decidable_of_iff _ (valid_iff x).symm
def key (s i : Int) (x : Pt) : Bool := decide (x.s = s ∧ x.i = i)
theorem key_iff {s i : Int} {x : Pt} : key s i x = true ↔ x.s = s ∧ x.i = i := by unfold key; simp
def has (l : List Pt) (s i : Int) : Bool := l.any (key s i)
/-- One entry more. -/
def ord1 (acc : List Pt) (x : Pt) : List Pt := if Valid x ∧ has acc x.s x.i = false then acc ++ [x] else acc
def ords (l : List Pt) : List Pt := l.foldl ord1 []
def last8 (l : List Pt) : List Pt := l.drop (l.length - 8)
def ord (l : List Pt) : List Pt := last8 (ords l)
/-- In order: all valid, all keys different, at most 8. -/
structure Ok (l : List Pt) : Prop where
  val : ∀ x ∈ l, Valid x
  nod : l.Pairwise fun x y => ¬ (x.s = y.s ∧ x.i = y.i)
  len : l.length ≤ 8
theorem has_false {l : List Pt} {s i : Int} : has l s i = false ↔ ∀ x ∈ l, ¬ (x.s = s ∧ x.i = i) := by
  unfold has
  rw [List.any_eq_false]
  simp only [key_iff]
theorem ords_inv (l acc : List Pt) (h1 : ∀ x ∈ acc, Valid x) (h2 : acc.Pairwise fun x y => ¬ (x.s = y.s ∧ x.i = y.i)) :
    (∀ x ∈ l.foldl ord1 acc, Valid x) ∧ (l.foldl ord1 acc).Pairwise (fun x y => ¬ (x.s = y.s ∧ x.i = y.i)) ∧ ∀ x ∈ l.foldl ord1 acc, x ∈ acc ∨ x ∈ l := by
  induction l generalizing acc with
  | nil => exact ⟨h1, h2, fun x hx => Or.inl hx⟩
  | cons y l ih =>
    rw [List.foldl_cons]
    by_cases e : Valid y ∧ has acc y.s y.i = false
    · have e1 : ord1 acc y = acc ++ [y] := if_pos e
      rw [e1]
      obtain ⟨a, b, c⟩ := ih (acc ++ [y]) (fun x hx => by
        rcases List.mem_append.1 hx with hx | hx
        · exact h1 x hx
        · rw [List.mem_singleton.1 hx]; exact e.1) (by
        rw [List.pairwise_append]
        refine ⟨h2, List.pairwise_singleton _ _, fun x hx z hz => ?_⟩
        rw [List.mem_singleton.1 hz]
        exact has_false.1 e.2 x hx)
      refine ⟨a, b, fun x hx => ?_⟩
      rcases c x hx with hx | hx
      · rcases List.mem_append.1 hx with hx | hx
        · exact Or.inl hx
        · exact Or.inr (by rw [List.mem_singleton.1 hx]; exact List.mem_cons_self)
      · exact Or.inr (List.mem_cons_of_mem _ hx)
    · have e1 : ord1 acc y = acc := if_neg e
      rw [e1]
      obtain ⟨a, b, c⟩ := ih acc h1 h2
      exact ⟨a, b, fun x hx => (c x hx).imp_right (List.mem_cons_of_mem _)⟩
theorem last8_len (l : List Pt) : (last8 l).length ≤ 8 := by unfold last8; rw [List.length_drop]; omega
theorem ord_ok (l : List Pt) : Ok (ord l) := by
  obtain ⟨a, b, _⟩ := ords_inv l [] (fun x hx => by cases hx) List.Pairwise.nil
  exact ⟨fun x hx => a x (List.mem_of_mem_drop hx), b.sublist (List.drop_sublist _ _), last8_len _⟩
theorem ord_mem {l : List Pt} {x : Pt} (h : x ∈ ord l) : x ∈ l := by
  obtain ⟨_, _, c⟩ := ords_inv l [] (fun x hx => by cases hx) List.Pairwise.nil
  rcases c x (List.mem_of_mem_drop h) with h | h
  · cases h
  · exact h
theorem ords_self (l acc : List Pt) (h1 : ∀ x ∈ l, Valid x) (h2 : (acc ++ l).Pairwise fun x y => ¬ (x.s = y.s ∧ x.i = y.i)) : l.foldl ord1 acc = acc ++ l := by
  induction l generalizing acc with
  | nil => simp
  | cons y l ih =>
    have e : ord1 acc y = acc ++ [y] := if_pos ⟨h1 y List.mem_cons_self, has_false.2 fun x hx => (List.pairwise_append.1 h2).2.2 x hx y List.mem_cons_self⟩
    rw [List.foldl_cons, e, ih (acc ++ [y]) (fun x hx => h1 x (List.mem_cons_of_mem _ hx)) (by simpa using h2)]
    simp
theorem ord_self {l : List Pt} (h : Ok l) : ord l = l := by
  have e : ords l = l := ords_self l [] h.val (by simpa using h.nod)
  unfold ord last8
  rw [e]
  have := h.len
  rw [show l.length - 8 = 0 by omega]
  rfl

/-! Adding. -/
def fi (l : List Pt) (s i : Int) : Nat := l.findIdx (key s i)
def nw (s i c now : Int) : Pt := ⟨s, i, c, tick now, List.replicate c.toNat false, List.replicate c.toNat eb⟩
def upd (x : Pt) (j : Nat) (b : ByteArray) : Pt := { x with h := x.h.set j true, d := x.d.set j b }
def full (x : Pt) : Bool := x.h.all id
def at0 : Pt := ⟨0, 0, 0, 0, [], []⟩
/-- A piece is stored with entry k. -/
def put (o : List Pt) (k j : Nat) (b : ByteArray) : List Pt × ByteArray × Bool × Int :=
  if (o.getD k at0).h.getD j false = true then (o, eb, false, 0)
  else if full (upd (o.getD k at0) j b) = true then (o.eraseIdx k, jn (upd (o.getD k at0) j b).d, true, 0) else (o.set k (upd (o.getD k at0) j b), eb, false, 0)
def rm (o : List Pt) (s i c : Int) : List Pt := if (o.getD (fi o s i) at0).c ≠ c then o.eraseIdx (fi o s i) else o
def add (l : List Pt) (s now : Int) (p : ByteArray) : List Pt × ByteArray × Bool × Int :=
  if chk p ≠ 0 then ([], eb, false, chk p)
  else if bt p 2 = 1 then (rm (ord l) s (bt p 0) (bt p 2), dta p, true, 0)
  else if fi (ord l) s (bt p 0) < (ord l).length ∧ ((ord l).getD (fi (ord l) s (bt p 0)) at0).c = bt p 2 then put (ord l) (fi (ord l) s (bt p 0)) (bt p 1).toNat (dta p)
  else put ((if (rm (ord l) s (bt p 0) (bt p 2)).length = 8 then (rm (ord l) s (bt p 0) (bt p 2)).eraseIdx 0 else rm (ord l) s (bt p 0) (bt p 2)) ++ [nw s (bt p 0) (bt p 2) now])
    (if (rm (ord l) s (bt p 0) (bt p 2)).length = 8 then (rm (ord l) s (bt p 0) (bt p 2)).eraseIdx 0 else rm (ord l) s (bt p 0) (bt p 2)).length (bt p 1).toNat (dta p)
def Young (now life : Int) (x : Pt) : Prop := tick now - x.t ≤ tick life
instance (now life : Int) (x : Pt) : Decidable (Young now life x) := inferInstanceAs (Decidable (_ ≤ _))
def expi (l : List Pt) (now life : Int) : List Pt := (ord l).filter fun x => decide (Young now life x)
/-! The rest of the mathematics: what lists stay in order; the laws without the reference. -/
theorem valid_of_mem {l : List Pt} (h : Ok l) (k : Nat) (hk : k < l.length) : Valid l[k] := h.val _ (List.getElem_mem hk)
theorem ok_erase {l : List Pt} (h : Ok l) (k : Nat) : Ok (l.eraseIdx k) :=
  ⟨fun x hx => h.val x (List.mem_of_mem_eraseIdx hx), h.nod.sublist (List.eraseIdx_sublist _ _), Nat.le_trans (List.eraseIdx_sublist _ _).length_le h.len⟩
theorem ok_set {l : List Pt} (h : Ok l) (k : Nat) (hk : k < l.length) (x : Pt) (hx : Valid x) (e : x.s = l[k].s ∧ x.i = l[k].i) : Ok (l.set k x) := by
  refine ⟨fun y hy => ?_, ?_, by rw [List.length_set]; exact h.len⟩
  · rcases List.mem_or_eq_of_mem_set hy with hy | rfl
    · exact h.val y hy
    · exact hx
  · rw [List.pairwise_iff_getElem]
    intro i j hi hj hij
    rw [List.length_set] at hi hj
    have := List.pairwise_iff_getElem.1 h.nod i j hi hj hij
    rw [List.getElem_set, List.getElem_set]
    split
    · rename_i e1
      subst e1
      rw [if_neg (by omega), e.1, e.2]
      exact this
    · split
      · rename_i e2
        subst e2
        rw [e.1, e.2]
        exact this
      · exact this
theorem ok_push {l : List Pt} (h : Ok l) (hl : l.length ≤ 7) (x : Pt) (hx : Valid x) (hh : has l x.s x.i = false) : Ok (l ++ [x]) := by
  refine ⟨fun y hy => ?_, ?_, by rw [List.length_append]; simp; omega⟩
  · rcases List.mem_append.1 hy with hy | hy
    · exact h.val y hy
    · rw [List.mem_singleton.1 hy]; exact hx
  · rw [List.pairwise_append]
    refine ⟨h.nod, List.pairwise_singleton _ _, fun y hy z hz => ?_⟩
    rw [List.mem_singleton.1 hz]
    exact has_false.1 hh y hy
theorem fi_le (l : List Pt) (s i : Int) : fi l s i ≤ l.length := List.findIdx_le_length
theorem fi_at {l : List Pt} {s i : Int} (h : fi l s i < l.length) : l[fi l s i].s = s ∧ l[fi l s i].i = i := key_iff.1 (List.findIdx_getElem (w := h))
theorem fi_not {l : List Pt} {s i : Int} {j : Nat} (h : j < fi l s i) : ¬ (l[j]'(Nat.lt_of_lt_of_le h (fi_le l s i))).s = s ∨ ¬ (l[j]'(Nat.lt_of_lt_of_le h (fi_le l s i))).i = i := by
  have := List.not_of_lt_findIdx h
  have h2 : ¬ key s i (l[j]'(Nat.lt_of_lt_of_le h (fi_le l s i))) = true := by simpa using this
  rw [key_iff] at h2
  exact Decidable.not_and_iff_or_not.1 h2
theorem fi_has {l : List Pt} {s i : Int} : has l s i = true ↔ fi l s i < l.length := by
  unfold has fi
  rw [List.any_eq_true, List.findIdx_lt_length]
theorem fi_none {l : List Pt} {s i : Int} (h : has l s i = false) : fi l s i = l.length := by
  have a := fi_le l s i
  have b : ¬ fi l s i < l.length := fun c => by rw [fi_has.2 c] at h; cases h
  omega
theorem getD_at (l : List Pt) (k : Nat) (hk : k < l.length) : l.getD k at0 = l[k] := by simp [List.getD, hk]
theorem getD_end (l : List Pt) (x : Pt) : (l ++ [x]).getD l.length at0 = x := by simp [List.getD]
theorem has_erase {l : List Pt} (h : Ok l) {s i : Int} (hk : fi l s i < l.length) : has (l.eraseIdx (fi l s i)) s i = false := by
  rw [has_false]
  intro x hx ⟨e1, e2⟩
  obtain ⟨j, hj, rfl⟩ := List.getElem_of_mem hx
  have ha := fi_at hk
  rw [List.getElem_eraseIdx] at e1 e2
  rw [List.length_eraseIdx, if_pos hk] at hj
  split at e1
  · rename_i hlt
    rw [dif_pos hlt] at e2
    exact List.pairwise_iff_getElem.1 h.nod j (fi l s i) (by omega) hk hlt ⟨by rw [e1, ha.1], by rw [e2, ha.2]⟩
  · rename_i hlt
    rw [dif_neg hlt] at e2
    exact List.pairwise_iff_getElem.1 h.nod (fi l s i) (j + 1) hk (by omega) (by omega) ⟨by rw [e1, ha.1], by rw [e2, ha.2]⟩
theorem rm_ok {l : List Pt} (h : Ok l) (s i c : Int) : Ok (rm l s i c) := by unfold rm; split; exact ok_erase h _; exact h
theorem rm_mem {l : List Pt} {s i c : Int} {x : Pt} (h : x ∈ rm l s i c) : x ∈ l := by
  unfold rm at h
  split at h
  · exact List.mem_of_mem_eraseIdx h
  · exact h
theorem rm_none {l : List Pt} {s i c : Int} (h : has l s i = false) : rm l s i c = l := by
  unfold rm
  split
  · rw [fi_none h, List.eraseIdx_of_length_le (Nat.le_refl _)]
  · rfl
/-- The piece's place is free of the key. -/
theorem rm_has {l : List Pt} (h : Ok l) {s i c : Int} (hn : ¬ (fi l s i < l.length ∧ (l.getD (fi l s i) at0).c = c)) : has (rm l s i c) s i = false := by
  by_cases hk : fi l s i < l.length
  · have hc : (l.getD (fi l s i) at0).c ≠ c := fun e => hn ⟨hk, e⟩
    unfold rm
    rw [if_pos hc]
    exact has_erase h hk
  · have : has l s i = false := by
      cases e : has l s i with
      | false => rfl
      | true => exact absurd (fi_has.1 e) hk
    rw [rm_none this]
    exact this
def room (o : List Pt) : List Pt := if o.length = 8 then o.eraseIdx 0 else o
theorem room_ok {l : List Pt} (h : Ok l) : Ok (room l) ∧ (room l).length ≤ 7 := by
  unfold room
  have hl := h.len
  split
  · rename_i e
    exact ⟨ok_erase h 0, by rw [List.length_eraseIdx, if_pos (by omega)]; omega⟩
  · exact ⟨h, by omega⟩
theorem room_mem {l : List Pt} {x : Pt} (h : x ∈ room l) : x ∈ l := by
  unfold room at h
  split at h
  · exact List.mem_of_mem_eraseIdx h
  · exact h
theorem room_has {l : List Pt} {s i : Int} (h : has l s i = false) : has (room l) s i = false := by
  rw [has_false] at h ⊢
  exact fun x hx => h x (room_mem hx)
theorem room_self {l : List Pt} (h : l.length ≤ 7) : room l = l := by unfold room; rw [if_neg (by omega)]
theorem add_new_is {l : List Pt} {s now : Int} {p : ByteArray} (h0 : chk p = 0) (h1 : bt p 2 ≠ 1) (h2 : ¬ (fi (ord l) s (bt p 0) < (ord l).length ∧ ((ord l).getD (fi (ord l) s (bt p 0)) at0).c = bt p 2)) :
    add l s now p = put (room (rm (ord l) s (bt p 0) (bt p 2)) ++ [nw s (bt p 0) (bt p 2) now]) (room (rm (ord l) s (bt p 0) (bt p 2))).length (bt p 1).toNat (dta p) := by
  unfold add
  rw [if_neg (by simpa using h0), if_neg h1, if_neg h2]
  rfl
theorem nT_set (h : List Bool) (j : Nat) (hj : j < h.length) (e : h.getD j false = false) : nT (h.set j true) = nT h + 1 := by
  induction h generalizing j with
  | nil => simp at hj
  | cons b h ih =>
    cases j with
    | zero =>
      have : b = false := by simpa using e
      subst this
      unfold nT
      rw [List.set_cons_zero, List.filter_cons_of_pos rfl, List.filter_cons_of_neg (by simp)]
      rfl
    | succ j =>
      have := ih j (by simpa using hj) (by simpa using e)
      unfold nT at *
      rw [List.set_cons_succ]
      cases b with
      | true => rw [List.filter_cons_of_pos rfl, List.filter_cons_of_pos rfl, List.length_cons, List.length_cons, this]
      | false => rw [List.filter_cons_of_neg (by simp), List.filter_cons_of_neg (by simp), this]
theorem nT_rep (n : Nat) : nT (List.replicate n false) = 0 := by unfold nT; rw [List.filter_replicate]; simp
theorem full_iff (x : Pt) : full x = true ↔ nT x.h = x.h.length := by
  unfold full
  rw [List.all_eq_true, nT_all]
  simp
theorem slot_upd {x : Pt} {c : Int} {j : Nat} {b : ByteArray} (hd : x.d.length = x.h.length) (hs : ∀ k, k < x.h.length → Slot c x.h x.d k) (hb : Sz j c b.size) (hj : j < x.h.length) : ∀ k, k < (upd x j b).h.length → Slot c (upd x j b).h (upd x j b).d k := by
  intro k hk
  have hk' : k < x.h.length := by simpa [upd] using hk
  unfold Slot dat upd
  simp only
  by_cases e : j = k
  · subst e
    rw [List.getD_eq_getElem?_getD, List.getElem?_set_self (by simpa using hj), List.getD_eq_getElem?_getD, List.getElem?_set_self (by omega)]
    simpa using hb
  · rw [List.getD_eq_getElem?_getD, List.getElem?_set_ne e, List.getD_eq_getElem?_getD (l := x.d.set j b), List.getElem?_set_ne e]
    have := hs k hk'
    unfold Slot dat at this
    rw [List.getD_eq_getElem?_getD, List.getD_eq_getElem?_getD] at this
    exact this
theorem put_ok {o : List Pt} {k j : Nat} {b : ByteArray} (h : Ok (o.take k)) (hh : ∀ x, Valid x → x.s = (o.getD k at0).s → x.i = (o.getD k at0).i → Ok (o.set k x)) (he : Ok (o.eraseIdx k)) (hg : (o.getD k at0).h.getD j false = true → Ok o)
    (hr : Rngs (o.getD k at0)) (hs : ∀ m, m < (o.getD k at0).h.length → Slot (o.getD k at0).c (o.getD k at0).h (o.getD k at0).d m) (hb : Sz j (o.getD k at0).c b.size) (hj : (j : Int) < (o.getD k at0).c) : Ok (put o k j b).1 := by
  unfold put
  split
  · rename_i e; exact hg e
  · rename_i e
    have e' : (o.getD k at0).h.getD j false = false := by simpa using e
    obtain ⟨r1, r2, r3, r4, r5⟩ := hr
    split
    · exact he
    · rename_i hf
      refine hh _ ⟨r1, r2, r3, by simpa [upd] using r4, by simpa [upd] using r5, slot_upd (by omega) hs hb (by omega), ?_, ?_⟩ rfl rfl
      · show 0 < nT ((o.getD k at0).h.set j true)
        rw [nT_set _ _ (by omega) e']; omega
      · have h1 : ¬ nT (upd (o.getD k at0) j b).h = (upd (o.getD k at0) j b).h.length := fun q => hf ((full_iff _).2 q)
        have h2 := nT_le (upd (o.getD k at0) j b).h
        have h3 : (upd (o.getD k at0) j b).h.length = (o.getD k at0).h.length := by simp [upd]
        show (nT (upd (o.getD k at0) j b).h : Int) < (o.getD k at0).c
        omega
theorem nw_rngs {s i c now : Int} (hi : 0 ≤ i ∧ i ≤ 255) (hc : 2 ≤ c ∧ c ≤ 16) : Rngs (nw s i c now) :=
  ⟨hi, hc, tick_in now, by simp [nw]; omega, by simp [nw]; omega⟩
theorem nw_slot {s i c now : Int} : ∀ m, m < (nw s i c now).h.length → Slot (nw s i c now).c (nw s i c now).h (nw s i c now).d m := by
  intro m hm
  have hm' : m < c.toNat := by simpa [nw] using hm
  unfold Slot dat nw
  simp [List.getD, hm', ByteArray.size]
/-- FragBounds: the list stays in order. -/
theorem add_ok {l : List Pt} {s now : Int} {p : ByteArray} (h0 : chk p = 0) : Ok (add l s now p).1 := by
  obtain ⟨h3, ⟨f1, f2⟩, f3, f4⟩ := chk_zero h0
  have hO := ord_ok l
  have hb := bt_in p 0
  have h1' := bt_in p 1
  have hsz : Sz (((bt p 1).toNat : Nat) : Int) (bt p 2) ((dta p).size : Int) := by
    rw [dta_size, show (((bt p 1).toNat : Nat) : Int) = bt p 1 by omega, show ((p.size - 3 : Nat) : Int) = (p.size : Int) - 3 by omega]
    exact f4
  by_cases h1 : bt p 2 = 1
  · unfold add
    rw [if_neg (by simpa using h0), if_pos h1]
    exact rm_ok hO _ _ _
  by_cases h2 : fi (ord l) s (bt p 0) < (ord l).length ∧ ((ord l).getD (fi (ord l) s (bt p 0)) at0).c = bt p 2
  · unfold add
    rw [if_neg (by simpa using h0), if_neg h1, if_pos h2]
    have hx := valid_of_mem hO _ h2.1
    rw [← getD_at _ _ h2.1] at hx
    refine put_ok ⟨fun x hx => hO.val x (List.mem_of_mem_take hx), hO.nod.sublist (List.take_sublist _ _), by rw [List.length_take]; have := hO.len; omega⟩ (fun x hv e1 e2 => ok_set hO _ h2.1 x hv (by rw [← getD_at _ _ h2.1]; exact ⟨e1, e2⟩)) (ok_erase hO _) (fun _ => hO) ((valid_iff _).1 hx).1 hx.sl (by rw [h2.2]; exact hsz) (by rw [h2.2]; omega)
  · rw [add_new_is h0 h1 h2]
    have hR := room_ok (rm_ok hO s (bt p 0) (bt p 2))
    have hH := room_has (rm_has hO h2)
    generalize room (rm (ord l) s (bt p 0) (bt p 2)) = o at *
    have eG := getD_end o (nw s (bt p 0) (bt p 2) now)
    refine put_ok (by simpa using hR.1) (fun x hv e1 e2 => ?_) (by simpa [List.eraseIdx_append_of_length_le] using hR.1) (fun e => ?_) (by rw [eG]; exact nw_rngs hb (by omega)) (by rw [eG]; exact nw_slot) (by rw [eG]; exact hsz) (by rw [eG]; show _ < bt p 2; omega)
    · rw [eG] at e1 e2
      have : (o ++ [nw s (bt p 0) (bt p 2) now]).set o.length x = o ++ [x] := by simp
      rw [this]
      exact ok_push hR.1 hR.2 x hv (by rw [e1, e2]; exact hH)
    · rw [eG] at e
      simp [nw, List.getD] at e
      by_cases q : (bt p 1).toNat < (bt p 2).toNat
      · rw [List.getElem?_replicate, if_pos q] at e; simp at e
      · rw [List.getElem?_replicate, if_neg q] at e; simp at e
/-- Whence the ticks come. -/
theorem put_tick {o : List Pt} {k j : Nat} {b : ByteArray} (hk : k < o.length) {P : Int → Prop} (h : ∀ x ∈ o, P x.t) : ∀ x ∈ (put o k j b).1, P x.t := by
  unfold put
  split
  · exact h
  · split
    · exact fun x hx => h x (List.mem_of_mem_eraseIdx hx)
    · intro x hx
      rcases List.mem_or_eq_of_mem_set hx with hx | rfl
      · exact h x hx
      · show P (o.getD k at0).t
        rw [getD_at _ _ hk]
        exact h _ (List.getElem_mem hk)
theorem add_tick {l : List Pt} {s now : Int} {p : ByteArray} (h0 : chk p = 0) {P : Int → Prop} (hn : P (tick now)) (h : ∀ x ∈ l, P x.t) : ∀ x ∈ (add l s now p).1, P x.t := by
  by_cases h1 : bt p 2 = 1
  · unfold add
    rw [if_neg (by simpa using h0), if_pos h1]
    exact fun x hx => h x (ord_mem (rm_mem hx))
  by_cases h2 : fi (ord l) s (bt p 0) < (ord l).length ∧ ((ord l).getD (fi (ord l) s (bt p 0)) at0).c = bt p 2
  · unfold add
    rw [if_neg (by simpa using h0), if_neg h1, if_pos h2]
    exact put_tick h2.1 fun x hx => h x (ord_mem hx)
  · rw [add_new_is h0 h1 h2]
    refine put_tick (by simp) fun x hx => ?_
    rcases List.mem_append.1 hx with hx | hx
    · exact h x (ord_mem (rm_mem (room_mem hx)))
    · rw [List.mem_singleton.1 hx]; exact hn
theorem expi_none {l : List Pt} (h : Ok l) (ht : ∀ x ∈ l, x.t < 1000) : expi l 1000 0 = [] := by
  unfold expi
  rw [ord_self h, List.filter_eq_nil_iff]
  intro x hx
  have := ht x hx
  have e : tick 1000 = 1000 := rfl
  have e2 : tick 0 = 0 := rfl
  simp [Young, e, e2]
  omega
theorem expi_all {l : List Pt} (h : Ok l) : expi l 1000 1099511627776 = l := by
  unfold expi
  rw [ord_self h, List.filter_eq_self]
  intro x hx
  have := (h.val x hx).tk
  have e : tick 1000 = 1000 := rfl
  have e2 : tick 1099511627776 = 1099511627776 := rfl
  simp [Young, e, e2]
  omega

/-! A message's own entry. -/
def ent (s : ByteArray) (src id t : Int) (seen : List Bool) : Pt := ⟨src, id, cnt s.size, t, seen, (List.range (cnt s.size)).map fun k => if seen.getD k false = true then bs (part s k) else eb⟩
theorem ent_dat (s : ByteArray) (src id t : Int) (seen : List Bool) (k : Nat) (hk : k < cnt s.size) : dat (ent s src id t seen).d k = if seen.getD k false = true then bs (part s k) else eb := by
  unfold dat ent
  rw [List.getD_eq_getElem?_getD, List.getElem?_eq_getElem (by simpa using hk)]
  simp only [List.getElem_map, List.getElem_range]
  rfl
theorem ent_valid (s : ByteArray) (src id t : Int) (seen : List Bool) (hs : s.size ≤ 1000) (hi : 0 ≤ id ∧ id ≤ 255) (ht : 0 ≤ t ∧ t ≤ 1099511627776) (hl : seen.length = cnt s.size) (h0 : 0 < nT seen) (h1 : nT seen < cnt s.size) : Valid (ent s src id t seen) := by
  have hc := cnt_le hs
  refine ⟨hi, ⟨by show (2 : Int) ≤ (cnt s.size : Nat); omega, by show ((cnt s.size : Nat) : Int) ≤ 16; omega⟩, ht, by show (seen.length : Int) = _; rw [hl]; rfl, by simp [ent], fun k hk => ?_, h0, by show (nT seen : Int) < (cnt s.size : Nat); omega⟩
  have hk' : k < cnt s.size := by rw [← hl]; exact hk
  unfold Slot
  rw [ent_dat s src id t seen k hk']
  show if seen.getD k false = true then _ else _
  by_cases e : seen.getD k false = true
  · rw [if_pos e, if_pos e, bs_size]
    exact piece_sz s k hs hk'
  · rw [if_neg e, if_neg e]
    rfl
theorem upd_ent (s : ByteArray) (src id t : Int) (seen : List Bool) (k : Nat) (hl : seen.length = cnt s.size) (hk : k < cnt s.size) : upd (ent s src id t seen) k (bs (part s k)) = ent s src id t (seen.set k true) := by
  unfold upd ent
  simp only [Pt.mk.injEq, true_and]
  apply List.ext_getElem
  · simp
  · intro j h1 h2
    have hj : j < cnt s.size := by simpa using h2
    rw [List.getElem_set]
    simp only [List.getElem_map, List.getElem_range]
    by_cases e : k = j
    · subst e
      rw [if_pos rfl, if_pos (by simp [List.getD, hl, hk])]
    · rw [if_neg e]
      have : (seen.set k true).getD j false = seen.getD j false := by simp [List.getD, List.getElem?_set_ne e]
      rw [this]
theorem nw_ent (s : ByteArray) (src id now : Int) (k : Nat) (hk : k < cnt s.size) : upd (nw src id (cnt s.size : Nat) now) k (bs (part s k)) = ent s src id (tick now) ((List.replicate (cnt s.size) false).set k true) := by
  rw [← upd_ent s src id (tick now) (List.replicate (cnt s.size) false) k (by simp) hk]
  congr 1
  unfold nw ent
  simp only [Pt.mk.injEq, true_and, Int.toNat_natCast]
  apply List.ext_getElem
  · simp
  · intro j h1 h2
    have hj : j < cnt s.size := by simpa using h2
    simp [List.getD, hj]
theorem ent_join (s : ByteArray) (src id t : Int) (seen : List Bool) (hl : seen.length = cnt s.size) (hf : nT seen = seen.length) : jn (ent s src id t seen).d = s := by
  have h := nT_all.1 hf
  conv => rhs; rw [← jn_parts s]
  unfold ent
  congr 1
  apply List.map_congr_left
  intro k hk
  have hk' : k < seen.length := by rw [hl]; simpa using hk
  rw [if_pos (by simp only [List.getD, List.getElem?_eq_getElem hk']; exact h _ (List.getElem_mem hk'))]
/-- One more piece of a message whose entry stands behind X. -/
theorem add_step (s : ByteArray) (src id t now : Int) (seen : List Bool) (k : Nat) (X Y : List Pt) (hs : s.size ≤ 1000) (hi : 0 ≤ id ∧ id ≤ 255) (hl : seen.length = cnt s.size) (hk : k < cnt s.size) (h2 : 2 ≤ cnt s.size) (hO : Ok (X ++ ent s src id t seen :: Y)) :
    add (X ++ ent s src id t seen :: Y) src now (piece s id k) =
      if seen.getD k false = true then (X ++ ent s src id t seen :: Y, eb, false, 0)
      else if nT seen + 1 = cnt s.size then (X ++ Y, s, true, 0) else (X ++ ent s src id t (seen.set k true) :: Y, eb, false, 0) := by
  have hc := cnt_le hs
  have hX : has X src id = false := has_false.2 fun x hx => by
    have := (List.pairwise_append.1 hO.nod).2.2 x hx (ent s src id t seen) List.mem_cons_self
    exact this
  have hf : fi (X ++ ent s src id t seen :: Y) src id = X.length := by
    unfold fi
    rw [List.findIdx_append]
    have e : X.findIdx (key src id) = X.length := fi_none hX
    rw [if_neg (by rw [e]; omega), List.findIdx_cons]
    have : key src id (ent s src id t seen) = true := key_iff.2 ⟨rfl, rfl⟩
    rw [this]
    simp
  have hg : (X ++ ent s src id t seen :: Y).getD X.length at0 = ent s src id t seen := by simp [List.getD]
  have b0 := piece_0 s id k hi
  have b1 := piece_1 s id k (by omega)
  have b2 := piece_2 s id k hs
  unfold add
  rw [if_neg (by rw [piece_chk s id k hs hk]; decide), ord_self hO, b0, b1, b2, piece_dta, if_neg (by omega), hf, hg, if_pos ⟨by simp, rfl⟩]
  unfold put
  rw [hg]
  have e1 : (ent s src id t seen).h = seen := rfl
  rw [e1, Int.toNat_natCast]
  by_cases e : seen.getD k false = true
  · rw [if_pos e, if_pos e]
  · rw [if_neg e, if_neg e, upd_ent s src id t seen k hl hk]
    have hn := nT_set seen k (by omega) (by simpa using e)
    have hfu : full (ent s src id t (seen.set k true)) = true ↔ nT seen + 1 = cnt s.size := by
      rw [full_iff]
      show nT (seen.set k true) = (seen.set k true).length ↔ _
      rw [hn, List.length_set, hl]
    by_cases e2 : nT seen + 1 = cnt s.size
    · rw [if_pos (hfu.2 e2), if_pos e2, ent_join s src id t _ (by rw [List.length_set]; exact hl) (by rw [hn, List.length_set]; omega)]
      simp [List.eraseIdx_append_of_length_le]
    · rw [if_neg (fun q => e2 (hfu.1 q)), if_neg e2]
      simp
theorem add_first (s : ByteArray) (src id now : Int) (k : Nat) (l : List Pt) (hs : s.size ≤ 1000) (hi : 0 ≤ id ∧ id ≤ 255) (hk : k < cnt s.size) (h2 : 2 ≤ cnt s.size) (hO : Ok l) (hl : l.length ≤ 7) (hh : has l src id = false) :
    add l src now (piece s id k) = (l ++ [ent s src id (tick now) ((List.replicate (cnt s.size) false).set k true)], eb, false, 0) := by
  have hc := cnt_le hs
  have b0 := piece_0 s id k hi
  have b1 := piece_1 s id k (by omega)
  have b2 := piece_2 s id k hs
  rw [add_new_is (piece_chk s id k hs hk) (by rw [b2]; omega) (by rw [ord_self hO, b0, fi_none hh]; exact fun q => absurd q.1 (Nat.lt_irrefl _)), ord_self hO, b0, b1, b2, piece_dta, rm_none hh, room_self hl]
  unfold put
  rw [getD_end, Int.toNat_natCast]
  have e : ¬ (nw src id (cnt s.size : Nat) now).h.getD k false = true := by simp [nw, List.getD, hk]
  rw [if_neg e, nw_ent s src id now k hk]
  have hn := nT_set (List.replicate (cnt s.size) false) k (by simpa using hk) (by simp [List.getD, hk])
  rw [nT_rep] at hn
  have e2 : ¬ full (ent s src id (tick now) ((List.replicate (cnt s.size) false).set k true)) = true := by
    rw [full_iff]
    show ¬ nT ((List.replicate (cnt s.size) false).set k true) = ((List.replicate (cnt s.size) false).set k true).length
    rw [hn, List.length_set, List.length_replicate]
    omega
  rw [if_neg e2]
  simp
theorem add_alone (s : ByteArray) (src id now : Int) (l : List Pt) (hs : s.size ≤ 1000) (hi : 0 ≤ id ∧ id ≤ 255) (h1 : cnt s.size = 1) (hO : Ok l) (hh : has l src id = false) : add l src now (piece s id 0) = (l, s, true, 0) := by
  have b0 := piece_0 s id 0 hi
  have b2 := piece_2 s id 0 hs
  have hj := jn_parts s
  rw [h1] at hj
  have e : jn ((List.range 1).map fun k => bs (part s k)) = bs (part s 0) := by
    unfold jn
    show bs ((bs (part s 0)).data.toList ++ []) = _
    rw [bs_data, List.append_nil]
  have hj : bs (part s 0) = s := e.symm.trans hj
  clear e
  unfold add
  rw [if_neg (by rw [piece_chk s id 0 hs (by omega)]; decide), ord_self hO, b0, b2, piece_dta, if_pos (by omega), rm_none hh, hj]
end Go.Proofs.Ytljcjflbfjleoaa.Frg
