/- Layer 13's mathematics: mailboxes. -/
set_option linter.unusedVariables false
namespace Go.Proofs.Ytpfmfnogckeneaa.Mbx

/-- A frame. -/
structure Fm where
  k : Int
  f : Int
  t : Int
  s : Int
  g : Int
  q : Int
  h : Int
  u : Bool
  d : ByteArray
/-- A mail: the frame and the tick at which it was put. -/
abbrev Ml := Fm × Int
/-- A tick as it counts. -/
def lim (n : Int) : Int := if n < 0 then 0 else if 1099511627776 < n then 1099511627776 else n
theorem lim_in (n : Int) : 0 ≤ lim n ∧ lim n ≤ 1099511627776 := by unfold lim; split <;> (try split) <;> omega
theorem lim_id {n : Int} (h : 0 ≤ n) (h2 : n ≤ 1099511627776) : lim n = n := by unfold lim; rw [if_neg (by omega), if_neg (by omega)]

/-- Whether a mail has not expired. -/
def Liv (now life : Int) (x : Ml) : Prop := lim now - lim x.2 ≤ lim life
instance (now life : Int) (x : Ml) : Decidable (Liv now life x) := inferInstanceAs (Decidable (_ ≤ _))
def expi (l : List Ml) (now life : Int) : List Ml := (l.take 16).filter fun x => decide (Liv now life x)
def cnt (l : List Ml) (to : Int) : Nat := ((l.take 16).filter fun x => decide (x.1.t = to)).length
/-- The first mail for a node taken out of a list: the frame, the rest. -/
def pull (to : Int) : List Ml → Option (Fm × List Ml)
  | [] => none
  | x :: r => if x.1.t = to then some (x.1, r) else (pull to r).map fun y => (y.1, x :: y.2)
def zf : Fm := ⟨0, 0, 0, 0, 0, 0, 0, false, ByteArray.empty⟩
def take (l : List Ml) (to now life : Int) : Fm × List Ml × Bool := match pull to (expi l now life) with
  | some y => (y.1, y.2, true)
  | none => (zf, expi l now life, false)
theorem expi_len (l : List Ml) (now life : Int) : (expi l now life).length ≤ 16 := by
  have h := List.length_filter_le (fun x => decide (Liv now life x)) (l.take 16)
  unfold expi
  rw [List.length_take] at h
  omega
theorem expi_twice (l : List Ml) (now life : Int) : expi (expi l now life) now life = expi l now life := by
  have h := expi_len l now life
  show ((expi l now life).take 16).filter _ = _
  rw [List.take_of_length_le h]
  unfold expi
  rw [List.filter_filter]
  congr 1
  funext x
  simp
theorem pull_none {to : Int} : ∀ {l : List Ml}, pull to l = none → ∀ x ∈ l, x.1.t ≠ to
  | [], _, x, h => by cases h
  | y :: r, h, x, hx => by
    unfold pull at h
    split at h
    · cases h
    · rename_i hy
      rcases List.mem_cons.1 hx with rfl | hx
      · exact hy
      · exact pull_none (by simpa using h) x hx
/-- Where the first mail for a node stands. -/
theorem pull_at {to : Int} : ∀ (l : List Ml) (i : Nat) (hi : i < l.length), l[i].1.t = to → (∀ j (hj : j < l.length), j < i → l[j].1.t ≠ to) → pull to l = some (l[i].1, l.eraseIdx i)
  | x :: r, 0, _, h, _ => by unfold pull; rw [if_pos (by simpa using h)]; rfl
  | x :: r, i + 1, hi, h, hn => by
    have h0 : x.1.t ≠ to := hn 0 (by simp) (by omega)
    have := pull_at r i (by simpa using hi) (by simpa using h) fun j hj hji => by
      have := hn (j + 1) (by simpa using hj) (by omega)
      simpa using this
    unfold pull
    rw [if_neg h0, this]
    rfl
theorem pull_no {to : Int} : ∀ (l : List Ml), (∀ j (hj : j < l.length), l[j].1.t ≠ to) → pull to l = none
  | [], _ => rfl
  | x :: r, h => by
    have h0 : x.1.t ≠ to := h 0 (by simp)
    unfold pull
    rw [if_neg h0, pull_no r fun j hj => by have := h (j + 1) (by simpa using hj); simpa using this]
    rfl
theorem pull_some {to : Int} : ∀ {l : List Ml} {y : Fm × List Ml}, pull to l = some y → l.length = y.2.length + 1 ∧ (l.filter fun x => decide (x.1.t = to)).length = (y.2.filter fun x => decide (x.1.t = to)).length + 1 ∧ y.1.t = to
  | [], y, h => by cases h
  | x :: r, y, h => by
    unfold pull at h
    split at h
    · rename_i hx
      obtain rfl : (x.1, r) = y := by simpa using h
      refine ⟨rfl, ?_, hx⟩
      rw [List.filter_cons_of_pos (by simpa using hx)]
      rfl
    · rename_i hx
      cases hp : pull to r with
      | none => rw [hp] at h; cases h
      | some z =>
        rw [hp] at h
        obtain rfl : (z.1, x :: z.2) = y := by simpa using h
        obtain ⟨h1, h2, h3⟩ := pull_some hp
        refine ⟨by simp only [List.length_cons]; omega, ?_, h3⟩
        rw [List.filter_cons_of_neg (by simpa using hx), List.filter_cons_of_neg (by simpa using hx)]
        exact h2
/-- MailboxConserves. -/
theorem take_conserves (l : List Ml) (to now life : Int) :
    ((take l to now life).2.2 = true ∧ 0 < cnt (expi l now life) to ∧ (take l to now life).2.1.length + 1 = (expi l now life).length ∧ cnt (take l to now life).2.1 to + 1 = cnt (expi l now life) to) ∨
    ((take l to now life).2.2 = false ∧ cnt (expi l now life) to = 0 ∧ (take l to now life).2.1 = expi l now life) := by
  have hl := expi_len l now life
  have hc : ∀ m : List Ml, m.length ≤ 16 → cnt m to = (m.filter fun x => decide (x.1.t = to)).length := fun m hm => by unfold cnt; rw [List.take_of_length_le hm]
  cases hp : pull to (expi l now life) with
  | none =>
    right
    unfold take
    rw [hp]
    refine ⟨rfl, ?_, rfl⟩
    rw [hc _ hl, List.length_eq_zero_iff, List.filter_eq_nil_iff]
    intro x hx
    have := pull_none hp x hx
    simpa using this
  | some y =>
    left
    obtain ⟨h1, h2, _⟩ := pull_some hp
    unfold take
    rw [hp]
    dsimp only
    rw [hc _ hl, hc y.2 (by omega)]
    exact ⟨rfl, by omega, by omega, by omega⟩

/-! Putting. -/
/-- The last mail that is not urgent removed. -/
def rmL : List Ml → List Ml
  | [] => []
  | x :: r => if ∀ y ∈ r, y.1.u = true then (if x.1.u = true then x :: r else r) else x :: rmL r
/-- An urgent mail ahead of the first one that is not urgent. -/
def insU (x : Ml) : List Ml → List Ml
  | [] => [x]
  | y :: r => if y.1.u = true then y :: insU x r else x :: y :: r
def ins (x : Ml) (m : List Ml) : List Ml := if x.1.u = true then insU x m else m ++ [x]
def Full (m : List Ml) (f : Fm) : Prop := m.length = 16 ∧ (f.u = false ∨ ∀ x ∈ m, x.1.u = true)
instance (m : List Ml) (f : Fm) : Decidable (Full m f) := inferInstanceAs (Decidable (_ ∧ _))
def put (l : List Ml) (f : Fm) (now : Int) : List Ml × Bool :=
  if Full (l.take 16) f then (l.take 16, false)
  else (ins (f, lim now) (if (l.take 16).length = 16 then rmL (l.take 16) else l.take 16), true)
theorem rmL_all : ∀ {m : List Ml}, (∀ x ∈ m, x.1.u = true) → rmL m = m
  | [], _ => rfl
  | x :: r, h => by unfold rmL; rw [if_pos fun y hy => h y (List.mem_cons_of_mem _ hy), if_pos (h x List.mem_cons_self)]
/-- The last one that is not urgent stands at i. -/
theorem rmL_at : ∀ (m : List Ml) (i : Nat) (hi : i < m.length), m[i].1.u = false → (∀ j (hj : j < m.length), i < j → m[j].1.u = true) → rmL m = m.eraseIdx i
  | x :: r, 0, _, h, hn => by
    have h1 : ∀ y ∈ r, y.1.u = true := fun y hy => by
      obtain ⟨j, hj, rfl⟩ := List.getElem_of_mem hy
      have := hn (j + 1) (by simpa using hj) (by omega)
      simpa using this
    unfold rmL
    rw [if_pos h1, if_neg (by simpa using h)]
    rfl
  | x :: r, i + 1, hi, h, hn => by
    have hi' : i < r.length := by simpa using hi
    have h' : (r[i]).1.u = false := by simpa using h
    have h1 : ¬ ∀ y ∈ r, y.1.u = true := fun hy => by rw [hy _ (List.getElem_mem hi')] at h'; cases h'
    unfold rmL
    rw [if_neg h1, rmL_at r i hi' h' fun j hj hij => by have := hn (j + 1) (by simpa using hj) (by omega); simpa using this]
    rfl
theorem rmL_sub : ∀ (m : List Ml), List.Sublist (rmL m) m
  | [] => List.Sublist.refl _
  | x :: r => by
    unfold rmL
    split
    · split
      · exact List.Sublist.refl _
      · exact List.sublist_cons_self _ _
    · exact (rmL_sub r).cons_cons x
theorem rmL_len : ∀ {m : List Ml}, (¬ ∀ x ∈ m, x.1.u = true) → (rmL m).length + 1 = m.length
  | [], h => absurd (fun x hx => by cases hx) h
  | x :: r, h => by
    unfold rmL
    split
    · rename_i h1
      split
      · rename_i h2
        exact absurd (fun y hy => by rcases List.mem_cons.1 hy with rfl | hy; exact h2; exact h1 y hy) h
      · rfl
    · rename_i h1
      have := rmL_len h1
      simp only [List.length_cons]; omega
def cu (m : List Ml) : Nat := (m.filter fun x => x.1.u).length
theorem cu_cons (x : Ml) (r : List Ml) : cu (x :: r) = (if x.1.u = true then 1 else 0) + cu r := by
  unfold cu
  by_cases h : x.1.u = true
  · rw [List.filter_cons_of_pos (p := fun x : Ml => x.1.u) h, if_pos h, List.length_cons]; omega
  · rw [List.filter_cons_of_neg (p := fun x : Ml => x.1.u) h, if_neg h]; omega
theorem cu_le (m : List Ml) : cu m ≤ m.length := List.length_filter_le _ _
theorem cu_all {m : List Ml} : cu m = m.length ↔ ∀ x ∈ m, x.1.u = true := by
  unfold cu
  rw [List.length_filter_eq_length_iff]
theorem cu_rmL : ∀ (m : List Ml), cu (rmL m) = cu m
  | [] => rfl
  | x :: r => by
    unfold rmL
    split
    · split
      · rfl
      · rename_i h; rw [cu_cons, if_neg h]; omega
    · rw [cu_cons, cu_cons, cu_rmL r]
theorem cu_insU (x : Ml) (hx : x.1.u = true) : ∀ (m : List Ml), cu (insU x m) = cu m + 1
  | [] => by unfold insU; rw [cu_cons, if_pos hx]; unfold cu; rfl
  | y :: r => by
    unfold insU
    split
    · rw [cu_cons, cu_cons, cu_insU x hx r]; omega
    · rw [cu_cons x, if_pos hx]; omega
/-- Where the first mail that is not urgent stands. -/
theorem insU_at (x : Ml) : ∀ (m : List Ml) (i : Nat), i ≤ m.length → (∀ (h : i < m.length), m[i].1.u = false) → (∀ j (hj : j < m.length), j < i → m[j].1.u = true) → insU x m = m.take i ++ x :: m.drop i
  | [], i, hi, _, _ => by
    obtain rfl : i = 0 := by simpa using hi
    rfl
  | y :: r, 0, _, h, _ => by
    have := h (by simp)
    unfold insU
    rw [if_neg (by simpa using this)]
    rfl
  | y :: r, i + 1, hi, h, hn => by
    have h0 := hn 0 (by simp) (by omega)
    unfold insU
    rw [if_pos (by simpa using h0), insU_at x r i (by simpa using hi) (fun hh => by have := h (by simpa using hh); simpa using this) fun j hj hji => by have := hn (j + 1) (by simpa using hj) (by omega); simpa using this]
    rfl
theorem insU_len (x : Ml) : ∀ (m : List Ml), (insU x m).length = m.length + 1
  | [] => rfl
  | y :: r => by
    unfold insU
    split
    · rw [List.length_cons, insU_len x r]; rfl
    · rfl
theorem ins_len (x : Ml) (m : List Ml) : (ins x m).length = m.length + 1 := by
  unfold ins
  split
  · exact insU_len x m
  · simp
theorem put_len (l : List Ml) (f : Fm) (now : Int) : (put l f now).1.length ≤ 16 := by
  have h16 : (l.take 16).length ≤ 16 := by rw [List.length_take]; omega
  unfold put
  split
  · exact h16
  · rename_i h
    dsimp only
    rw [ins_len]
    split
    · rename_i hl
      have := rmL_len (m := l.take 16) fun ha => h ⟨hl, Or.inr ha⟩
      omega
    · omega
/-- MailboxUrgent. -/
theorem put_urgent (l : List Ml) (f : Fm) (now : Int) (hl : l.length ≤ 16) (hf : f.u = true) : (cu l = 16 → put l f now = (l, false)) ∧ (cu l ≠ 16 → (put l f now).2 = true ∧ cu (put l f now).1 = cu l + 1) := by
  have ht : l.take 16 = l := List.take_of_length_le hl
  have hc := cu_le l
  have key : Full (l.take 16) f ↔ cu l = 16 := by
    rw [ht]
    constructor
    · rintro ⟨h1, h2 | h2⟩
      · rw [hf] at h2; cases h2
      · rw [cu_all.2 h2, h1]
    · intro h
      have h1 : l.length = 16 := by omega
      exact ⟨h1, Or.inr (cu_all.1 (by omega))⟩
  constructor
  · intro h
    unfold put
    rw [if_pos (key.2 h), ht]
  · intro h
    unfold put
    rw [if_neg fun hh => h (key.1 hh), ht]
    refine ⟨rfl, ?_⟩
    dsimp only
    unfold ins
    rw [if_pos hf, cu_insU _ hf]
    split
    · rw [cu_rmL]
    · rfl

/-! MailboxOrders: what was put, in order. -/
/-- Of two mails in their order: urgent ones first, and those of the same urgency as they came. -/
def Ord (x y : Ml) : Prop := (y.1.u = true → x.1.u = true) ∧ (x.1.u = y.1.u → x.2 < y.2)
structure Good (l : List Fm) (k : Nat) (m : List Ml) : Prop where
  len : m.length ≤ 16
  ord : m.Pairwise Ord
  put : ∀ x ∈ m, 0 ≤ x.2 ∧ x.2 < k ∧ l[x.2.toNat]? = some x.1
theorem good_nil (l : List Fm) : Good l 0 [] := ⟨by simp, List.Pairwise.nil, fun x hx => by cases hx⟩
theorem insU_mem (x y : Ml) : ∀ (m : List Ml), y ∈ insU x m → y = x ∨ y ∈ m
  | [], h => by unfold insU at h; exact Or.inl (by simpa using h)
  | z :: r, h => by
    unfold insU at h
    split at h
    · rcases List.mem_cons.1 h with rfl | h
      · exact Or.inr List.mem_cons_self
      · exact (insU_mem x y r h).imp id fun h => List.mem_cons_of_mem _ h
    · exact List.mem_cons.1 h
theorem insU_ord (x : Ml) (hx : x.1.u = true) : ∀ (m : List Ml), m.Pairwise Ord → (∀ y ∈ m, y.2 < x.2) → (insU x m).Pairwise Ord
  | [], _, _ => by unfold insU; exact List.pairwise_singleton _ _
  | y :: r, h, hs => by
    have h1 := List.pairwise_cons.1 h
    unfold insU
    split
    · rename_i hy
      refine List.pairwise_cons.2 ⟨fun z hz => ?_, insU_ord x hx r h1.2 fun z hz => hs z (List.mem_cons_of_mem _ hz)⟩
      rcases insU_mem x z r hz with rfl | hz
      · exact ⟨fun _ => hy, fun _ => hs y List.mem_cons_self⟩
      · exact h1.1 z hz
    · rename_i hy
      refine List.pairwise_cons.2 ⟨fun z hz => ⟨fun _ => hx, fun e => ?_⟩, h⟩
      rcases List.mem_cons.1 hz with rfl | hz
      · exact absurd (e.symm.trans hx) hy
      · exact absurd ((h1.1 z hz).1 (e.symm.trans hx)) hy
theorem ins_ord (x : Ml) (m : List Ml) (h : m.Pairwise Ord) (hs : ∀ y ∈ m, y.2 < x.2) : (ins x m).Pairwise Ord := by
  unfold ins
  split
  · rename_i hx; exact insU_ord x hx m h hs
  · rename_i hx
    refine List.pairwise_append.2 ⟨h, List.pairwise_singleton _ _, fun y hy z hz => ?_⟩
    rw [List.mem_singleton] at hz
    subst hz
    exact ⟨fun e => absurd e hx, fun _ => hs y hy⟩
theorem ins_mem (x y : Ml) (m : List Ml) (h : y ∈ ins x m) : y = x ∨ y ∈ m := by
  unfold ins at h
  split at h
  · exact insU_mem x y m h
  · rcases List.mem_append.1 h with h | h
    · exact Or.inr h
    · exact Or.inl (by simpa using h)
theorem good_put {l : List Fm} {k : Nat} {m : List Ml} (h : Good l k m) (hk : k < l.length) (hk2 : k ≤ 1000000) : Good l (k + 1) (put m l[k] k).1 := by
  have ht : m.take 16 = m := List.take_of_length_le h.len
  have hlen := put_len m l[k] k
  have mono : ∀ x ∈ m, 0 ≤ x.2 ∧ x.2 < (k + 1 : Nat) ∧ l[x.2.toNat]? = some x.1 := fun x hx => by
    obtain ⟨h1, h2, h3⟩ := h.put x hx
    exact ⟨h1, by omega, h3⟩
  refine ⟨hlen, ?_, ?_⟩
  · unfold put
    rw [ht]
    split
    · exact h.ord
    · refine ins_ord _ _ ?_ fun y hy => ?_
      · split
        · exact h.ord.sublist (rmL_sub m)
        · exact h.ord
      · have hy' : y ∈ m := by
          split at hy
          · exact (rmL_sub m).subset hy
          · exact hy
        rw [lim_id (by omega) (by omega)]
        exact (h.put y hy').2.1
  · intro x hx
    unfold put at hx
    rw [ht] at hx
    split at hx
    · exact mono x hx
    · rcases ins_mem _ x _ hx with rfl | hx
      · dsimp only
        rw [lim_id (by omega) (by omega)]
        exact ⟨by omega, by omega, by rw [Int.toNat_natCast]; exact List.getElem?_eq_getElem hk⟩
      · split at hx
        · exact mono x ((rmL_sub m).subset hx)
        · exact mono x hx
/-- What the law looks at: the neighbors. -/
theorem good_at {l : List Fm} {k : Nat} {m : List Ml} (h : Good l k m) (i : Nat) (hi : i < m.length) : 0 ≤ m[i].2 ∧ m[i].2 < k ∧ l[m[i].2.toNat]? = some m[i].1 := h.put _ (List.getElem_mem hi)
theorem good_two {l : List Fm} {k : Nat} {m : List Ml} (h : Good l k m) (i : Nat) (hi : i + 1 < m.length) : Ord (m[i]'(by omega)) m[i + 1] := List.pairwise_iff_getElem.1 h.ord i (i + 1) (by omega) hi (by omega)

/-! MailboxDrains. -/
/-- The frames of an urgency in their order, as mails for a node. -/
def mk (to now : Int) (f : Fm) : Ml := ({ f with t := to }, now)
def ofU (l : List Fm) (b : Bool) : List Fm := l.filter fun f => f.u == b
def box (to now : Int) (l : List Fm) : List Ml := (ofU l true).map (mk to now) ++ (ofU l false).map (mk to now)
theorem ofU_len (l : List Fm) : (ofU l true).length + (ofU l false).length = l.length := by
  induction l with
  | nil => rfl
  | cons f r ih =>
    unfold ofU at ih ⊢
    cases h : f.u
    · rw [List.filter_cons_of_neg (by simp [h]), List.filter_cons_of_pos (by simp [h])]; simp only [List.length_cons]; omega
    · rw [List.filter_cons_of_pos (by simp [h]), List.filter_cons_of_neg (by simp [h])]; simp only [List.length_cons]; omega
theorem box_len (to now : Int) (l : List Fm) : (box to now l).length = l.length := by
  unfold box
  have := ofU_len l
  simp; omega
theorem insU_box (x : Ml) : ∀ (a b : List Ml), (∀ y ∈ a, y.1.u = true) → (∀ y ∈ b, y.1.u = false) → insU x (a ++ b) = a ++ x :: b
  | [], [], _, _ => rfl
  | [], y :: r, _, h => by
    have := h y List.mem_cons_self
    show insU x (y :: r) = _
    unfold insU
    rw [if_neg (by simp [this])]
    rfl
  | y :: a, b, h, h2 => by
    show insU x (y :: (a ++ b)) = _
    unfold insU
    rw [if_pos (h y List.mem_cons_self), insU_box x a b (fun z hz => h z (List.mem_cons_of_mem _ hz)) h2]
    rfl
theorem ofU_u (to now : Int) (l : List Fm) (b : Bool) : ∀ y ∈ (ofU l b).map (mk to now), y.1.u = b := fun y hy => by
  obtain ⟨f, hf, rfl⟩ := List.mem_map.1 hy
  have := (List.mem_filter.1 hf).2
  show f.u = b
  simpa using this
/-- One frame more. -/
theorem box_put (to now : Int) (l : List Fm) (f : Fm) (hl : l.length < 16) (h0 : 0 ≤ now) (h1 : now ≤ 1099511627776) : put (box to now l) { f with t := to } now = (box to now (l ++ [f]), true) := by
  have hb := box_len to now l
  have ht : (box to now l).take 16 = box to now l := List.take_of_length_le (by omega)
  unfold put
  rw [ht, if_neg (fun h => by have := h.1; omega), if_neg (by omega), lim_id h0 h1]
  show (ins (mk to now f) (box to now l), true) = _
  congr 1
  have eu : (mk to now f).1.u = f.u := rfl
  unfold ins
  rw [eu]
  cases hu : f.u
  · rw [if_neg (by simp)]
    unfold box ofU
    rw [List.filter_append, List.filter_append, List.filter_cons_of_neg (by simp [hu]), List.filter_cons_of_pos (by simp [hu])]
    simp [mk]
  · rw [if_pos rfl]
    have e : box to now l = (ofU l true).map (mk to now) ++ (ofU l false).map (mk to now) := rfl
    rw [e, insU_box _ _ _ (ofU_u to now l true) (ofU_u to now l false)]
    unfold box ofU
    rw [List.filter_append, List.filter_append, List.filter_cons_of_pos (by simp [hu]), List.filter_cons_of_neg (by simp [hu])]
    simp [mk]
/-- The first of mails that are all for the node and have not expired is taken. -/
theorem take_first (to now life : Int) (x : Ml) (r : List Ml) (h : x.1.t = to) (hl : r.length < 16) (hv : ∀ y ∈ x :: r, Liv now life y) : take (x :: r) to now life = (x.1, r, true) := by
  have he : expi (x :: r) now life = x :: r := by
    unfold expi
    rw [List.take_of_length_le (by simp only [List.length_cons]; omega), List.filter_eq_self]
    exact fun y hy => decide_eq_true (hv y hy)
  unfold take
  rw [he]
  unfold pull
  rw [if_pos h]
/-- What is left, when in the round of an urgency the first i frames have been looked at. -/
def left (to now : Int) (l : List Fm) (b : Bool) (i : Nat) : List Ml := (ofU (l.drop i) b).map (mk to now) ++ (if b then (ofU l false).map (mk to now) else [])
theorem left_start (to now : Int) (l : List Fm) : left to now l true 0 = box to now l := rfl
theorem left_mid (to now : Int) (l : List Fm) : left to now l true l.length = left to now l false 0 := by
  unfold left
  rw [List.drop_length]
  simp [ofU]
theorem left_end (to now : Int) (l : List Fm) : left to now l false l.length = [] := by
  unfold left
  rw [List.drop_length]
  simp [ofU]
theorem ofU_drop (l : List Fm) (b : Bool) (i : Nat) (h : i < l.length) : ofU (l.drop i) b = if l[i].u = b then l[i] :: ofU (l.drop (i + 1)) b else ofU (l.drop (i + 1)) b := by
  rw [List.drop_eq_getElem_cons h]
  unfold ofU
  split
  · rename_i e; rw [List.filter_cons_of_pos (by simpa using e)]
  · rename_i e; rw [List.filter_cons_of_neg (by simpa using e)]
theorem left_skip (to now : Int) (l : List Fm) (b : Bool) (i : Nat) (h : i < l.length) (e : l[i].u ≠ b) : left to now l b (i + 1) = left to now l b i := by
  unfold left
  rw [ofU_drop l b i h, if_neg e]
theorem left_len (to now : Int) (l : List Fm) (b : Bool) (i : Nat) : (left to now l b i).length ≤ l.length := by
  have h1 := ofU_len l
  have h2 : (ofU (l.drop i) b).length ≤ (ofU l b).length := (List.Sublist.filter _ (List.drop_sublist i l)).length_le
  unfold left
  cases b
  · simp; omega
  · simp; omega
theorem left_now (to now : Int) (l : List Fm) (b : Bool) (i : Nat) : ∀ y ∈ left to now l b i, y.2 = now ∧ y.1.t = to := by
  intro y hy
  unfold left at hy
  have h : ∀ m : List Fm, y ∈ m.map (mk to now) → y.2 = now ∧ y.1.t = to := fun m hm => by
    obtain ⟨f, _, rfl⟩ := List.mem_map.1 hm
    exact ⟨rfl, rfl⟩
  rcases List.mem_append.1 hy with hy | hy
  · exact h _ hy
  · split at hy
    · exact h _ hy
    · cases hy
theorem left_take (to now : Int) (l : List Fm) (b : Bool) (i : Nat) (h : i < l.length) (hl : l.length ≤ 16) (e : l[i].u = b) : take (left to now l b i) to now 0 = ({ l[i] with t := to }, left to now l b (i + 1), true) := by
  have e1 : left to now l b i = mk to now l[i] :: left to now l b (i + 1) := by
    unfold left
    rw [ofU_drop l b i h, if_pos e]
    rfl
  have hn := left_now to now l b i
  have hlen := left_len to now l b i
  rw [e1] at hn hlen ⊢
  refine take_first to now 0 _ _ rfl (by simp only [List.length_cons] at hlen; omega) fun y hy => ?_
  unfold Liv
  rw [(hn y hy).1, Int.sub_self]
  decide
/-! The reference's two loops in Put. -/
/-- The last mail that is not urgent among the first k (-1: none). -/
def lsU (m : List Ml) : Nat → Int
  | 0 => -1
  | k + 1 => if ∃ h : k < m.length, m[k].1.u = false then (k : Int) else lsU m k
theorem lsU_yes (m : List Ml) (k : Nat) (h : k < m.length) (e : m[k].1.u = false) : lsU m (k + 1) = k := by unfold lsU; rw [if_pos ⟨h, e⟩]
theorem lsU_no (m : List Ml) (k : Nat) (h : k < m.length) (e : m[k].1.u = true) : lsU m (k + 1) = lsU m k := by
  conv => lhs; unfold lsU
  rw [if_neg]
  rintro ⟨_, e2⟩
  rw [e] at e2; cases e2
theorem lsU_is (m : List Ml) : ∀ k, k ≤ m.length → (lsU m k = -1 ∧ ∀ j (hj : j < m.length), j < k → m[j].1.u = true) ∨ ∃ (i : Nat) (hi : i < m.length), lsU m k = i ∧ i < k ∧ m[i].1.u = false ∧ ∀ j (hj : j < m.length), i < j → j < k → m[j].1.u = true
  | 0, _ => Or.inl ⟨rfl, fun j _ h => by omega⟩
  | k + 1, hk => by
    have hkl : k < m.length := hk
    cases e : m[k].1.u with
    | false => exact Or.inr ⟨k, hkl, lsU_yes m k hkl e, by omega, e, fun j _ h1 h2 => by omega⟩
    | true =>
      rw [lsU_no m k hkl e]
      have ext : ∀ {P : Nat → Prop} , (∀ j (hj : j < m.length), P j → j < k → m[j].1.u = true) → ∀ j (hj : j < m.length), P j → j < k + 1 → m[j].1.u = true := fun h j hj hp hjk => by
        by_cases he : j = k
        · subst he; exact e
        · exact h j hj hp (by omega)
      rcases lsU_is m k (by omega) with ⟨h1, h2⟩ | ⟨i, hi, h1, h2, h3, h4⟩
      · exact Or.inl ⟨h1, fun j hj hjk => ext (P := fun _ => True) (fun j hj _ h => h2 j hj h) j hj trivial hjk⟩
      · exact Or.inr ⟨i, hi, h1, by omega, h3, fun j hj hij hjk => ext (P := fun j => i < j) (fun j hj hp h => h4 j hj hp h) j hj hij hjk⟩
theorem lsU_in (m : List Ml) (k : Nat) (hk : k ≤ m.length) : -1 ≤ lsU m k ∧ lsU m k < k := by
  rcases lsU_is m k hk with ⟨h1, _⟩ | ⟨i, _, h1, h2, _⟩ <;> omega
theorem lsU_neg (m : List Ml) : lsU m m.length < 0 ↔ ∀ x ∈ m, x.1.u = true := by
  rcases lsU_is m m.length (Nat.le_refl _) with ⟨h1, h2⟩ | ⟨i, hi, h1, _, h3, _⟩
  · exact ⟨fun _ x hx => by obtain ⟨j, hj, rfl⟩ := List.getElem_of_mem hx; exact h2 j hj hj, fun _ => by omega⟩
  · exact ⟨fun h => by omega, fun h => by rw [h _ (List.getElem_mem hi)] at h3; cases h3⟩
theorem lsU_rm (m : List Ml) (h : 0 ≤ lsU m m.length) : ∃ (i : Nat), i < m.length ∧ lsU m m.length = i ∧ m.eraseIdx i = rmL m := by
  rcases lsU_is m m.length (Nat.le_refl _) with ⟨h1, _⟩ | ⟨i, hi, h1, _, h3, h4⟩
  · omega
  · exact ⟨i, hi, h1, (rmL_at m i hi h3 fun j hj hij => h4 j hj hij hj).symm⟩
/-- The first mail that is not urgent from i on: what the loop from the end down to i has found. -/
def atU (m : List Ml) : Nat → Nat
  | 0 => m.length
  | d + 1 => if ∃ h : m.length - (d + 1) < m.length, m[m.length - (d + 1)].1.u = false then m.length - (d + 1) else atU m d
theorem atU_yes (m : List Ml) (d i : Nat) (hi : i < m.length) (he : i + (d + 1) = m.length) (e : m[i].1.u = false) : atU m (d + 1) = i := by
  obtain rfl : i = m.length - (d + 1) := by omega
  unfold atU
  rw [if_pos ⟨hi, e⟩]
theorem atU_no (m : List Ml) (d i : Nat) (hi : i < m.length) (he : i + (d + 1) = m.length) (e : m[i].1.u = true) : atU m (d + 1) = atU m d := by
  obtain rfl : i = m.length - (d + 1) := by omega
  conv => lhs; unfold atU
  rw [if_neg]
  rintro ⟨_, e2⟩
  rw [e] at e2; cases e2
theorem atU_is (m : List Ml) : ∀ d, d ≤ m.length → m.length - d ≤ atU m d ∧ atU m d ≤ m.length ∧ (∀ (h : atU m d < m.length), (m[atU m d]'h).1.u = false) ∧ ∀ j (hj : j < m.length), m.length - d ≤ j → j < atU m d → m[j].1.u = true
  | 0, _ => ⟨by unfold atU; omega, by unfold atU; omega, fun h => by unfold atU at h; omega, fun j hj h1 h2 => by omega⟩
  | d + 1, hd => by
    obtain ⟨i, hi⟩ : ∃ i, i = m.length - (d + 1) := ⟨_, rfl⟩
    have hil : i < m.length := by omega
    obtain ⟨h1, h2, h3, h4⟩ := atU_is m d (by omega)
    cases e : m[i].1.u with
    | false =>
      have ea := atU_yes m d i hil (by omega) e
      refine ⟨by omega, by omega, fun h => ?_, fun j hj a b => by omega⟩
      simp only [ea]
      exact e
    | true =>
      have ea := atU_no m d i hil (by omega) e
      simp only [ea]
      refine ⟨by omega, h2, h3, fun j hj a b => ?_⟩
      by_cases he : j = i
      · subst he; exact e
      · exact h4 j hj (by omega) b
theorem atU_ins (x : Ml) (m : List Ml) : atU m m.length ≤ m.length ∧ insU x m = m.take (atU m m.length) ++ x :: m.drop (atU m m.length) := by
  obtain ⟨_, h2, h3, h4⟩ := atU_is m m.length (Nat.le_refl _)
  exact ⟨h2, insU_at x m _ h2 h3 fun j hj h => h4 j hj (by omega) h⟩
end Go.Proofs.Ytpfmfnogckeneaa.Mbx
