/- Plain mathematics of names, quoted forms and the parts of a line; no program in sight. -/
import Derived.WalkKit
import Derived.Lib.Strings
import Derived.Laws.RangeAny
set_option linter.unusedVariables false
namespace Go.Proofs.YtmildkjkppnblaaDoor
open Go.RowKit

/-- A byte that is its own form. -/
def pl (c : UInt8) : Bool := decide (32 ≤ c.toNat ∧ c.toNat ≤ 126 ∧ c.toNat ≠ 34 ∧ c.toNat ≠ 92)
/-- A hexadecimal digit. -/
def hx (n : Nat) : UInt8 := UInt8.ofNat (if n < 10 then 48 + n else 87 + n)
/-- The value of a hexadecimal digit; 16 if it is none. -/
def hv (c : UInt8) : Nat := if 48 ≤ c.toNat ∧ c.toNat ≤ 57 then c.toNat - 48 else if 97 ≤ c.toNat ∧ c.toNat ≤ 102 then c.toNat - 87 else 16
/-- The form of a byte. -/
def fm (c : UInt8) : List UInt8 :=
  if c.toNat = 34 ∨ c.toNat = 92 then [92, c] else if c.toNat < 32 ∨ 126 < c.toNat then [92, 120, hx (c.toNat / 16), hx (c.toNat % 16)] else [c]
/-- The forms of these bytes. -/
def qb (l : List UInt8) : List UInt8 := l.flatMap fm
/-- The quoted form. -/
def quo (l : List UInt8) : List UInt8 := 34 :: (qb l ++ [34])
theorem qb_nil : qb [] = [] := rfl
theorem qb_cons (c : UInt8) (l : List UInt8) : qb (c :: l) = fm c ++ qb l := rfl
theorem qb_append (a b : List UInt8) : qb (a ++ b) = qb a ++ qb b := by unfold qb; rw [List.flatMap_append]
theorem qb_snoc (a : List UInt8) (c : UInt8) : qb (a ++ [c]) = qb a ++ fm c := by rw [qb_append, qb_cons, qb_nil, List.append_nil]

theorem hv_hx (n : Nat) (h : n < 16) : hv (hx n) = n := by
  unfold hv hx
  by_cases h1 : n < 10
  · rw [if_pos h1, UInt8.toNat_ofNat', Nat.mod_eq_of_lt (by omega), if_pos (by omega)]; omega
  · rw [if_neg h1, UInt8.toNat_ofNat', Nat.mod_eq_of_lt (by omega), if_neg (by omega), if_pos (by omega)]; omega
theorem hx_hv (c : UInt8) (h : hv c < 16) : hx (hv c) = c := by
  have hc := c.toNat_lt
  apply UInt8.toNat_inj.1
  by_cases h1 : 48 ≤ c.toNat ∧ c.toNat ≤ 57
  · have e : hv c = c.toNat - 48 := by unfold hv; rw [if_pos h1]
    rw [e]; unfold hx; rw [if_pos (by omega), UInt8.toNat_ofNat']; omega
  · by_cases h2 : 97 ≤ c.toNat ∧ c.toNat ≤ 102
    · have e : hv c = c.toNat - 87 := by unfold hv; rw [if_neg h1, if_pos h2]
      rw [e]; unfold hx; rw [if_neg (by omega), UInt8.toNat_ofNat']; omega
    · have e : hv c = 16 := by unfold hv; rw [if_neg h1, if_neg h2]
      omega
theorem hx_byte (n : Nat) (h : n < 16) : 48 ≤ (hx n).toNat ∧ (hx n).toNat ≤ 102 ∧ (hx n).toNat ≠ 92 := by
  unfold hx
  split <;> rw [UInt8.toNat_ofNat'] <;> omega
theorem hv_byte (c : UInt8) (h : hv c < 16) : c.toNat < 128 := by
  unfold hv at h
  split at h
  · omega
  · split at h
    · omega
    · omega

/-- What stands behind a backslash: the byte, the whole escape's size. -/
def esc : List UInt8 → Option (UInt8 × Nat)
  | [] => none
  | a :: r => if a.toNat = 34 ∨ a.toNat = 92 then some (a, 2) else if a.toNat = 120 then
      match r with
      | h :: g :: _ => if hv h < 16 ∧ hv g < 16 ∧ ¬ (32 ≤ 16 * hv h + hv g ∧ 16 * hv h + hv g ≤ 126) then some (UInt8.ofNat (16 * hv h + hv g), 4) else none
      | _ => none
    else none
/-- The byte with whose form these bytes begin, and the form's size. -/
def stp : List UInt8 → Option (UInt8 × Nat)
  | [] => none
  | c :: r => if c.toNat = 92 then esc r else if pl c then some (c, 1) else none
/-- The text up to the closing quote, and the number of bytes with the quote. -/
def rd : Nat → List UInt8 → Option (List UInt8 × Nat)
  | 0, _ => none
  | f + 1, l => if l.head? = some 34 then some ([], 1) else
    match stp l with
    | none => none
    | some (c, n) => (rd f (l.drop n)).map fun x => (c :: x.1, n + x.2)
/-- The text with whose quoted form these bytes begin, and that form's size. -/
def rdq (l : List UInt8) : Option (List UInt8 × Nat) := if l.head? = some 34 then (rd l.length (l.drop 1)).map fun x => (x.1, 1 + x.2) else none

theorem stp_cons (a : UInt8) (r : List UInt8) : stp (a :: r) = if a.toNat = 92 then esc r else if pl a then some (a, 1) else none := rfl
theorem esc_self (a : UInt8) (r : List UInt8) (h : a.toNat = 34 ∨ a.toNat = 92) : esc (a :: r) = some (a, 2) := by
  simp only [esc]; rw [if_pos h]
theorem esc_other (a : UInt8) (r : List UInt8) (h : ¬ (a.toNat = 34 ∨ a.toNat = 92)) (h2 : ¬ a.toNat = 120) : esc (a :: r) = none := by
  simp only [esc]; rw [if_neg h, if_neg h2]
theorem esc_short0 (a : UInt8) (h : a.toNat = 120) : esc [a] = none := by
  simp only [esc]; rw [if_neg (by omega), if_pos h]
theorem esc_short1 (a b : UInt8) (h : a.toNat = 120) : esc [a, b] = none := by
  simp only [esc]; rw [if_neg (by omega), if_pos h]
theorem esc_hex (a b c : UInt8) (r : List UInt8) (h : a.toNat = 120) : esc (a :: b :: c :: r) = if hv b < 16 ∧ hv c < 16 ∧ ¬ (32 ≤ 16 * hv b + hv c ∧ 16 * hv b + hv c ≤ 126) then some (UInt8.ofNat (16 * hv b + hv c), 4) else none := by
  simp only [esc]; rw [if_neg (by omega), if_pos h]
theorem esc_sound {r : List UInt8} {c : UInt8} {n : Nat} (h : esc r = some (c, n)) : ∃ t, 92 :: r = fm c ++ t ∧ n = (fm c).length := by
  match r, h with
  | a :: r, h =>
    by_cases h1 : a.toNat = 34 ∨ a.toNat = 92
    · rw [esc_self a r h1] at h
      cases h
      refine ⟨r, ?_, ?_⟩ <;> unfold fm <;> rw [if_pos h1] <;> rfl
    · by_cases h2 : a.toNat = 120
      · have ha : a = 120 := UInt8.toNat_inj.1 (by rw [h2]; rfl)
        match r, h with
        | [], h => rw [esc_short0 a h2] at h; cases h
        | [b], h => rw [esc_short1 a b h2] at h; cases h
        | h' :: g :: r, h =>
          rw [esc_hex a h' g r h2] at h
          split at h
          · rename_i hc
            obtain ⟨hc1, hc2, hc3⟩ := hc
            cases h
            have e : (UInt8.ofNat (16 * hv h' + hv g)).toNat = 16 * hv h' + hv g := by rw [UInt8.toNat_ofNat']; omega
            have ef : fm (UInt8.ofNat (16 * hv h' + hv g)) = [92, 120, h', g] := by
              unfold fm
              rw [e, if_neg (by omega), if_pos (by omega), show (16 * hv h' + hv g) / 16 = hv h' by omega, show (16 * hv h' + hv g) % 16 = hv g by omega, hx_hv _ hc1, hx_hv _ hc2]
            exact ⟨r, by rw [ef, ha]; rfl, by rw [ef]; rfl⟩
          · cases h
      · rw [esc_other a r h1 h2] at h; cases h
theorem pl_fm {c : UInt8} (h : pl c = true) : fm c = [c] := by
  unfold pl at h
  have h := of_decide_eq_true h
  unfold fm
  rw [if_neg (by omega), if_neg (by omega)]
theorem stp_sound {l : List UInt8} {c : UInt8} {n : Nat} (h : stp l = some (c, n)) : ∃ t, l = fm c ++ t ∧ n = (fm c).length := by
  match l, h with
  | a :: r, h =>
    rw [stp_cons] at h
    by_cases h1 : a.toNat = 92
    · rw [if_pos h1] at h
      have ha : a = 92 := UInt8.toNat_inj.1 (by rw [h1]; rfl)
      rw [ha]
      exact esc_sound h
    · rw [if_neg h1] at h
      by_cases h2 : pl a = true
      · rw [if_pos h2] at h
        cases h
        exact ⟨r, by rw [pl_fm h2]; rfl, by rw [pl_fm h2]; rfl⟩
      · rw [if_neg h2] at h; cases h
theorem fm_length (c : UInt8) : 1 ≤ (fm c).length ∧ (fm c).length ≤ 4 := by
  unfold fm; split
  · simp
  · split <;> simp
theorem stp_fm (c : UInt8) (t : List UInt8) : stp (fm c ++ t) = some (c, (fm c).length) := by
  have hc := c.toNat_lt
  by_cases h1 : c.toNat = 34 ∨ c.toNat = 92
  · have e : fm c = [92, c] := by unfold fm; rw [if_pos h1]
    rw [e]
    exact esc_self c t h1
  · by_cases h2 : c.toNat < 32 ∨ 126 < c.toNat
    · have e : fm c = [92, 120, hx (c.toNat / 16), hx (c.toNat % 16)] := by unfold fm; rw [if_neg h1, if_pos h2]
      rw [e]
      show esc (120 :: hx (c.toNat / 16) :: hx (c.toNat % 16) :: t) = _
      rw [esc_hex _ _ _ _ rfl, hv_hx _ (by omega), hv_hx _ (by omega), if_pos (by omega), show 16 * (c.toNat / 16) + c.toNat % 16 = c.toNat by omega]
      simp
    · have hp : pl c = true := by unfold pl; exact decide_eq_true (by omega)
      rw [pl_fm hp]
      show stp (c :: t) = _
      rw [stp_cons, if_neg (by omega), if_pos hp]; rfl
theorem fm_head (c : UInt8) (t : List UInt8) : (fm c ++ t).head? ≠ some 34 := by
  unfold fm
  split
  · simp
  · split
    · simp
    · rename_i h1 h2
      intro h
      simp at h
      rw [h] at h1
      exact h1 (Or.inl rfl)

theorem rd_quote (f : Nat) (l : List UInt8) (h : l.head? = some 34) : rd (f + 1) l = some ([], 1) := by
  show (if l.head? = some 34 then _ else _) = _
  rw [if_pos h]
theorem rd_none (f : Nat) (l : List UInt8) (h : l.head? ≠ some 34) (h2 : stp l = none) : rd (f + 1) l = none := by
  show (if l.head? = some 34 then _ else _) = _
  rw [if_neg h, h2]
theorem rd_some (f : Nat) (l : List UInt8) (c : UInt8) (n : Nat) (h : l.head? ≠ some 34) (h2 : stp l = some (c, n)) : rd (f + 1) l = (rd f (l.drop n)).map fun x => (c :: x.1, n + x.2) := by
  show (if l.head? = some 34 then _ else _) = _
  rw [if_neg h, h2]

theorem drop_len {a b : List UInt8} {n : Nat} (h : n = a.length) : (a ++ b).drop n = b := by rw [h, List.drop_left]

theorem rd_sound (f : Nat) : ∀ (l : List UInt8) (t : List UInt8) (m : Nat), rd f l = some (t, m) → ∃ r, l = qb t ++ 34 :: r ∧ m = (qb t).length + 1 := by
  induction f with
  | zero => intro l t m h; cases h
  | succ f ih =>
    intro l t m h
    by_cases h1 : l.head? = some 34
    · rw [rd_quote f l h1] at h
      cases h
      match l, h1 with
      | a :: r, h1 => simp at h1; exact ⟨r, by rw [h1]; rfl, rfl⟩
    · rcases h2 : stp l with _ | ⟨c, n⟩
      · rw [rd_none f l h1 h2] at h; cases h
      · rw [rd_some f l c n h1 h2] at h
        obtain ⟨r, rfl, hn⟩ := stp_sound h2
        rw [drop_len hn] at h
        rcases h3 : rd f r with _ | ⟨t', m'⟩
        · rw [h3] at h; cases h
        · rw [h3] at h
          cases h
          obtain ⟨r', rfl, hm⟩ := ih _ _ _ h3
          exact ⟨r', by rw [qb_cons, List.append_assoc], by dsimp only; rw [qb_cons, List.length_append, hm, hn]; omega⟩
theorem rd_complete (t : List UInt8) : ∀ (f : Nat) (r : List UInt8), t.length < f → rd f (qb t ++ 34 :: r) = some (t, (qb t).length + 1) := by
  induction t with
  | nil =>
    intro f r h
    obtain ⟨f, rfl⟩ : ∃ g, f = g + 1 := ⟨f - 1, by omega⟩
    rw [rd_quote f _ rfl]; rfl
  | cons c t ih =>
    intro f r h
    obtain ⟨f, rfl⟩ : ∃ g, f = g + 1 := ⟨f - 1, by omega⟩
    rw [qb_cons, List.append_assoc, rd_some f _ c _ (fm_head c _) (stp_fm c _), List.drop_left, ih f r (by simp at h; omega)]
    simp; omega
theorem qb_length (t : List UInt8) : t.length ≤ (qb t).length ∧ (qb t).length ≤ 4 * t.length := by
  induction t with
  | nil => exact ⟨Nat.le_refl _, Nat.le_refl _⟩
  | cons c t ih =>
    have := fm_length c
    rw [qb_cons, List.length_append, List.length_cons]; omega
theorem quo_length (t : List UInt8) : (quo t).length = (qb t).length + 2 := by unfold quo; simp

theorem rdq_sound {l t : List UInt8} {m : Nat} (h : rdq l = some (t, m)) : ∃ r, l = quo t ++ r ∧ m = (quo t).length := by
  unfold rdq at h
  split at h
  · rename_i h1
    match l, h1 with
    | a :: l, h1 =>
      simp at h1
      subst h1
      rcases h3 : rd (34 :: l).length l with _ | ⟨t', m'⟩
      · rw [show (34 :: l).drop 1 = l from rfl, h3] at h; cases h
      · rw [show (34 :: l).drop 1 = l from rfl, h3] at h
        cases h
        obtain ⟨r, e, hm⟩ := rd_sound _ _ _ _ h3
        exact ⟨r, by rw [e]; unfold quo; simp, by dsimp only; rw [quo_length, hm]; omega⟩
  · cases h
theorem rdq_complete (t r : List UInt8) : rdq (quo t ++ r) = some (t, (quo t).length) := by
  have hl := qb_length t
  unfold rdq
  rw [if_pos (show (quo t ++ r).head? = some 34 from rfl)]
  have e : (quo t ++ r).drop 1 = qb t ++ 34 :: r := by unfold quo; simp
  rw [e, rd_complete t _ r (by rw [List.length_append, quo_length]; omega), quo_length]
  simp; omega
theorem rdq_size {l t : List UInt8} {m : Nat} (h : rdq l = some (t, m)) : m ≤ l.length ∧ 2 ≤ m ∧ t.length + 2 ≤ m := by
  obtain ⟨r, rfl, hm⟩ := rdq_sound h
  have hl := qb_length t
  rw [List.length_append, hm, quo_length]; omega
theorem quo_inj {a b : List UInt8} (h : quo a = quo b) : a = b := by
  have h1 := rdq_complete a []
  rw [h, rdq_complete b []] at h1
  cases h1; rfl

/-! ### The reference's way: read, then quote -/
/-- What stands behind a backslash, any byte in hexadecimal digits. -/
def wesc : List UInt8 → Option (UInt8 × Nat)
  | [] => none
  | a :: r => if a.toNat = 34 ∨ a.toNat = 92 then some (a, 2) else if a.toNat = 120 then
      match r with
      | h :: g :: _ => if hv h < 16 ∧ hv g < 16 then some (UInt8.ofNat (16 * hv h + hv g), 4) else none
      | _ => none
    else none
/-- The text up to a quote or the end, and the number of bytes before. -/
def wk : Nat → List UInt8 → Option (List UInt8 × Nat)
  | 0, _ => none
  | f + 1, l =>
    match l with
    | [] => some ([], 0)
    | c :: r => if c.toNat = 34 then some ([], 0) else if c.toNat = 92 then
        match wesc r with
        | none => none
        | some (b, n) => (wk f ((c :: r).drop n)).map fun x => (b :: x.1, n + x.2)
      else (wk f r).map fun x => (c :: x.1, 1 + x.2)
theorem wk_nil (f : Nat) : wk (f + 1) [] = some ([], 0) := rfl
theorem wk_quote (f : Nat) (c : UInt8) (r : List UInt8) (h : c.toNat = 34) : wk (f + 1) (c :: r) = some ([], 0) := by
  show (if c.toNat = 34 then _ else _) = _
  rw [if_pos h]
theorem wk_plain (f : Nat) (c : UInt8) (r : List UInt8) (h : ¬ c.toNat = 34) (h2 : ¬ c.toNat = 92) : wk (f + 1) (c :: r) = (wk f r).map fun x => (c :: x.1, 1 + x.2) := by
  show (if c.toNat = 34 then _ else if c.toNat = 92 then _ else _) = _
  rw [if_neg h, if_neg h2]
theorem wk_bad (f : Nat) (c : UInt8) (r : List UInt8) (h2 : c.toNat = 92) (h3 : wesc r = none) : wk (f + 1) (c :: r) = none := by
  show (if c.toNat = 34 then _ else if c.toNat = 92 then _ else _) = _
  rw [if_neg (by omega), if_pos h2, h3]
theorem wk_esc (f : Nat) (c : UInt8) (r : List UInt8) (b : UInt8) (n : Nat) (h2 : c.toNat = 92) (h3 : wesc r = some (b, n)) : wk (f + 1) (c :: r) = (wk f ((c :: r).drop n)).map fun x => (b :: x.1, n + x.2) := by
  show (if c.toNat = 34 then _ else if c.toNat = 92 then _ else _) = _
  rw [if_neg (by omega), if_pos h2, h3]
theorem wesc_self (a : UInt8) (r : List UInt8) (h : a.toNat = 34 ∨ a.toNat = 92) : wesc (a :: r) = some (a, 2) := by
  simp only [wesc]; rw [if_pos h]
theorem wesc_other (a : UInt8) (r : List UInt8) (h : ¬ (a.toNat = 34 ∨ a.toNat = 92)) (h2 : ¬ a.toNat = 120) : wesc (a :: r) = none := by
  simp only [wesc]; rw [if_neg h, if_neg h2]
theorem wesc_short0 (a : UInt8) (h : a.toNat = 120) : wesc [a] = none := by
  simp only [wesc]; rw [if_neg (by omega), if_pos h]
theorem wesc_short1 (a b : UInt8) (h : a.toNat = 120) : wesc [a, b] = none := by
  simp only [wesc]; rw [if_neg (by omega), if_pos h]
theorem wesc_hex (a b c : UInt8) (r : List UInt8) (h : a.toNat = 120) : wesc (a :: b :: c :: r) = if hv b < 16 ∧ hv c < 16 then some (UInt8.ofNat (16 * hv b + hv c), 4) else none := by
  simp only [wesc]; rw [if_neg (by omega), if_pos h]
theorem esc_wesc {r : List UInt8} {c : UInt8} {n : Nat} (h : esc r = some (c, n)) : wesc r = some (c, n) := by
  match r, h with
  | a :: r, h =>
    by_cases h1 : a.toNat = 34 ∨ a.toNat = 92
    · rw [esc_self a r h1] at h; rw [wesc_self a r h1]; exact h
    · by_cases h2 : a.toNat = 120
      · match r, h with
        | [], h => rw [esc_short0 a h2] at h; cases h
        | [b], h => rw [esc_short1 a b h2] at h; cases h
        | h' :: g :: r, h =>
          rw [esc_hex a h' g r h2] at h
          rw [wesc_hex a h' g r h2]
          split at h
          · rename_i hc
            rw [if_pos ⟨hc.1, hc.2.1⟩]; exact h
          · cases h
      · rw [esc_other a r h1 h2] at h; cases h
theorem rd_wk (f : Nat) : ∀ (l : List UInt8) (t : List UInt8) (m : Nat), rd f l = some (t, m) → wk f l = some (t, m - 1) := by
  induction f with
  | zero => intro l t m h; cases h
  | succ f ih =>
    intro l t m h
    by_cases h1 : l.head? = some 34
    · rw [rd_quote f l h1] at h
      cases h
      match l, h1 with
      | a :: r, h1 => simp at h1; exact wk_quote f a r (by rw [h1]; rfl)
    · rcases h2 : stp l with _ | ⟨c, n⟩
      · rw [rd_none f l h1 h2] at h; cases h
      · rw [rd_some f l c n h1 h2] at h
        rcases h3 : rd f (l.drop n) with _ | ⟨t', m'⟩
        · rw [h3] at h; cases h
        · rw [h3] at h
          cases h
          have hw := ih _ _ _ h3
          obtain ⟨_, _, hm⟩ := rd_sound _ _ _ _ h3
          match l, h1, h2, hw with
          | a :: r, h1, h2, hw =>
            rw [stp_cons] at h2
            by_cases h4 : a.toNat = 92
            · rw [if_pos h4] at h2
              rw [wk_esc f a r c n h4 (esc_wesc h2), hw]
              simp; omega
            · rw [if_neg h4] at h2
              by_cases h5 : pl a = true
              · rw [if_pos h5] at h2
                cases h2
                have h6 := of_decide_eq_true h5
                have hw' : wk f r = some (t', m' - 1) := hw
                rw [wk_plain f _ r (by omega) h4, hw']
                simp; omega
              · rw [if_neg h5] at h2; cases h2
/-- What the reference makes of what it read. -/
def fin (l : List UInt8) (x : List UInt8 × Nat) : Option (List UInt8 × Nat) := if x.2 < l.length ∧ quo x.1 = 34 :: l.take (x.2 + 1) then some (x.1, x.2 + 2) else none
theorem wk_rdq (l : List UInt8) : rdq (34 :: l) = (wk (l.length + 1) l).bind (fin l) := by
  have e0 : rdq (34 :: l) = (rd (l.length + 1) l).map fun x => (x.1, 1 + x.2) := rfl
  rw [e0]
  rcases h : rd (l.length + 1) l with _ | ⟨t, m⟩
  · rcases h2 : wk (l.length + 1) l with _ | ⟨t', n⟩
    · rfl
    · show none = fin l (t', n)
      unfold fin
      rw [if_neg]
      rintro ⟨h3, h4⟩
      unfold quo at h4
      have h5 := (List.cons.inj h4).2
      dsimp only at h3 h5
      have h6 : l = qb t' ++ 34 :: l.drop (n + 1) := by
        have := List.take_append_drop (n + 1) l
        rw [← h5, List.append_assoc] at this
        exact this.symm
      have hl := qb_length t'
      have h7 := congrArg List.length h5
      rw [List.length_take, List.length_append, List.length_singleton] at h7
      rw [h6, rd_complete t' _ _ (by rw [List.length_append]; simp; omega)] at h
      cases h
  · have hw := rd_wk _ _ _ _ h
    obtain ⟨r, e, hm⟩ := rd_sound _ _ _ _ h
    rw [hw]
    show some (t, 1 + m) = fin l (t, m - 1)
    unfold fin
    have e1 : m - 1 = (qb t).length := by omega
    dsimp only
    rw [e1, if_pos]
    · simp; omega
    · have e2 : l = (qb t ++ [34]) ++ r := by rw [e]; simp
      refine ⟨by rw [e]; simp, ?_⟩
      rw [e2, List.take_left' (by simp)]
      rfl

/-! ### The parts of a line -/
/-- The size of the part at the beginning; 0 if there is none. -/
def psz (l : List UInt8) : Nat := if l.head? = some 34 then ((rdq l).getD ([], 0)).2 else (l.takeWhile fun c => decide (32 < c.toNat)).length
/-- The parts of these bytes, which are not the empty line. -/
def fl : Nat → List UInt8 → Option (List (List UInt8))
  | 0, _ => none
  | f + 1, l => if psz l = 0 then none else if psz l = l.length then some [l.take (psz l)] else if (l.getD (psz l) 0).toNat = 32 then (fl f (l.drop (psz l + 1))).map fun x => l.take (psz l) :: x else none
/-- The parts of a line. -/
def fld (l : List UInt8) : Option (List (List UInt8)) := if l = [] then some [] else fl l.length l
theorem fl_none (f : Nat) (l : List UInt8) (h : psz l = 0) : fl (f + 1) l = none := by
  show (if psz l = 0 then _ else _) = _
  rw [if_pos h]
theorem fl_last (f : Nat) (l : List UInt8) (h : psz l ≠ 0) (h2 : psz l = l.length) : fl (f + 1) l = some [l.take (psz l)] := by
  show (if psz l = 0 then _ else if psz l = l.length then _ else _) = _
  rw [if_neg h, if_pos h2]
theorem fl_bad (f : Nat) (l : List UInt8) (h2 : psz l ≠ l.length) (h3 : (l.getD (psz l) 0).toNat ≠ 32) : fl (f + 1) l = none := by
  show (if psz l = 0 then _ else if psz l = l.length then _ else if (l.getD (psz l) 0).toNat = 32 then _ else _) = _
  by_cases h : psz l = 0
  · rw [if_pos h]
  · rw [if_neg h, if_neg h2, if_neg h3]
theorem fl_more (f : Nat) (l : List UInt8) (h : psz l ≠ 0) (h2 : psz l ≠ l.length) (h3 : (l.getD (psz l) 0).toNat = 32) : fl (f + 1) l = (fl f (l.drop (psz l + 1))).map fun x => l.take (psz l) :: x := by
  show (if psz l = 0 then _ else if psz l = l.length then _ else if (l.getD (psz l) 0).toNat = 32 then _ else _) = _
  rw [if_neg h, if_neg h2, if_pos h3]
theorem psz_nil : psz [] = 0 := rfl
theorem psz_le (l : List UInt8) : psz l ≤ l.length := by
  unfold psz
  split
  · rcases h : rdq l with _ | ⟨t, m⟩
    · simp
    · simpa using (rdq_size h).1
  · exact (List.takeWhile_sublist _).length_le

/-- What Unquote returns. -/
def unq (l : List UInt8) : List UInt8 × Int :=
  match rdq l with
  | none => ([], 4)
  | some (t, n) => if n < l.length then ([], 4) else if 60 < t.length then ([], 3) else (t, 0)

/-! ### Names -/
/-- A byte that may stand at this place of a name. -/
def nmB (i : Nat) (c : UInt8) : Bool := decide (97 ≤ c.toNat ∧ c.toNat ≤ 122) || (decide (i ≠ 0) && decide ((48 ≤ c.toNat ∧ c.toNat ≤ 57) ∨ c.toNat = 95 ∨ c.toNat = 45))
def nmF : Nat → List UInt8 → Bool
  | _, [] => true
  | i, c :: r => nmB i c && nmF (i + 1) r
/-- A name. -/
def nm (l : List UInt8) : Bool := decide (1 ≤ l.length ∧ l.length ≤ 24) && nmF 0 l

/-! ### The bytes of a rune -/
theorem decode_fits (s : ByteArray) (pos : Nat) (h : pos < s.size) (ha : 128 ≤ (s[pos]'h).toNat) :
    pos + (Utf8.decode s pos).2 ≤ s.size ∧ ∀ k (hk : pos + k < s.size), k < (Utf8.decode s pos).2 → 128 ≤ (s[pos + k]'hk).toNat := by
  have hn : ¬ (s[pos]'h).toNat < 128 := by omega
  have g : ∀ k (hk : pos + k < s.size), s.get! (pos + k) = s[pos + k]'hk := by
    intro k hk
    show s.data[pos + k]! = _
    rw [getElem!_pos s.data (pos + k) hk]; rfl
  have one : ∀ k (hk : pos + k < s.size), k < 1 → 128 ≤ (s[pos + k]'hk).toNat := by
    intro k hk h1
    obtain rfl : k = 0 := by omega
    exact ha
  have two : ∀ k (hk : pos + k < s.size), ((s.get! (pos + k)).toNat / 64 == 2) = true → 128 ≤ (s[pos + k]'hk).toNat := by
    intro k hk e
    rw [g k hk] at e
    have := eq_of_beq e
    omega
  simp only [Utf8.decode, get_at s pos h, hn, if_false]
  repeat' split
  all_goals first | exact ⟨by show pos + 1 ≤ _; omega, one⟩ | skip
  · rename_i h1 h2
    simp only [Bool.and_eq_true, decide_eq_true_eq] at h1
    refine ⟨by show pos + 2 ≤ _; omega, fun k hk hk2 => ?_⟩
    have hk2 : k < 2 := hk2
    match k, hk, hk2 with
    | 0, hk, _ => exact one 0 hk (by omega)
    | 1, hk, _ => exact two 1 hk h1.2.2
  · rename_i h0 h1 h2
    simp only [Bool.and_eq_true, decide_eq_true_eq] at h1
    refine ⟨by show pos + 3 ≤ _; omega, fun k hk hk2 => ?_⟩
    have hk2 : k < 3 := hk2
    match k, hk, hk2 with
    | 0, hk, _ => exact one 0 hk (by omega)
    | 1, hk, _ => exact two 1 hk h1.1.2.2
    | 2, hk, _ => exact two 2 hk h1.2.2
  · rename_i h0 h00 h1 h2
    simp only [Bool.and_eq_true, decide_eq_true_eq] at h1
    refine ⟨by show pos + 4 ≤ _; omega, fun k hk hk2 => ?_⟩
    have hk2 : k < 4 := hk2
    match k, hk, hk2 with
    | 0, hk, _ => exact one 0 hk (by omega)
    | 1, hk, _ => exact two 1 hk h1.1.1.2.2
    | 2, hk, _ => exact two 2 hk h1.1.2.2
    | 3, hk, _ => exact two 3 hk h1.2.2
end Go.Proofs.YtmildkjkppnblaaDoor
