/- Addresses of attempts, claims and rounds: the mathematics. -/
import Derived.Test.YtjhnilfnnongeaaGC
set_option linter.unusedVariables false
namespace Go.Proofs.Ytjhnilfnnongeaa.Adr

/-- The hashed address of an attempt. -/
def hs (e n : Nat) : Int := 1 + ((Digest.fnv (Digest.nb 8 e ++ [UInt8.ofNat n]) % 4294967296 % 250 : Nat) : Int)
theorem hs_range (e n : Nat) : 1 ≤ hs e n ∧ hs e n ≤ 250 := by
  unfold hs
  generalize Digest.fnv (Digest.nb 8 e ++ [UInt8.ofNat n]) = x
  omega
/-- The address of an attempt. -/
def pk (e t : Int) : Int := if t ≤ 15 then hs e.toNat t.toNat else (hs e.toNat 15 - 1 + (t - 15) % 250) % 250 + 1
theorem pk_range (e t : Int) : 1 ≤ pk e t ∧ pk e t ≤ 250 := by
  unfold pk
  split
  · exact hs_range _ _
  · omega
theorem pk_neg {e t : Int} (h : t ≤ 0) : pk e t = pk e 0 := by
  unfold pk; rw [if_pos (by omega), if_pos (by omega), show t.toNat = 0 by omega]; rfl
theorem pk_up {e t : Int} (h : 15 ≤ t) : pk e t = (hs e.toNat 15 - 1 + (t - 15)) % 250 + 1 := by
  have := hs_range e.toNat 15
  unfold pk
  split
  · obtain rfl : t = 15 := by omega
    rw [show (15 : Int).toNat = 15 from rfl]
    omega
  · omega
theorem pk_15 (e : Int) : pk e 15 = hs e.toNat 15 := by unfold pk; rw [if_pos (by omega)]; rfl
theorem pk_next {e t : Int} (h : 15 ≤ t) : pk e (t + 1) = pk e t % 250 + 1 := by
  rw [pk_up h, pk_up (by omega)]
  omega
theorem pk_inj {e t i j : Int} (h : 15 ≤ t) (h1 : 0 ≤ i) (h2 : i < 250) (h3 : 0 ≤ j) (h4 : j < 250) (he : pk e (t + i) = pk e (t + j)) : i = j := by
  rw [pk_up (by omega), pk_up (by omega)] at he
  omega
theorem pk_onto (e : Int) {a : Int} (h1 : 1 ≤ a) (h2 : a ≤ 250) : ∃ i : Nat, i < 250 ∧ pk e (15 + (i : Int)) = a := by
  have := hs_range e.toNat 15
  refine ⟨((a - hs e.toNat 15) % 250).toNat, by omega, ?_⟩
  rw [pk_up (by omega)]
  omega

/-! The first free attempt. -/
/-- The first attempt whose address is not on the list. -/
def frs (e : Int) (l : List Int) : Option Nat := (List.range 265).find? fun t => !(l.contains (pk e (t : Int)))
theorem frs_some {e : Int} {l : List Int} {t : Nat} (ht : t < 265) (h : ∀ s : Nat, s < t → pk e s ∈ l) (h1 : pk e t ∉ l) : frs e l = some t := by
  unfold frs
  rw [List.find?_range_eq_some]
  exact ⟨by simpa using h1, List.mem_range.2 ht, fun j hj => by simpa using h j hj⟩
theorem frs_none {e : Int} {l : List Int} (h : ∀ s : Nat, s < 265 → pk e s ∈ l) : frs e l = none := by
  unfold frs
  rw [List.find?_range_eq_none]
  exact fun j hj => by simpa using h j hj
theorem frs_is (e : Int) (l : List Int) : (∃ t : Nat, t < 265 ∧ frs e l = some t ∧ (∀ s : Nat, s < t → pk e s ∈ l) ∧ pk e t ∉ l) ∨ (frs e l = none ∧ ∀ a : Int, 1 ≤ a → a ≤ 250 → a ∈ l) := by
  cases h : frs e l with
  | some t =>
    unfold frs at h
    rw [List.find?_range_eq_some] at h
    exact Or.inl ⟨t, List.mem_range.1 h.2.1, rfl, fun s hs => by simpa using h.2.2 s hs, by simpa using h.1⟩
  | none =>
    unfold frs at h
    rw [List.find?_range_eq_none] at h
    refine Or.inr ⟨rfl, fun a h1 h2 => ?_⟩
    obtain ⟨i, hi, he⟩ := pk_onto e h1 h2
    have := h (15 + i) (by omega)
    simp at this
    rw [← he]
    exact this

/-! Claims. -/
/-- A claim: its identifier, its address, its attempt. -/
abbrev Clm := Int × Int × Int
/-- The claim is not one. -/
def bad (c : Clm) : Bool := decide (c.2.2 < 0) || decide (100000 < c.2.2) || decide (c.2.1 ≠ pk c.1 c.2.2)
theorem bad_iff (c : Clm) : bad c = false ↔ 0 ≤ c.2.2 ∧ c.2.2 ≤ 100000 ∧ c.2.1 = pk c.1 c.2.2 := by
  unfold bad
  simp
  omega
/-- What Check says of the rest, the identifiers before it given. -/
def chkG (seen : List Int) : List Clm → Int
  | [] => 0
  | c :: r => if c.1 ∈ seen then 9 else if bad c then 2 else chkG (seen ++ [c.1]) r
/-- What Check says. -/
def chk (l : List Clm) : Int := if 24 < l.length then 3 else chkG [] l
theorem chkG_zero (l : List Clm) : ∀ seen, chkG seen l = 0 ↔ (∀ c ∈ l, c.1 ∉ seen ∧ bad c = false) ∧ (l.map Prod.fst).Nodup := by
  induction l with
  | nil => intro seen; simp [chkG]
  | cons c r ih =>
    intro seen
    unfold chkG
    by_cases h1 : c.1 ∈ seen
    · rw [if_pos h1]
      exact ⟨fun h => absurd h (by decide), fun h => absurd h1 (h.1 c List.mem_cons_self).1⟩
    · rw [if_neg h1]
      by_cases h2 : bad c = true
      · rw [if_pos h2]
        exact ⟨fun h => absurd h (by decide), fun h => absurd ((h.1 c List.mem_cons_self).2.symm.trans h2) (by decide)⟩
      · rw [if_neg h2, ih, List.map_cons, List.nodup_cons]
        constructor
        · rintro ⟨h3, h4⟩
          refine ⟨fun d hd => ?_, fun hm => ?_, h4⟩
          · rcases List.mem_cons.1 hd with rfl | hd
            · exact ⟨h1, by simpa using h2⟩
            · exact ⟨fun hm => (h3 d hd).1 (List.mem_append_left _ hm), (h3 d hd).2⟩
          · obtain ⟨d, hd, he⟩ := List.mem_map.1 hm
            exact (h3 d hd).1 (List.mem_append_right _ (by simp [he]))
        · rintro ⟨h3, h4, h5⟩
          refine ⟨fun d hd => ⟨fun hm => ?_, (h3 d (List.mem_cons_of_mem _ hd)).2⟩, h5⟩
          rcases List.mem_append.1 hm with hm | hm
          · exact (h3 d (List.mem_cons_of_mem _ hd)).1 hm
          · exact h4 (List.mem_map.2 ⟨d, hd, by simpa using hm⟩)
theorem chk_zero (l : List Clm) : chk l = 0 ↔ l.length ≤ 24 ∧ (∀ c ∈ l, 0 ≤ c.2.2 ∧ c.2.2 ≤ 100000 ∧ c.2.1 = pk c.1 c.2.2) ∧ (l.map Prod.fst).Nodup := by
  unfold chk
  split
  · exact ⟨fun h => absurd h (by decide), fun h => by omega⟩
  · rw [chkG_zero]
    constructor
    · rintro ⟨h1, h2⟩
      exact ⟨by omega, fun c hc => (bad_iff c).1 (h1 c hc).2, h2⟩
    · rintro ⟨_, h1, h2⟩
      exact ⟨fun c hc => ⟨by simp, (bad_iff c).2 (h1 c hc)⟩, h2⟩

/-- No lesser identifier has its address. -/
def lst (l : List Clm) (c : Clm) : Bool := l.all fun d => !(decide (d.2.1 = c.2.1) && decide (d.1 < c.1))
def stp (l : List Clm) (c : Clm) : Clm := if lst l c = true then c else (c.1, pk c.1 (c.2.2 + 1), c.2.2 + 1)
/-- A round. -/
def rnd (l : List Clm) : List Clm := l.map (stp l)
/-- How many change. -/
def nch (l : List Clm) : Nat := l.countP fun c => !lst l c
def itR : Nat → List Clm → List Clm
  | 0, l => l
  | n + 1, l => itR n (rnd l)
theorem itR_succ (n : Nat) : ∀ l, itR (n + 1) l = rnd (itR n l) := by
  induction n with
  | zero => intro l; rfl
  | succ n ih => intro l; exact ih (rnd l)
theorem lst_iff (l : List Clm) (c : Clm) : lst l c = true ↔ ∀ d ∈ l, d.2.1 = c.2.1 → c.1 ≤ d.1 := by
  unfold lst
  rw [List.all_eq_true]
  constructor
  · intro h d hd he
    have := h d hd
    simp [he] at this
    exact this
  · intro h d hd
    by_cases he : d.2.1 = c.2.1
    · simpa [he] using h d hd he
    · simp [he]
theorem stp_fst (l : List Clm) (c : Clm) : (stp l c).1 = c.1 := by unfold stp; split <;> rfl
theorem rnd_len (l : List Clm) : (rnd l).length = l.length := List.length_map _
theorem rnd_fix {l : List Clm} (h : nch l = 0) : rnd l = l := by
  unfold nch at h
  rw [List.countP_eq_zero] at h
  unfold rnd
  conv => rhs; rw [← List.map_id l]
  refine List.map_congr_left fun c hc => ?_
  have := h c hc
  unfold stp
  rw [if_pos (by simpa using this)]
  rfl

/-! The devices by their identifiers: E; how far each is: τ. -/
def cl (τ : Int → Int) (e : Int) : Clm := (e, pk e (τ e), τ e)
/-- A lesser identifier has the same address. -/
def mvs (E : List Int) (τ : Int → Int) (e : Int) : Bool := E.any fun d => decide (d < e) && decide (pk d (τ d) = pk e (τ e))
def nx (E : List Int) (τ : Int → Int) (e : Int) : Int := if mvs E τ e = true then τ e + 1 else τ e
def itT (E : List Int) : Nat → (Int → Int) → Int → Int
  | 0, τ => τ
  | n + 1, τ => itT E n (nx E τ)
theorem itT_succ (E : List Int) (n : Nat) : ∀ τ, itT E (n + 1) τ = nx E (itT E n τ) := by
  induction n with
  | zero => intro τ; rfl
  | succ n ih => intro τ; exact ih (nx E τ)
theorem mvs_iff (E : List Int) (τ : Int → Int) (e : Int) : mvs E τ e = true ↔ ∃ d ∈ E, d < e ∧ pk d (τ d) = pk e (τ e) := by
  unfold mvs
  rw [List.any_eq_true]
  simp
theorem lst_cl (E : List Int) (τ : Int → Int) (e : Int) : lst (E.map (cl τ)) (cl τ e) = !mvs E τ e := by
  rw [Bool.eq_iff_iff, lst_iff, Bool.not_eq_true', Bool.eq_false_iff, ne_eq, mvs_iff]
  constructor
  · rintro h ⟨d, hd, h1, h2⟩
    have := h (cl τ d) (List.mem_map.2 ⟨d, hd, rfl⟩) h2
    simp only [cl] at this
    omega
  · intro h d hd he
    obtain ⟨x, hx, rfl⟩ := List.mem_map.1 hd
    rcases Int.lt_or_le x e with h1 | h1
    · exact absurd ⟨x, hx, h1, he⟩ h
    · exact h1
theorem rnd_cl (E : List Int) (τ : Int → Int) : rnd (E.map (cl τ)) = E.map (cl (nx E τ)) := by
  unfold rnd
  rw [List.map_map]
  refine List.map_congr_left fun e he => ?_
  simp only [Function.comp_apply]
  unfold stp
  rw [lst_cl]
  unfold nx cl
  cases h : mvs E τ e <;> simp [h]
theorem itR_cl (E : List Int) (n : Nat) : ∀ τ, itR n (E.map (cl τ)) = E.map (cl (itT E n τ)) := by
  induction n with
  | zero => intro τ; rfl
  | succ n ih =>
    intro τ
    show itR n (rnd (E.map (cl τ))) = _
    rw [rnd_cl, ih]; rfl
theorem nch_cl (E : List Int) (τ : Int → Int) : nch (E.map (cl τ)) = E.countP (mvs E τ) := by
  unfold nch
  rw [List.countP_map]
  refine List.countP_congr fun e he => ?_
  simp only [Function.comp_apply, lst_cl, Bool.not_not]
theorem reps : ∀ (l : List Clm), (l.map Prod.fst).Nodup → (∀ c ∈ l, c.2.1 = pk c.1 c.2.2) → ∃ τ, l = (l.map Prod.fst).map (cl τ) ∧ ∀ c ∈ l, τ c.1 = c.2.2
  | [], _, _ => ⟨fun _ => 0, rfl, fun c h => by cases h⟩
  | c :: r, hn, hp => by
    rw [List.map_cons, List.nodup_cons] at hn
    obtain ⟨τ, h1, h2⟩ := reps r hn.2 fun d hd => hp d (List.mem_cons_of_mem _ hd)
    have h3 : ∀ d ∈ r, d.1 ≠ c.1 := fun d hd e => hn.1 (List.mem_map.2 ⟨d, hd, e⟩)
    refine ⟨fun e => if e = c.1 then c.2.2 else τ e, ?_, fun d hd => ?_⟩
    · rw [List.map_cons, List.map_cons]
      congr 1
      · unfold cl
        simp only [if_pos]
        rw [← hp c List.mem_cons_self]
      · conv => lhs; rw [h1]
        refine List.map_congr_left fun e he => ?_
        obtain ⟨d, hd, rfl⟩ := List.mem_map.1 he
        unfold cl
        simp only [if_neg (h3 d hd)]
    · rcases List.mem_cons.1 hd with rfl | hd
      · simp
      · simp only [if_neg (h3 d hd)]; exact h2 d hd

/-! Rounds come to an end. -/
theorem len_sub : ∀ (l m : List Int), l.Nodup → (∀ x ∈ l, x ∈ m) → l.length ≤ m.length
  | [], m, _, _ => Nat.zero_le _
  | x :: r, m, hn, h => by
    rw [List.nodup_cons] at hn
    have hx := h x List.mem_cons_self
    have := len_sub r (m.erase x) hn.2 fun y hy => (List.mem_erase_of_ne (fun (e : y = x) => hn.1 (by rw [← e]; exact hy))).2 (h y (List.mem_cons_of_mem _ hy))
    rw [List.length_erase_of_mem hx] at this
    have := List.length_pos_of_mem hx
    simp only [List.length_cons]
    omega
/-- How many lesser ones there are. -/
def rk (E : List Int) (e : Int) : Nat := E.countP fun d => decide (d < e)
theorem rk_lt {E : List Int} {d e : Int} (hd : d ∈ E) (h : d < e) : rk E d < rk E e := by
  unfold rk
  induction E with
  | nil => cases hd
  | cons x r ih =>
    rw [List.countP_cons, List.countP_cons]
    have mono : r.countP (fun y => decide (y < d)) ≤ r.countP (fun y => decide (y < e)) := List.countP_mono_left fun y _ hy => by simp at hy ⊢; omega
    rcases List.mem_cons.1 hd with rfl | hd
    · rw [if_neg (by simp), if_pos (by simpa using h)]; omega
    · have := ih hd
      by_cases h1 : x < d
      · rw [if_pos (by simpa using h1), if_pos (by simp; omega)]; omega
      · rw [if_neg (by simpa using h1)]; omega
theorem rk_le {E : List Int} {e : Int} (h : e ∈ E) : rk E e < E.length := by
  unfold rk
  rw [List.countP_eq_length_filter]
  rcases Nat.lt_or_ge (E.filter fun d => decide (d < e)).length E.length with h1 | h1
  · exact h1
  · have h2 := List.length_filter_le (fun d => decide (d < e)) E
    have h3 := (List.length_filter_eq_length_iff (p := fun d => decide (d < e)) (l := E)).1 (by omega) e h
    simp at h3
/-- The round from which on it stays. -/
def T : Nat → Nat
  | 0 => 15
  | r + 1 => T r + 15 + (r + 1)
theorem T_mono {r s : Nat} (h : r ≤ s) : T r ≤ T s := by
  induction s with
  | zero => obtain rfl : r = 0 := by omega
            exact Nat.le_refl _
  | succ s ih =>
    rcases Nat.lt_or_ge r (s + 1) with h1 | h1
    · have := ih (by omega)
      have e : T (s + 1) = T s + 15 + (s + 1) := rfl
      omega
    · obtain rfl : r = s + 1 := by omega
      exact Nat.le_refl _
theorem stays_of {E : List Int} {τ : Int → Int} {e : Int} {r K : Nat} (h0 : 0 ≤ τ e) (hr : rk E e = r) (hr2 : r ≤ 200)
    (hK : ∀ d ∈ E, d < e → ∀ k, K ≤ k → mvs E (itT E k τ) d = false) : ∀ k, K + 15 + r ≤ k → mvs E (itT E k τ) e = false := by
  have fixd : ∀ d ∈ E, d < e → ∀ k, K ≤ k → itT E k τ d = itT E K τ d := by
    intro d hd hlt k hk
    induction k with
    | zero => obtain rfl : K = 0 := by omega
              rfl
    | succ k ih =>
      rcases Nat.lt_or_ge k K with h1 | h1
      · obtain rfl : K = k + 1 := by omega
        rfl
      · rw [itT_succ]
        unfold nx
        rw [hK d hd hlt k h1, ← ih h1]
        rfl
  have pos : ∀ k, 0 ≤ itT E k τ e := by
    intro k
    induction k with
    | zero => exact h0
    | succ k ih => rw [itT_succ]; unfold nx; split <;> omega
  have stay : ∀ k, K ≤ k → mvs E (itT E k τ) e = false → mvs E (itT E (k + 1) τ) e = false := by
    intro k hk h
    have h2 : itT E (k + 1) τ e = itT E k τ e := by rw [itT_succ]; unfold nx; rw [h]; rfl
    rw [Bool.eq_false_iff, ne_eq, mvs_iff] at h ⊢
    rintro ⟨d, hd, h3, h4⟩
    refine h ⟨d, hd, h3, ?_⟩
    rw [fixd d hd h3 (k + 1) (by omega), h2] at h4
    rw [fixd d hd h3 k hk]
    exact h4
  have stays : ∀ k, K ≤ k → mvs E (itT E k τ) e = false → ∀ m, k ≤ m → mvs E (itT E m τ) e = false := by
    intro k hk h m hm
    induction m with
    | zero => obtain rfl : k = 0 := by omega
              exact h
    | succ m ih =>
      rcases Nat.lt_or_ge k (m + 1) with h1 | h1
      · exact stay m (by omega) (ih (by omega))
      · obtain rfl : k = m + 1 := by omega
        exact h
  by_cases hex : ∃ j, j ≤ 15 + r ∧ mvs E (itT E (K + j) τ) e = false
  · obtain ⟨j, hj, h⟩ := hex
    exact fun k hk => stays (K + j) (by omega) h k (by omega)
  · exfalso
    have hmv : ∀ j, j ≤ 15 + r → mvs E (itT E (K + j) τ) e = true := fun j hj => by
      cases h : mvs E (itT E (K + j) τ) e with
      | true => rfl
      | false => exact absurd ⟨j, hj, h⟩ hex
    have hτ : ∀ j, j ≤ 15 + r + 1 → itT E (K + j) τ e = itT E K τ e + j := by
      intro j hj
      induction j with
      | zero => simp
      | succ j ih =>
        rw [show K + (j + 1) = K + j + 1 from rfl, itT_succ]
        unfold nx
        rw [hmv j (by omega), ih (by omega)]
        simp
        omega
    have hin : ∀ j, j ≤ 15 + r → pk e (itT E K τ e + (j : Int)) ∈ (E.filter fun d => decide (d < e)).map fun d => pk d (itT E K τ d) := by
      intro j hj
      obtain ⟨d, hd, h1, h2⟩ := (mvs_iff _ _ _).1 (hmv j hj)
      rw [fixd d hd h1 _ (by omega), hτ j (by omega)] at h2
      exact List.mem_map.2 ⟨d, List.mem_filter.2 ⟨hd, by simpa using h1⟩, h2⟩
    have hlen : ((E.filter fun d => decide (d < e)).map fun d => pk d (itT E K τ d)).length = r := by
      rw [List.length_map, ← List.countP_eq_length_filter]; exact hr
    have hp := pos K
    have hsub := len_sub ((List.range (r + 1)).map fun i : Nat => pk e (itT E K τ e + 15 + (i : Int))) _ (by
      rw [List.nodup_iff_pairwise_ne, List.pairwise_map]
      refine List.Pairwise.imp_of_mem ?_ (List.nodup_iff_pairwise_ne.1 (List.nodup_range (n := r + 1)))
      intro a b ha hb hne he
      have h1 := List.mem_range.1 ha
      have h2 := List.mem_range.1 hb
      have := pk_inj (t := itT E K τ e + 15) (by omega) (by omega) (by omega) (by omega) (by omega) he
      omega) (fun x hx => by
      obtain ⟨i, hi, rfl⟩ := List.mem_map.1 hx
      have h1 := List.mem_range.1 hi
      have := hin (15 + i) (by omega)
      rw [show itT E K τ e + ((15 + i : Nat) : Int) = itT E K τ e + 15 + (i : Int) by omega] at this
      exact this)
    rw [hlen] at hsub
    simp at hsub
    omega
theorem stays_all {E : List Int} {τ : Int → Int} (hE : E.length ≤ 200) (h0 : ∀ e ∈ E, 0 ≤ τ e) : ∀ (r : Nat) (e : Int), e ∈ E → rk E e = r → ∀ k, T r ≤ k → mvs E (itT E k τ) e = false := by
  intro r
  induction r using Nat.strongRecOn with
  | _ r ih =>
    intro e he hr
    have hl := rk_le he
    cases r with
    | zero =>
      refine stays_of (K := 0) (h0 e he) hr (by omega) fun d hd hlt => ?_
      have := rk_lt hd hlt
      omega
    | succ r =>
      refine fun k hk => stays_of (K := T r) (h0 e he) hr (by omega) (fun d hd hlt k hk => ?_) k (by unfold T at hk; omega)
      have := rk_lt hd hlt
      exact ih (rk E d) (by omega) d hd rfl k (Nat.le_trans (T_mono (by omega)) hk)
theorem T_23 : T 23 = 636 := by decide
theorem ends {E : List Int} {τ : Int → Int} (hE : E.length ≤ 24) (h0 : ∀ e ∈ E, 0 ≤ τ e) (k : Nat) (hk : 636 ≤ k) : E.countP (mvs E (itT E k τ)) = 0 := by
  rw [List.countP_eq_zero]
  intro e he
  have h1 := rk_le he
  rw [stays_all (by omega) h0 (rk E e) e he rfl k (Nat.le_trans (T_mono (s := 23) (by omega)) (by rw [T_23]; exact hk))]
  exact Bool.false_ne_true

/-- What Settle hands back. -/
def stl (l : List Clm) : List Clm := if chk l = 0 then itR 700 l else l
theorem nch_end {l : List Clm} (h : chk l = 0) (k : Nat) (hk : 636 ≤ k) : nch (itR k l) = 0 := by
  obtain ⟨h1, h2, h3⟩ := (chk_zero l).1 h
  obtain ⟨τ, h4, h5⟩ := reps l h3 fun c hc => (h2 c hc).2.2
  rw [h4, itR_cl, nch_cl]
  refine ends (by rw [List.length_map]; exact h1) (fun e he => ?_) k hk
  obtain ⟨c, hc, rfl⟩ := List.mem_map.1 he
  rw [h5 c hc]
  exact (h2 c hc).1
theorem itR_fix {l : List Clm} (h : nch l = 0) : ∀ n, itR n l = l
  | 0 => rfl
  | n + 1 => by show itR n (rnd l) = l; rw [rnd_fix h]; exact itR_fix h n
theorem itR_add (m : Nat) : ∀ n l, itR (n + m) l = itR m (itR n l) := by
  intro n
  induction n with
  | zero => intro l; rw [Nat.zero_add]; rfl
  | succ n ih => intro l; rw [show n + 1 + m = n + m + 1 by omega]; exact ih (rnd l)
/-- Whatever round nothing changes in, the result is this. -/
theorem stl_is {l : List Clm} (h : chk l = 0) (k : Nat) (hn : nch (itR k l) = 0) : itR k l = stl l := by
  unfold stl
  rw [if_pos h]
  rcases Nat.le_total k 700 with h1 | h1
  · obtain ⟨m, hm⟩ := Nat.exists_eq_add_of_le h1
    rw [hm, itR_add, itR_fix hn]
  · obtain ⟨m, rfl⟩ := Nat.exists_eq_add_of_le h1
    rw [itR_add, itR_fix (nch_end h 700 (by omega))]
end Go.Proofs.Ytjhnilfnnongeaa.Adr
