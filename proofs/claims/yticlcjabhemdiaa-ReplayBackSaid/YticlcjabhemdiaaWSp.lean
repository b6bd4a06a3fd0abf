/- The plain facts of wire (XWS) without the laws of layer 2: for later seats. -/
import Derived.Test.YticlcjabhemdiaaWJ
set_option linter.unusedVariables false
namespace Go.Proofs.Yticlcjabhemdiaa.Wire
open Go.RowKit

theorem extract_bs (a t : List UInt8) (n : Nat) (h : n = a.length) : (bs (a ++ t)).extract n (bs (a ++ t)).size = bs t := by
  apply of_data
  rw [drop_at, bs_data, bs_data, h, List.drop_left]
theorem fInt_back (n : Int) (t : List UInt8) (hn : I64 n) : fInt (bs (enI n ++ t)) = (n, bs t, 0) := by
  have h : rd 0 0 (enI n ++ t) = (zig n, (enI n).length, 0) := by
    have h := rd_en 10 0 (zig n) 0 t rfl (by have := zig_lt n hn; omega) (fun h => absurd h (by omega))
    unfold enI
    rw [h]; simp
  unfold fInt
  rw [bs_data, h, unzig_zig, extract_bs _ _ _ rfl]
theorem fCount_back (m n : Int) (t : List UInt8) (hn : I64 n) (h0 : 0 ≤ n) (hm : n ≤ m) : fCount m (bs (enI n ++ t)) = (n, bs t, 0) := by
  unfold fCount
  rw [fInt_back n t hn]
  simp only [ne_eq, not_true, if_false]
  rw [if_neg (by omega), if_neg (by omega)]
theorem fTake_back (s : ByteArray) (t : List UInt8) : fTake s.size (bs (s.data.toList ++ t)) = (s, bs t, 0) := by
  unfold fTake
  rw [if_neg (by rw [bs_size, List.length_append, toNat_bytes]; omega), extract_bs _ _ _ (toNat_bytes s).symm]
  congr 1
  apply of_data
  rw [Lib.extract_data, bs_data, List.drop_zero, Nat.sub_zero, ← toNat_bytes, List.take_left]
theorem fText_back (s : ByteArray) (t : List UInt8) (hs : s.size ≤ 100000) : fText s.size (bs (enT s ++ t)) = (s, bs t, 0) := by
  unfold fText enT
  rw [List.append_assoc, fCount_back _ _ _ (nat_i64 _ (by omega)) (by omega) (Int.le_refl _)]
  simp only [ne_eq, not_true, if_false, Int.toNat_natCast]
  exact fTake_back s t
theorem fBool_back (q : Bool) (t : List UInt8) : fBool (bs (enB q ++ t)) = (q, bs t, 0) := by
  have hx : ∀ c : UInt8, (bs (c :: t)).extract 1 (bs (c :: t)).size = bs t := fun c => extract_bs [c] t 1 rfl
  cases q
  · show fBool (bs (0 :: t)) = _
    unfold fBool
    rw [bs_data]
    simp only [hx]
    rfl
  · show fBool (bs (1 :: t)) = _
    unfold fBool
    rw [bs_data]
    simp only [hx]
    rfl
theorem gInts_back (l : List Int) : ∀ t : List UInt8, (∀ n ∈ l, I64 n) → gInts l.length (bs (enAll l ++ t)) = (l, bs t, 0) := by
  induction l with
  | nil => intro t _; rfl
  | cons n l ih =>
    intro t h
    have e : enAll (n :: l) ++ t = enI n ++ (enAll l ++ t) := by unfold enAll; rw [List.flatMap_cons, List.append_assoc]
    rw [e, List.length_cons]
    unfold gInts
    rw [fInt_back n _ (h n List.mem_cons_self)]
    simp only [ne_eq, not_true, if_false]
    rw [ih t fun m hm => h m (List.mem_cons_of_mem _ hm)]
    simp
theorem fInts_back (m : Int) (l : List Int) (t : List UInt8) (hl : (l.length : Int) ≤ m) (hlen : l.length ≤ 100000) (h : ∀ n ∈ l, I64 n) : fInts m (bs (enL l ++ t)) = (l, bs t, 0) := by
  unfold fInts enL
  rw [List.append_assoc, fCount_back _ _ _ (nat_i64 _ (by omega)) (by omega) hl]
  simp only [ne_eq, not_true, if_false, Int.toNat_natCast]
  exact gInts_back l t h

/-- The encoding of what was read, and what is left, is what there was. -/
theorem fInt_canon (s t : ByteArray) (v : Int) (hs : s.size ≤ 100000) (h : fInt s = (v, t, 0)) : I64 v ∧ s.data.toList = enI v ++ t.data.toList := by
  unfold fInt at h
  obtain ⟨h1, h2, h3⟩ : unzig (rd 0 0 s.data.toList).1 = v ∧ s.extract (rd 0 0 s.data.toList).2.1 s.size = t ∧ (rd 0 0 s.data.toList).2.2 = 0 := by
    simpa using h
  have hrd : rd 0 0 s.data.toList = ((rd 0 0 s.data.toList).1, (rd 0 0 s.data.toList).2.1, 0) := by rw [← h3]
  obtain ⟨z, hz, hz2, hn, hl, ht⟩ := en_rd s.data.toList 0 0 _ _ (by omega) hrd
  simp only [Nat.pow_zero, Nat.mul_one, Nat.zero_add, Nat.sub_zero] at hz hz2 ht
  rw [hz] at h1
  refine ⟨h1 ▸ unzig_in z hz2, ?_⟩
  have e : enI v = en 10 z := by unfold enI; rw [← h1, zig_unzig]
  rw [e, ← ht, ← h2, drop_at, List.take_append_drop]
theorem fCount_canon (m v : Int) (s t : ByteArray) (hs : s.size ≤ 100000) (h : fCount m s = (v, t, 0)) : 0 ≤ v ∧ v ≤ max m 0 ∧ I64 v ∧ s.data.toList = enI v ++ t.data.toList := by
  unfold fCount at h
  by_cases h1 : (fInt s).2.2 = 0
  · rw [if_neg (by simpa using h1)] at h
    by_cases h2 : (fInt s).1 < 0
    · rw [if_pos h2] at h; cases h
    · rw [if_neg h2] at h
      by_cases h3 : max m 0 < (fInt s).1
      · rw [if_pos h3] at h; cases h
      · rw [if_neg h3] at h
        obtain ⟨e1, e2⟩ : (fInt s).1 = v ∧ (fInt s).2.1 = t := by simpa using h
        obtain ⟨c1, c2⟩ := fInt_canon s t v hs (by rw [← e1, ← e2, ← h1])
        exact ⟨by omega, by omega, c1, c2⟩
  · rw [if_pos h1] at h
    have : (fInt s).2.2 = 0 := by have := congrArg (fun x => x.2.2) h; simpa using this
    exact absurd this h1
theorem fTake_canon (n : Nat) (s u t : ByteArray) (h : fTake n s = (u, t, 0)) : n = u.size ∧ s.data.toList = u.data.toList ++ t.data.toList := by
  unfold fTake at h
  by_cases h1 : s.size < n
  · rw [if_pos h1] at h; cases h
  · rw [if_neg h1] at h
    obtain ⟨rfl, rfl⟩ : s.extract 0 n = u ∧ s.extract n s.size = t := by simpa using h
    refine ⟨by simp; omega, ?_⟩
    rw [drop_at, Lib.extract_data, List.drop_zero, Nat.sub_zero, List.take_append_drop]
theorem fText_canon (m : Int) (s u t : ByteArray) (hs : s.size ≤ 100000) (h : fText m s = (u, t, 0)) : (u.size : Int) ≤ max m 0 ∧ s.data.toList = enT u ++ t.data.toList := by
  unfold fText at h
  by_cases h1 : (fCount m s).2.2 = 0
  · rw [if_neg (by simpa using h1)] at h
    obtain ⟨c0, c1, c2, c3⟩ := fCount_canon m _ s (fCount m s).2.1 hs (by rw [← h1])
    obtain ⟨t1, t2⟩ := fTake_canon _ _ _ _ h
    have e : (fCount m s).1 = (u.size : Int) := by omega
    rw [e] at c1 c3
    refine ⟨c1, ?_⟩
    rw [c3, t2]; unfold enT; rw [List.append_assoc]
  · rw [if_pos h1] at h
    have : (fCount m s).2.2 = 0 := by have := congrArg (fun x => x.2.2) h; simpa using this
    exact absurd this h1
theorem fBool_canon (q : Bool) (s t : ByteArray) (h : fBool s = (q, t, 0)) : s.data.toList = enB q ++ t.data.toList := by
  by_cases h0 : 0 < s.size
  · rw [fBool_cons s h0] at h
    by_cases h1 : 1 < s[0].toNat
    · rw [if_pos h1] at h; cases h
    · rw [if_neg h1] at h
      obtain ⟨rfl, rfl⟩ : decide (s[0].toNat = 1) = q ∧ s.extract 1 s.size = t := by simpa using h
      rw [drop_at]
      have e : s.data.toList = s[0] :: s.data.toList.drop 1 := drop_cons s 0 h0
      conv => lhs; rw [e]
      by_cases h2 : s[0].toNat = 1
      · have : s[0] = 1 := UInt8.toNat_inj.1 h2
        rw [decide_eq_true h2, this]; rfl
      · have : s[0] = 0 := UInt8.toNat_inj.1 (by show s[0].toNat = 0; omega)
        rw [decide_eq_false h2, this]; rfl
  · rw [fBool_nil s (by omega)] at h; cases h
theorem gInts_canon (n : Nat) : ∀ (s t : ByteArray) (l : List Int), s.size ≤ 100000 → gInts n s = (l, t, 0) → l.length = n ∧ (∀ m ∈ l, I64 m) ∧ s.data.toList = enAll l ++ t.data.toList := by
  induction n with
  | zero =>
    intro s t l hs h
    cases h
    exact ⟨rfl, fun _ h => absurd h List.not_mem_nil, rfl⟩
  | succ n ih =>
    intro s t l hs h
    unfold gInts at h
    by_cases h1 : (fInt s).2.2 = 0
    · rw [if_neg (by simpa using h1)] at h
      by_cases h2 : (gInts n (fInt s).2.1).2.2 = 0
      · rw [if_neg (by simpa using h2)] at h
        obtain ⟨rfl, e2⟩ : (fInt s).1 :: (gInts n (fInt s).2.1).1 = l ∧ (gInts n (fInt s).2.1).2.1 = t := by simpa using h
        obtain ⟨c1, c2⟩ := fInt_canon s (fInt s).2.1 (fInt s).1 hs (by rw [← h1])
        have hz := fInt_size s hs
        obtain ⟨d1, d2, d3⟩ := ih (fInt s).2.1 t (gInts n (fInt s).2.1).1 (by omega) (by rw [← e2, ← h2])
        refine ⟨by rw [List.length_cons, d1], fun m hm => ?_, ?_⟩
        · rcases List.mem_cons.1 hm with rfl | hm
          · exact c1
          · exact d2 m hm
        · rw [c2, d3]; unfold enAll; rw [List.flatMap_cons, List.append_assoc]
      · rw [if_pos h2] at h
        have : (gInts n (fInt s).2.1).2.2 = 0 := by have := congrArg (fun x => x.2.2) h; simpa using this
        exact absurd this h2
    · rw [if_pos h1] at h
      have : (fInt s).2.2 = 0 := by have := congrArg (fun x => x.2.2) h; simpa using this
      exact absurd this h1
theorem fInts_canon (m : Int) (s t : ByteArray) (l : List Int) (hs : s.size ≤ 100000) (h : fInts m s = (l, t, 0)) : (l.length : Int) ≤ max m 0 ∧ (∀ m ∈ l, I64 m) ∧ s.data.toList = enL l ++ t.data.toList := by
  unfold fInts at h
  by_cases h1 : (fCount m s).2.2 = 0
  · rw [if_neg (by simpa using h1)] at h
    obtain ⟨c0, c1, c2, c3⟩ := fCount_canon m _ s (fCount m s).2.1 hs (by rw [← h1])
    have hz := fCount_size m s hs
    obtain ⟨d1, d2, d3⟩ := gInts_canon _ _ _ _ (by omega) h
    have e : (fCount m s).1 = (l.length : Int) := by omega
    rw [e] at c1 c3
    refine ⟨c1, d2, ?_⟩
    rw [c3, d3]; unfold enL; rw [List.append_assoc]
  · rw [if_pos h1] at h
    have : (fCount m s).2.2 = 0 := by have := congrArg (fun x => x.2.2) h; simpa using this
    exact absurd this h1
end Go.Proofs.Yticlcjabhemdiaa.Wire
