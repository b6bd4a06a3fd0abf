/- Contracts of Next of sched and of its reference. -/
import Derived.Test.YtnocbgimfmgdeaaSK
set_option linter.unusedVariables false
namespace Go.Proofs.Ytnocbgimfmgdeaa
open Go.RowKit

/-- r is the number of minutes until the set changes, from M on. -/
def NxIs (S : Int → Bool) (M r : Int) : Prop :=
  (r = 0 ∧ ∀ k, 1 ≤ k → k ≤ 10080 → S ((M + k) % 10080) = S M) ∨ (1 ≤ r ∧ r ≤ 10080 ∧ S ((M + r) % 10080) ≠ S M ∧ ∀ k, 1 ≤ k → k < r → S ((M + k) % 10080) = S M)
theorem NxIs.one {S : Int → Bool} {M r q : Int} (h : NxIs S M r) (g : NxIs S M q) : r = q := by
  rcases h with ⟨h1, h2⟩ | ⟨h1, h2, h3, h4⟩ <;> rcases g with ⟨g1, g2⟩ | ⟨g1, g2, g3, g4⟩
  · omega
  · exact absurd (h2 q g1 g2) g3
  · exact absurd (g2 r h1 h2) h3
  · rcases Int.lt_trichotomy r q with e | e | e
    · exact absurd (g4 r h1 e) h3
    · exact e
    · exact absurd (h4 q g1 e) g3
theorem NxIs.bd {S : Int → Bool} {M r : Int} (h : NxIs S M r) : 0 ≤ r ∧ r ≤ 10080 := by
  rcases h with ⟨h1, _⟩ | ⟨h1, h2, _⟩ <;> omega
/-- Such a number is handed back. -/
def OutX (w : World) (S : Int → Bool) (M : Int) (e : Ending) (w' : World) : Prop := ∃ r, e = .returned (.int .i64 r) ∧ NxIs S M r ∧ Below w.heap.size w w'

/-- The least distance to the beginnings, 0 without one. -/
def mnD (M : Int) : List Spn → Int
  | [] => 0
  | s :: r => (s.1 - M) % 10080 + 0 * mnD M r
/-- What is known of the least distance ahead of the k-th span. -/
def DsI (M : Int) (F : List Spn) (x : Int) : Prop := (F = [] ∧ x = 0) ∨ (1 ≤ x ∧ (∃ s ∈ F, x = (s.1 - M) % 10080) ∧ ∀ s ∈ F, x ≤ (s.1 - M) % 10080)
theorem DsI.snoc {M : Int} {F : List Spn} {x : Int} (h : DsI M F x) (s : Spn) (hd : 1 ≤ (s.1 - M) % 10080) : DsI M (F ++ [s]) (if x = 0 ∨ (s.1 - M) % 10080 < x then (s.1 - M) % 10080 else x) := by
  refine Or.inr ?_
  rcases h with ⟨rfl, rfl⟩ | ⟨h1, ⟨t, ht, h2⟩, h3⟩
  · rw [if_pos (Or.inl rfl)]
    exact ⟨hd, ⟨s, by simp, rfl⟩, fun t ht => by rw [List.nil_append, List.mem_singleton] at ht; subst ht; exact Int.le_refl _⟩
  · by_cases c : x = 0 ∨ (s.1 - M) % 10080 < x
    · rw [if_pos c]
      refine ⟨hd, ⟨s, List.mem_append_right _ List.mem_cons_self, rfl⟩, fun u hu => ?_⟩
      rcases List.mem_append.1 hu with hu | hu
      · have := h3 u hu; omega
      · rw [List.mem_singleton] at hu; subst hu; exact Int.le_refl _
    · rw [if_neg c]
      refine ⟨h1, ⟨t, List.mem_append_left _ ht, h2⟩, fun u hu => ?_⟩
      rcases List.mem_append.1 hu with hu | hu
      · exact h3 u hu
      · rw [List.mem_singleton] at hu; subst hu; omega
/-- The least distance to a beginning of what is other is the number of minutes until the change. -/
theorem DsI.fin {M : Int} {F : List Spn} {S T : Int → Bool} {x : Int} (h : DsI M F x) (hF : NF F T) (hM : 0 ≤ M ∧ M < 10080) (hT : ∀ m, 0 ≤ m → m < 10080 → (T m = true ↔ S m ≠ S M)) : NxIs S M x := by
  have hTM : T M ≠ true := fun g => (hT M hM.1 hM.2).1 g rfl
  have hso : ∀ s ∈ F, 0 ≤ s.1 ∧ s.1 < s.2 ∧ s.2 ≤ 10080 ∧ (∀ m, s.1 ≤ m → m < s.2 → T m = true) := fun s hs => by
    have := ascS_all hF.1 s hs
    refine ⟨by omega, by omega, by omega, fun m h1 h2 => ?_⟩
    rw [← hF.2 m]
    exact (inS_iff F m).2 ⟨s, hs, (inO_iff s m).2 ⟨by omega, by omega, by omega, h1, h2⟩⟩
  have hno : ∀ s ∈ F, ¬ (s.1 ≤ M ∧ M < s.2) := fun s hs g => hTM ((hso s hs).2.2.2 M g.1 g.2)
  rcases h with ⟨rfl, rfl⟩ | ⟨h1, ⟨t, ht, h2⟩, h3⟩
  · refine Or.inl ⟨rfl, fun k k1 k2 => ?_⟩
    by_cases e : S ((M + k) % 10080) = S M
    · exact e
    · have := (hT ((M + k) % 10080) (by omega) (by omega)).2 e
      rw [← hF.2] at this
      cases this
  · refine Or.inr ⟨h1, by omega, ?_, fun k k1 k2 => ?_⟩
    · have ht2 := hso t ht
      have e : (M + x) % 10080 = t.1 := by omega
      rw [e]
      exact (hT t.1 (by omega) (by omega)).1 (ht2.2.2.2 t.1 (Int.le_refl _) ht2.2.1)
    · by_cases e : S ((M + k) % 10080) = S M
      · exact e
      · exfalso
        have g := (hT ((M + k) % 10080) (by omega) (by omega)).2 e
        rw [← hF.2] at g
        obtain ⟨s, hs, hi⟩ := (inS_iff F _).1 g
        have hi := (inO_iff s _).1 hi
        have hn := hno s hs
        have hd := h3 s hs
        have hx : x ≤ 10079 := by omega
        by_cases c1 : M + k < 10080
        · have : (M + k) % 10080 = M + k := by omega
          by_cases c2 : s.1 ≤ M
          · omega
          · omega
        · have : (M + k) % 10080 = M + k - 10080 := by omega
          by_cases c2 : s.1 ≤ M
          · omega
          · omega

/-- Nothing changes for k minutes. -/
def SameTo (S : Int → Bool) (M k : Int) : Prop := ∀ j, 1 ≤ j → j ≤ k → S ((M + j) % 10080) = S M
theorem SameTo.step {S : Int → Bool} {M k : Int} (h : SameTo S M k) (e : S ((M + (k + 1)) % 10080) = S M) : SameTo S M (k + 1) := fun j h1 h2 => by
  by_cases c : j ≤ k
  · exact h j h1 c
  · obtain rfl : j = k + 1 := by omega
    exact e

set_option maxRecDepth 100000 in
set_option maxHeartbeats 2000000 in
theorem rnext_any (w : World) (A : Option Addr) (c : Nat) (l : List Spn) (m : Int) (hl : l.length ≤ 100000) (hA : SpAt w w.heap.size A l) :
    Calls Try.prog 23 #[.slice A l.length c, .int .i64 m] w (OutX w (inS l) (m % 10080)) := by
  have MI := Lib.hid (minutes_any A c l w hl hA)
  have OW := Lib.hid (fun w => rminute_any w m)
  obtain ⟨M, hM⟩ : ∃ M, M = m % 10080 := ⟨_, rfl⟩
  rw [← hM] at OW ⊢
  have hM1 : 0 ≤ M := by omega
  have hM2 : M < 10080 := by omega
  obtain ⟨mn, hmn⟩ := Int.eq_ofNat_of_zero_le hM1
  subst hmn
  have hmn : mn < 10080 := by omega
  clear hA hM hM1 hM2
  go_enter Try.func23, Try.ntmps23
  go_wp2_with fail
  refine MI.out.mono ?_
  rintro e w1 ⟨g, rfl, hge, hrow, hb⟩
  have R := Lib.hid hrow
  have B1 := Lib.hid hb
  clear hrow hb
  go_wp2_with fail
  refine (OW.out _).mono ?_
  rintro e w' ⟨rfl, rfl⟩
  go_wp2_with fail
  go_loopw [6] (fun i wr => ∃ k : Nat, i = .int .i64 ((k : Int) + 1) ∧ k ≤ 10080 ∧ SameTo (inS l) mn k ∧ MinRow wr g (inS l) ∧ Below w.heap.size w wr) (fun i _ => 10081 - (intOf i).toNat)
  case atStart => exact ⟨0, rfl, Nat.zero_le _, fun j h1 h2 => absurd h1 (by omega), R.out, B1.out⟩
  case round =>
    obtain ⟨k, rfl, hk, hall, hrow, hb⟩ := hrel
    have AL := Lib.hid hall
    have R := Lib.hid hrow
    have B := Lib.hid hb
    have RD := Lib.hid (fun N => hrow.below (below_drewN (Below.refl _ _) N))
    clear hall hrow hb
    by_cases hlt : k < 10080
    · obtain ⟨q, hq⟩ := Int.eq_ofNat_of_zero_le (show 0 ≤ ((mn : Int) + ((k : Int) + 1)) % 10080 by omega)
      have hq2 : q < 10080 := by omega
      have cm := R.out.cell (i := mn) hmn
      have cq := R.out.cell (i := q) hq2
      have CM := Lib.hid cm
      have CQ := Lib.hid cq
      have HQ := Lib.hid hq
      have MN := Lib.hid (fun w => rminute_any w ((mn : Int) + ((k : Int) + 1)))
      rw [hq] at MN
      have i1 : (q : Int) < 10080 := by omega
      have i2 : (mn : Int) < 10080 := by omega
      have d0 : (k : Int) + 1 ≤ 10080 := by omega
      have j0 : IntKind.i64.wrap ((mn : Int) + ((k : Int) + 1)) = (mn : Int) + ((k : Int) + 1) := IntWalk.i64_in _ (by omega)
      clear cm cq hq
      rcases hs : inS l (mn : Int) with _ | _ <;> rcases ht : inS l (q : Int) with _ | _
      all_goals
        have cm := CM.out
        have cq := CQ.out
        rw [hs] at cm
        rw [ht] at cq
        have HS := Lib.hid hs
        have HT := Lib.hid ht
        clear hs ht
        go_wp2_with fail
        go_quiet ((go_at_call 37; exact quiet_same (MN.out _)))
        clear cm cq i1 i2 j0
        go_wp2_with fail
      · go_roundw
        case rel => exact ⟨k + 1, by go_num, hlt, AL.out.step (by rw [HQ.out, HT.out, HS.out]), RD.out _, below_drewN B.out _⟩
        case measure => simp [intOf]; omega
      · go_ret
        exact ⟨_, rfl, Or.inr ⟨by omega, by omega, by rw [HQ.out, HS.out, HT.out]; decide, fun j h1 h2 => AL.out j h1 (by omega)⟩, below_drewN B.out _⟩
      · go_ret
        exact ⟨_, rfl, Or.inr ⟨by omega, by omega, by rw [HQ.out, HS.out, HT.out]; decide, fun j h1 h2 => AL.out j h1 (by omega)⟩, below_drewN B.out _⟩
      · go_roundw
        case rel => exact ⟨k + 1, by go_num, hlt, AL.out.step (by rw [HQ.out, HT.out, HS.out]), RD.out _, below_drewN B.out _⟩
        case measure => simp [intOf]; omega
    · have d0 : ¬ (k : Int) + 1 ≤ 10080 := by omega
      go_wp2_with fail
      go_ret
      exact ⟨_, rfl, Or.inl ⟨rfl, fun j h1 h2 => AL.out j h1 (by omega)⟩, B.out⟩
end Go.Proofs.Ytnocbgimfmgdeaa
