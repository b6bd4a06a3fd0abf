/- The contract of readEscape of names. -/
import Derived.Test.YtmildkjkppnblaaDoorNA
set_option linter.unusedVariables false
namespace Go.Proofs.YtmildkjkppnblaaDoor
open Go.RowKit

/-- What readEscape hands back. -/
def escR (x : Option (UInt8 × Nat)) : UInt8 × Nat := x.getD (0, 0)
def OutEsc (x : Option (UInt8 × Nat)) (w : World) (e : Ending) (w' : World) : Prop :=
  e = .returned (.tuple #[.int .u8 ((escR x).1.toNat : Int), .int .i64 ((escR x).2 : Int)]) ∧ Below w.heap.size w w'
theorem out_none {x : Option (UInt8 × Nat)} {w w' : World} (h : x = none) (hb : Below w.heap.size w w') : OutEsc x w (.returned (.tuple #[.int .u8 0, .int .i64 0])) w' := by subst h; exact ⟨rfl, hb⟩
theorem out_some {x : Option (UInt8 × Nat)} {w w' : World} {c : UInt8} {n : Nat} (h : x = some (c, n)) {a b : Int} (ha : a = (c.toNat : Int)) (hn : b = (n : Int)) (hb : Below w.heap.size w w') : OutEsc x w (.returned (.tuple #[.int .u8 a, .int .i64 b])) w' := by
  subst h; subst ha; subst hn; exact ⟨rfl, hb⟩
theorem wrap_u8 (n : Nat) (h : n < 256) : IntKind.u8.wrap (n : Int) = (n : Int) := by rw [IntKind.wrap_u8]; omega

theorem below_drewN (w : World) (n : Nat) : Below w.heap.size w (w.drewN n) := ⟨rfl, rfl, rfl, Nat.le_refl _, fun _ _ => rfl⟩

set_option maxHeartbeats 1000000 in
theorem esc_any (s : ByteArray) (w : World) (h1 : 1 ≤ s.size) (hs : s.size ≤ 100000) (x : Option (UInt8 × Nat)) (hx : esc (s.data.toList.drop 1) = x) :
    Calls Tryd.prog 23 #[.string s] w (OutEsc x w) := by
  by_cases h2 : 2 ≤ s.size
  · have e1 := at_drop s 1 h2
    have c1 := (s[1]).toNat_lt
    by_cases hq : s[1].toNat = 34 ∨ s[1].toNat = 92
    · have X := Lib.hid (show x = some (s[1], 2) by rw [← hx, e1]; exact esc_self _ _ hq)
      have HQ := Lib.hid hq
      clear e1 hq hx
      go_enter Tryd.func23, Tryd.ntmps23
      go_wp2_with fail
      refine (slash_yes _ _ HQ.out).mono ?_
      rintro e w' ⟨rfl, rfl⟩
      go_wp2_with fail
      exact bodyPost_ret (v := .tuple #[.int .u8 (s[1].toNat : Int), .int .i64 2]) (by simp [results, Tryd.results23, go_sem]) rfl (out_some X.out rfl rfl (Below.refl _ _))
    · have HQ := Lib.hid hq
      by_cases h4 : 4 ≤ s.size
      · have l2 : (2 : Int) < (s.size : Int) := by omega
        have l3 : (3 : Int) < (s.size : Int) := by omega
        have l4 : decide ((s.size : Int) < 4) = false := decide_eq_false (by omega)
        have e2 := at_drop s 2 (by omega)
        have e3 := at_drop s 3 (by omega)
        have c2 := (s[2]).toNat_lt
        have c3 := (s[3]).toNat_lt
        by_cases hx1 : s[1].toNat = 120
        · have E0 : x = if hv s[2] < 16 ∧ hv s[3] < 16 ∧ ¬ (32 ≤ 16 * hv s[2] + hv s[3] ∧ 16 * hv s[2] + hv s[3] ≤ 126) then some (UInt8.ofNat (16 * hv s[2] + hv s[3]), 4) else none := by
            rw [← hx, e1, e2, e3]; exact esc_hex _ _ _ _ hx1
          have i2 := hvI_le s[2]
          have i3 := hvI_le s[3]
          have hxx : (((s[1].toNat : Int) != 120)) = false := by simp; omega
          have q2 := index_any s[2]
          have q3 := index_any s[3]
          clear hq e1 e2 e3 hx1 hx
          by_cases b2 : hv s[2] < 16
          · have j2 : hvI s[2] = (hv s[2] : Int) := by unfold hvI; rw [if_pos b2]
            by_cases b3 : hv s[3] < 16
            · have j3 : hvI s[3] = (hv s[3] : Int) := by unfold hvI; rw [if_pos b3]
              have O := or_hex _ _ b2 b3
              rw [j2] at q2
              rw [j3] at q3
              generalize hv s[2] = a at *
              generalize hv s[3] = b at *
              have Q2 := Lib.hid q2
              have Q3 := Lib.hid q3
              clear j2 j3 i2 i3 q2 q3
              obtain ⟨m, hm⟩ : ∃ m, 16 * a + b = m := ⟨_, rfl⟩
              rw [hm] at O E0
              have hm2 : m < 256 := by omega
              have hna : ¬ (a : Int) < 0 := by omega
              have hnb : ¬ (b : Int) < 0 := by omega
              clear hm
              by_cases hp : 32 ≤ m ∧ m ≤ 126
              · have X := Lib.hid (show x = none by rw [E0, if_neg (by omega)])
                clear E0
                by_cases hq2 : m = 34 ∨ m = 92
                · have P := Lib.hid (show plB m = false from decide_eq_false (by omega))
                  have Q := Lib.hid hq2
                  clear hp hq2
                  go_enter Tryd.func23, Tryd.ntmps23
                  go_wp2_with fail
                  refine (slash_no _ _ HQ.out).mono ?_
                  rintro e w' ⟨rfl, rfl⟩
                  go_wp2_with fail
                  go_quiet ((first | (go_at_call 24; with_reducible exact Calls.quiet_of_same (Q2.out _)) | (go_at_call 24; exact Calls.quiet_of_same (Q3.out _))))
                  go_wp2_with fail
                  refine (plain_any m _).mono ?_
                  rw [P.out]
                  rintro e w' ⟨rfl, rfl⟩
                  go_wp2_with fail
                  refine (slash_yes m _ Q.out).mono ?_
                  rintro e w' ⟨rfl, rfl⟩
                  go_wp2_with fail
                  exact bodyPost_ret (v := .tuple #[.int .u8 0, .int .i64 0]) (by simp [results, Tryd.results23, go_sem]) rfl (out_none (X.out) (below_drewN _ _))
                · have P := Lib.hid (show plB m = true from decide_eq_true (by omega))
                  clear hp hq2
                  go_enter Tryd.func23, Tryd.ntmps23
                  go_wp2_with fail
                  refine (slash_no _ _ HQ.out).mono ?_
                  rintro e w' ⟨rfl, rfl⟩
                  go_wp2_with fail
                  go_quiet ((first | (go_at_call 24; with_reducible exact Calls.quiet_of_same (Q2.out _)) | (go_at_call 24; exact Calls.quiet_of_same (Q3.out _))))
                  go_wp2_with fail
                  refine (plain_any m _).mono ?_
                  rw [P.out]
                  rintro e w' ⟨rfl, rfl⟩
                  go_wp2_with fail
                  exact bodyPost_ret (v := .tuple #[.int .u8 0, .int .i64 0]) (by simp [results, Tryd.results23, go_sem]) rfl (out_none (X.out) (below_drewN _ _))
              · have X := Lib.hid (show x = some (UInt8.ofNat m, 4) by rw [E0, if_pos (by omega)])
                have P := Lib.hid (show plB m = false from decide_eq_false (by omega))
                have Q := Lib.hid (show ¬ (m = 34 ∨ m = 92) by omega)
                have N := Lib.hid (show (m : Int) = ((UInt8.ofNat m).toNat : Int) by rw [UInt8.toNat_ofNat']; omega)
                clear E0 hp
                go_enter Tryd.func23, Tryd.ntmps23
                go_wp2_with fail
                refine (slash_no _ _ HQ.out).mono ?_
                rintro e w' ⟨rfl, rfl⟩
                go_wp2_with fail
                go_quiet ((first | (go_at_call 24; with_reducible exact Calls.quiet_of_same (Q2.out _)) | (go_at_call 24; exact Calls.quiet_of_same (Q3.out _))))
                go_wp2_with fail
                refine (plain_any m _).mono ?_
                rw [P.out]
                rintro e w' ⟨rfl, rfl⟩
                go_wp2_with fail
                refine (slash_no m _ Q.out).mono ?_
                rintro e w' ⟨rfl, rfl⟩
                go_wp2_with fail
                exact bodyPost_ret (v := .tuple #[.int .u8 (m : Int), .int .i64 4]) (by simp [results, Tryd.results23, go_sem]) rfl (out_some X.out N.out rfl (below_drewN _ _))
            · have X := Lib.hid (show x = none by rw [E0, if_neg (by omega)])
              have j3 : hvI s[3] = -1 := by unfold hvI; rw [if_neg b3]
              rw [j2] at q2
              rw [j3] at q3
              generalize hv s[2] = a at *
              have Q2 := Lib.hid q2
              have Q3 := Lib.hid q3
              have hna : ¬ (a : Int) < 0 := by omega
              clear E0 b3 j2 j3 q2 q3 i2 i3
              go_enter Tryd.func23, Tryd.ntmps23
              go_wp2_with fail
              refine (slash_no _ _ HQ.out).mono ?_
              rintro e w' ⟨rfl, rfl⟩
              go_wp2_with fail
              go_quiet ((first | (go_at_call 24; with_reducible exact Calls.quiet_of_same (Q2.out _)) | (go_at_call 24; exact Calls.quiet_of_same (Q3.out _))))
              go_wp2_with fail
              exact bodyPost_ret (v := .tuple #[.int .u8 0, .int .i64 0]) (by simp [results, Tryd.results23, go_sem]) rfl (out_none (X.out) (below_drewN _ _))
          · have X := Lib.hid (show x = none by rw [E0, if_neg (by omega)])
            have j2 : hvI s[2] = -1 := by unfold hvI; rw [if_neg b2]
            rw [j2] at q2
            generalize hvI s[3] = b at *
            have Q2 := Lib.hid q2
            have Q3 := Lib.hid q3
            clear E0 b2 j2 q2 q3 i2 i3
            go_enter Tryd.func23, Tryd.ntmps23
            go_wp2_with fail
            refine (slash_no _ _ HQ.out).mono ?_
            rintro e w' ⟨rfl, rfl⟩
            go_wp2_with fail
            go_quiet ((first | (go_at_call 24; with_reducible exact Calls.quiet_of_same (Q2.out _)) | (go_at_call 24; exact Calls.quiet_of_same (Q3.out _))))
            go_wp2_with fail
            exact bodyPost_ret (v := .tuple #[.int .u8 0, .int .i64 0]) (by simp [results, Tryd.results23, go_sem]) rfl (out_none (X.out) (below_drewN _ _))
        · have X := Lib.hid (show x = none by rw [← hx, e1]; exact esc_other _ _ hq hx1)
          have hxx : (((s[1].toNat : Int) != 120)) = true := by simp; omega
          clear hq e1 e2 e3 hx1 hx
          go_enter Tryd.func23, Tryd.ntmps23
          go_wp2_with fail
          refine (slash_no _ _ HQ.out).mono ?_
          rintro e w' ⟨rfl, rfl⟩
          go_wp2_with fail
          exact bodyPost_ret (v := .tuple #[.int .u8 0, .int .i64 0]) (by simp [results, Tryd.results23, go_sem]) rfl (out_none (X.out) (Below.refl _ _))
      · have X := Lib.hid (show x = none by
          rw [← hx, e1]
          by_cases hx1 : s[1].toNat = 120
          · by_cases h3 : 3 ≤ s.size
            · rw [at_drop s 2 (by omega), at_end s 3 (by omega)]; exact esc_short1 _ _ hx1
            · rw [at_end s 2 (by omega)]; exact esc_short0 _ hx1
          · exact esc_other _ _ hq hx1)
        have l4 : decide ((s.size : Int) < 4) = true := decide_eq_true (by omega)
        clear hq e1 hx
        go_enter Tryd.func23, Tryd.ntmps23
        go_wp2_with fail
        refine (slash_no _ _ HQ.out).mono ?_
        rintro e w' ⟨rfl, rfl⟩
        go_wp2_with fail
        exact bodyPost_ret (v := .tuple #[.int .u8 0, .int .i64 0]) (by simp [results, Tryd.results23, go_sem]) rfl (out_none (X.out) (Below.refl _ _))
  · have X := Lib.hid (show x = none by rw [← hx, at_end s 1 (by omega)]; rfl)
    have l4 : decide ((s.size : Int) < 4) = true := decide_eq_true (by omega)
    clear hx
    go_enter Tryd.func23, Tryd.ntmps23
    go_wp2_with fail
    exact bodyPost_ret (v := .tuple #[.int .u8 0, .int .i64 0]) (by simp [results, Tryd.results23, go_sem]) rfl (out_none (X.out) (Below.refl _ _))
end Go.Proofs.YtmildkjkppnblaaDoor
