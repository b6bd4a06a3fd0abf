/- The walks of NamesBack and NamesPrintable. -/
import Derived.Test.YtmildkjkppnblaaDoorNW
set_option linter.unusedVariables false
namespace Go.Proofs.YtmildkjkppnblaaDoor
open Go.RowKit

theorem str_nil (t : List UInt8) (b : Bool) (h : decide (t = []) = b) : ((bs t).toList == []) = b ∧ ((bs t).toList != []) = !b := by
  have e : ((bs t).toList == []) = b := by
    subst h
    rw [Lib.toList_data, bs_data]
    exact Bool.eq_iff_iff.2 (by simp)
  exact ⟨e, by unfold bne; rw [e]⟩

set_option maxHeartbeats 2000000 in
theorem law_back (s q : ByteArray) (w : World) (hs : s.size ≤ 9223372036854775807) (hq : q.size ≤ 9223372036854775807) (hT : Tabs w) :
    Calls Tryd.prog 4 #[.string s, .string q] w (OutBool true w) := by
  by_cases h1 : 2000 < s.size
  · clear hT
    go_enter Tryd.func4, Tryd.ntmps4
    go_wp2_with fail
    refine (lives_any _).mono ?_
    rintro e w1 ⟨rfl, hb⟩
    go_wp2_with fail
    go_ret
    exact outb rfl hb
  by_cases h2 : 2000 < q.size
  · clear hT
    go_enter Tryd.func4, Tryd.ntmps4
    go_wp2_with fail
    refine (lives_any _).mono ?_
    rintro e w1 ⟨rfl, hb⟩
    go_wp2_with fail
    go_ret
    exact outb rfl hb
  obtain ⟨l, rfl⟩ : ∃ l, s = bs l := ⟨_, (bs_self s).symm⟩
  obtain ⟨m, rfl⟩ : ∃ m, q = bs m := ⟨_, (bs_self q).symm⟩
  have Z1 := Lib.hid (bs_size l)
  have Z2 := Lib.hid (bs_size m)
  have hql := quo_size l
  have Q1 := Lib.hid (quote_any (bs l) w (by omega) hT)
  rw [bs_data] at Q1
  have U1 := Lib.hid (fun w2 => uq_any (bs (quo l)) w2 (by have := Z1.out; omega) _ (unq_quo l))
  have T := Lib.hid hT
  have UM := Lib.hid (fun w2 => uq_any (bs m) w2 (by omega) _ rfl)
  rw [bs_data] at UM
  have hlen := Z1.out
  have hgood : ∀ (w1 : World), Below w.heap.size w w1 → w.heap.size ≤ w1.heap.size → True := fun _ _ _ => trivial
  clear hT hql hgood
  have n1 : (bs []).toList = [] := by rw [Lib.toList_data]; rfl
  have s1 := str_test l l true (decide_eq_true rfl)
  have s2 := str_test' l l true (decide_eq_true rfl)
  rcases hx : unq m with ⟨t, er⟩
  rw [hx] at UM
  have d1 : ((bs l).size : Int) ≤ 2000 := by omega
  have d2 : ((bs m).size : Int) ≤ 2000 := by omega
  by_cases her : er = 0
  · subst her
    obtain ⟨hm1, hm2⟩ := unq_sound hx
    have t1 := str_test (quo t) m true (decide_eq_true hm1.symm)
    have ht := bs_size t
    have ht6 : (bs t).size ≤ 60 := by omega
    clear hx hm1 hm2 ht
    by_cases h60 : 60 < l.length
    · rw [if_pos h60] at U1
      have z60 : 60 < (bs l).size := by omega
      clear h60 hlen
      go_enter Tryd.func4, Tryd.ntmps4
      go_wp2_with fail
      refine Q1.out.mono ?_
      rintro e w1 ⟨rfl, hb1⟩
      have B1 := Lib.hid hb1
      have hz1 := hb1.size
      clear hb1
      go_wp2_with fail
      refine (U1.out _).mono ?_
      rintro e w2 ⟨rfl, hb2⟩
      have B2 := Lib.hid (B1.out.trans (hb2.mono hz1))
      have hz2 := B2.out.size
      clear hb2
      go_wp2_with fail
      refine (UM.out _).mono ?_
      rintro e w3 ⟨rfl, hb3⟩
      have B3 := Lib.hid (B2.out.trans (hb3.mono hz2))
      have hz3 := B3.out.size
      clear hb3
      go_wp2_with fail
      refine (quote_any (bs t) _ (by omega) (T.out.below B3.out)).mono ?_
      rintro e w4 ⟨rfl, hb4⟩
      rw [bs_data]
      have B4 := Lib.hid (B3.out.trans (hb4.mono hz3))
      have hz4 := B4.out.size
      clear hb4
      go_wp2_with fail
      refine (lives_any _).mono ?_
      rintro e w5 ⟨rfl, hb5⟩
      have B5 := Lib.hid (B4.out.trans (hb5.mono hz4))
      clear hb5
      go_wp2_with fail
      go_ret
      exact outb rfl B5.out
    · rw [if_neg h60] at U1
      have z60 : ¬ 60 < (bs l).size := by omega
      have z61 : (bs l).size ≤ 60 := by omega
      clear h60 hlen
      go_enter Tryd.func4, Tryd.ntmps4
      go_wp2_with fail
      refine Q1.out.mono ?_
      rintro e w1 ⟨rfl, hb1⟩
      have B1 := Lib.hid hb1
      have hz1 := hb1.size
      clear hb1
      go_wp2_with fail
      refine (U1.out _).mono ?_
      rintro e w2 ⟨rfl, hb2⟩
      have B2 := Lib.hid (B1.out.trans (hb2.mono hz1))
      have hz2 := B2.out.size
      clear hb2
      go_wp2_with fail
      refine (UM.out _).mono ?_
      rintro e w3 ⟨rfl, hb3⟩
      have B3 := Lib.hid (B2.out.trans (hb3.mono hz2))
      have hz3 := B3.out.size
      clear hb3
      go_wp2_with fail
      refine (quote_any (bs t) _ (by omega) (T.out.below B3.out)).mono ?_
      rintro e w4 ⟨rfl, hb4⟩
      rw [bs_data]
      have B4 := Lib.hid (B3.out.trans (hb4.mono hz3))
      have hz4 := B4.out.size
      clear hb4
      go_wp2_with fail
      refine (lives_any _).mono ?_
      rintro e w5 ⟨rfl, hb5⟩
      have B5 := Lib.hid (B4.out.trans (hb5.mono hz4))
      clear hb5
      go_wp2_with fail
      go_ret
      exact outb rfl B5.out
  · have e1 : (er != 0) = true := by simpa using her
    have e2 : (er == 0) = false := by simpa using her
    clear hx her
    by_cases h60 : 60 < l.length
    · rw [if_pos h60] at U1
      have z60 : 60 < (bs l).size := by omega
      clear h60 hlen
      go_enter Tryd.func4, Tryd.ntmps4
      go_wp2_with fail
      refine Q1.out.mono ?_
      rintro e w1 ⟨rfl, hb1⟩
      have B1 := Lib.hid hb1
      have hz1 := hb1.size
      clear hb1
      go_wp2_with fail
      refine (U1.out _).mono ?_
      rintro e w2 ⟨rfl, hb2⟩
      have B2 := Lib.hid (B1.out.trans (hb2.mono hz1))
      have hz2 := B2.out.size
      clear hb2
      go_wp2_with fail
      refine (UM.out _).mono ?_
      rintro e w3 ⟨rfl, hb3⟩
      have B3 := Lib.hid (B2.out.trans (hb3.mono hz2))
      have hz3 := B3.out.size
      clear hb3
      go_wp2_with fail
      refine (lives_any _).mono ?_
      rintro e w4 ⟨rfl, hb4⟩
      have B4 := Lib.hid (B3.out.trans (hb4.mono hz3))
      clear hb4
      go_wp2_with fail
      go_ret
      exact outb rfl B4.out
    · rw [if_neg h60] at U1
      have z60 : ¬ 60 < (bs l).size := by omega
      have z61 : (bs l).size ≤ 60 := by omega
      clear h60 hlen
      go_enter Tryd.func4, Tryd.ntmps4
      go_wp2_with fail
      refine Q1.out.mono ?_
      rintro e w1 ⟨rfl, hb1⟩
      have B1 := Lib.hid hb1
      have hz1 := hb1.size
      clear hb1
      go_wp2_with fail
      refine (U1.out _).mono ?_
      rintro e w2 ⟨rfl, hb2⟩
      have B2 := Lib.hid (B1.out.trans (hb2.mono hz1))
      have hz2 := B2.out.size
      clear hb2
      go_wp2_with fail
      refine (UM.out _).mono ?_
      rintro e w3 ⟨rfl, hb3⟩
      have B3 := Lib.hid (B2.out.trans (hb3.mono hz2))
      have hz3 := B3.out.size
      clear hb3
      go_wp2_with fail
      refine (lives_any _).mono ?_
      rintro e w4 ⟨rfl, hb4⟩
      have B4 := Lib.hid (B3.out.trans (hb4.mono hz3))
      clear hb4
      go_wp2_with fail
      go_ret
      exact outb rfl B4.out

/-! ### A quoted form is printable -/
theorem hx_print (n : Nat) (h : n < 16) : 32 ≤ (hx n).toNat ∧ (hx n).toNat ≤ 126 := by have := hx_byte n h; omega
theorem fm_print (c : UInt8) : ∀ b ∈ fm c, 32 ≤ b.toNat ∧ b.toNat ≤ 126 := by
  have hc := c.toNat_lt
  intro b hb
  unfold fm at hb
  split at hb
  · simp at hb
    rcases hb with rfl | rfl
    · decide
    · omega
  · split at hb
    · have h1 := hx_print (c.toNat / 16) (by omega)
      have h2 := hx_print (c.toNat % 16) (by omega)
      simp at hb
      rcases hb with rfl | rfl | rfl | rfl
      · decide
      · decide
      · exact h1
      · exact h2
    · simp at hb
      subst hb
      omega
theorem quo_print (l : List UInt8) : ∀ b ∈ quo l, 32 ≤ b.toNat ∧ b.toNat ≤ 126 := by
  intro b hb
  unfold quo at hb
  rcases List.mem_cons.1 hb with rfl | hb
  · decide
  · rcases List.mem_append.1 hb with hb | hb
    · obtain ⟨c, _, hb⟩ := List.mem_flatMap.1 hb
      exact fm_print c b hb
    · rw [List.mem_singleton.1 hb]; decide
theorem bs_at (l : List UInt8) (k : Nat) (h : k < (bs l).size) : ((bs l)[k]'h) = l[k]'(by rw [bs_size] at h; exact h) := rfl
theorem quo_first (l : List UInt8) (h : 0 < (bs (quo l)).size) : ((bs (quo l))[0]'h).toNat = 34 := rfl
theorem quo_last (l : List UInt8) (k : Nat) (h : k < (bs (quo l)).size) (hk : k + 1 = (bs (quo l)).size) : ((bs (quo l))[k]'h).toNat = 34 := by
  rw [bs_at]
  have h2 : k = (qb l).length + 1 := by rw [bs_size, quo_length] at hk; omega
  subst h2
  have : (quo l)[(qb l).length + 1]? = some 34 := by
    unfold quo
    rw [List.getElem?_cons_succ, List.getElem?_append_right (Nat.le_refl _)]; simp
  rw [List.getElem?_eq_getElem (by rw [quo_length]; omega)] at this
  rw [Option.some.inj this]; rfl

set_option maxHeartbeats 2000000 in
theorem law_printable (s : ByteArray) (w : World) (hs : s.size ≤ 9223372036854775807) (hT : Tabs w) :
    Calls Tryd.prog 5 #[.string s] w (OutBool true w) := by
  by_cases h1 : 2000 < s.size
  · clear hT
    go_enter Tryd.func5, Tryd.ntmps5
    go_wp2_with fail
    refine (lives_any _).mono ?_
    rintro e w1 ⟨rfl, hb⟩
    go_wp2_with fail
    go_ret
    exact outb rfl hb
  have Q1 := Lib.hid (quote_any s w (by omega) hT)
  have hlen : (bs (quo s.data.toList)).size = (qb s.data.toList).length + 2 := by rw [bs_size, quo_length]
  have hql := qb_length s.data.toList
  rw [toNat_bytes] at hql
  have PR := Lib.hid (quo_print s.data.toList)
  have F := Lib.hid (quo_first s.data.toList)
  have L := Lib.hid (quo_last s.data.toList)
  generalize hx : bs (quo s.data.toList) = x at *
  have hx2 : x.data.toList = quo s.data.toList := by rw [← hx]; rfl
  have PX := Lib.hid (fun (k : Nat) (h : k < x.size) => (show 32 ≤ (x[k]'h).toNat ∧ (x[k]'h).toNat ≤ 126 from PR.out _ (by
    rw [← hx2]
    have : x[k]'h = x.data.toList[k]'(by rw [toNat_bytes]; exact h) := rfl
    rw [this]
    exact List.getElem_mem _)))
  have hz : s.size + 2 ≤ x.size := by omega
  have hz2 : x.size ≤ 8002 := by omega
  have hx0 : 0 < x.size := by omega
  have f0 : ((x[0].toNat : Int) != 34) = false := by have := F.out hx0; simp; omega
  obtain ⟨n, hn⟩ : ∃ n, n + 1 = x.size := ⟨x.size - 1, by omega⟩
  have hnx : n < x.size := by omega
  have f1 : ((x[n].toNat : Int) != 34) = false := by have := L.out n hnx hn; simp; omega
  have j0 : decide (x.size < s.size + 2) = false := decide_eq_false (by omega)
  have j1 : IntKind.i64.wrap ((x.size : Int) - 1) = (n : Int) := by rw [show (x.size : Int) - 1 = (n : Int) by omega]; exact IntWalk.i64_in _ (by omega)
  have j2 : (x.size : Int) - 1 = (n : Int) := by omega
  have j3 : ¬ (x.size : Int) < (s.size : Int) + 2 := by omega
  clear hT hlen hql PR F L hx hx2 hn
  go_enter Tryd.func5, Tryd.ntmps5
  go_wp2_with fail
  refine Q1.out.mono ?_
  rintro e w1 ⟨rfl, hb1⟩
  have B1 := Lib.hid hb1
  have hz1 := hb1.size
  clear hb1
  go_wp2_with fail
  go_loop [4] (fun i => ∃ k : Nat, i = .int .i64 k ∧ k ≤ x.size) (fun i => x.size - (intOf i).toNat)
  case atStart => exact ⟨0, rfl, Nat.zero_le _⟩
  case round =>
    obtain ⟨k, rfl, hk⟩ := hrel
    by_cases hlt : k < x.size
    · obtain ⟨g1, g2⟩ := PX.out k hlt
      have g3 : ¬ x[k].toNat < 32 := by omega
      have g4 : ¬ 126 < x[k].toNat := by omega
      go_wp2_with fail
      go_round
      case rel => exact ⟨k + 1, by go_num, hlt⟩
      case measure => simp [intOf]; omega
    · go_wp2_with fail
      refine (lives_any _).mono ?_
      rintro e w3 ⟨rfl, hb3⟩
      have B3 := Lib.hid (B1.out.trans (hb3.mono hz1))
      clear hb3
      go_wp2_with fail
      go_ret
      exact outb rfl B3.out
end Go.Proofs.YtmildkjkppnblaaDoor
