/- The walks of NamesQuotes, NamesBack, NamesPrintable and NamesJoined. -/
import Derived.Test.YtmildkjkppnblaaDoorNV
import Derived.Test.YtmildkjkppnblaaDoorNJ
set_option linter.unusedVariables false
namespace Go.Proofs.YtmildkjkppnblaaDoor
open Go.RowKit

set_option maxHeartbeats 1000000 in
theorem law_quotes (s : ByteArray) (w : World) (hs : s.size ≤ 9223372036854775807) (hT : Tabs w) :
    Calls Tryd.prog 3 #[.string s] w (OutBool true w) := by
  by_cases h : 2000 < s.size
  · clear hT
    go_enter Tryd.func3, Tryd.ntmps3
    go_wp2_with fail
    go_ret
    exact outb rfl (Below.refl _ _)
  · have Q1 := Lib.hid (quote_any s w (by omega) hT)
    have Q2 := Lib.hid (fun w2 => rquote_any s w2 (by omega))
    have t1 := str_test (quo s.data.toList) (quo s.data.toList) true (decide_eq_true rfl)
    generalize quo s.data.toList = x at *
    clear hT
    go_enter Tryd.func3, Tryd.ntmps3
    go_wp2_with fail
    refine Q1.out.mono ?_
    rintro e w1 ⟨rfl, hb1⟩
    have B1 := Lib.hid hb1
    have hz1 := hb1.size
    clear hb1
    go_wp2_with fail
    refine (Q2.out _).mono ?_
    rintro e w2 ⟨rfl, hb2⟩
    have B2 := Lib.hid (B1.out.trans (hb2.mono hz1))
    have hz2 := B2.out.size
    clear hb2
    go_wp2_with fail
    refine (lives_any _).mono ?_
    rintro e w3 ⟨rfl, hb3⟩
    have B3 := Lib.hid (B2.out.trans (hb3.mono hz2))
    clear hb3
    go_wp2_with fail
    go_ret
    exact outb rfl B3.out

theorem rdq_quo (l : List UInt8) : rdq (quo l) = some (l, (quo l).length) := by
  have := rdq_complete l []
  rw [List.append_nil] at this
  exact this
theorem unq_quo (l : List UInt8) : unq (quo l) = if 60 < l.length then ([], 3) else (l, 0) := by
  by_cases h : 60 < l.length
  · rw [if_pos h]; exact unq_long (rdq_quo l) (Nat.lt_irrefl _) h
  · rw [if_neg h]; exact unq_good (rdq_quo l) (Nat.lt_irrefl _) h
theorem unq_sound {l t : List UInt8} (h : unq l = (t, 0)) : l = quo t ∧ t.length ≤ 60 := by
  rcases hr : rdq l with _ | ⟨t', n⟩
  · rw [unq_none hr] at h; cases h
  · by_cases h1 : n < l.length
    · rw [unq_more hr h1] at h; cases h
    · by_cases h2 : 60 < t'.length
      · rw [unq_long hr h1 h2] at h; cases h
      · rw [unq_good hr h1 h2] at h
        cases h
        obtain ⟨r, e, hn⟩ := rdq_sound hr
        have hl := congrArg List.length e
        rw [List.length_append] at hl
        have : r = [] := List.eq_nil_of_length_eq_zero (by omega)
        rw [this, List.append_nil] at e
        exact ⟨e, by omega⟩

/-- The second half: whatever was accepted is the quoted form of the result. -/
theorem quo_size (l : List UInt8) : (bs (quo l)).size ≤ 4 * l.length + 2 := by
  rw [bs_size, quo_length]; have := qb_length l; omega
end Go.Proofs.YtmildkjkppnblaaDoor
