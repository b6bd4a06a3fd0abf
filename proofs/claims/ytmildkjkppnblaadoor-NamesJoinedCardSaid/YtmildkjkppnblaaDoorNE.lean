/- The contract of Fields of names. -/
import Derived.Test.YtmildkjkppnblaaDoorND
set_option linter.unusedVariables false
namespace Go.Proofs.YtmildkjkppnblaaDoor
open Go.RowKit

theorem info_str : (Tryd.prog.info? 9).map (fun i => (i.zero, i.size, i.bytes)) = some (some (.string ByteArray.empty), 1, 16) := by kernel_rfl
/-- Strings as the cells of a row. -/
def strs (l : List (List UInt8)) : List Value := l.map fun t => Value.string (bs t)
theorem strs_append (a b : List (List UInt8)) : strs a ++ strs b = strs (a ++ b) := by unfold strs; rw [List.map_append]
theorem strs_length (a : List (List UInt8)) : (strs a).length = a.length := by unfold strs; rw [List.length_map]
theorem snoc_len2 (ys : List (List UInt8)) (c : List UInt8) : (ys ++ [c]).length = ys.length + 1 := by simp
/-- A row of the call's own that holds these strings. -/
abbrev OwnStr (w : World) (B : Nat) (v : Value) (l : List (List UInt8)) : Prop := w.ownsRow B 9 1 v l.length (strs l)

/-- What Fields hands back: the parts, the error. -/
def flR (x : Option (List (List UInt8))) : List (List UInt8) × Int := match x with | none => ([], 4) | some p => (p, 0)
def OutFl (x : Option (List (List UInt8))) (w : World) (e : Ending) (w' : World) : Prop :=
  ∃ v, e = .returned (.tuple #[v, .int .i64 (flR x).2]) ∧ OwnStr w' w.heap.size v (flR x).1 ∧ Below w.heap.size w w'
theorem outf_none {x : Option (List (List UInt8))} {w w' : World} (h : x = none) (hb : Below w.heap.size w w') : OutFl x w (.returned (.tuple #[.slice none 0 0, .int .i64 4])) w' := by
  subst h; exact ⟨_, rfl, World.ownsRow_nil _ _ _ _, hb⟩
theorem outf_some {x : Option (List (List UInt8))} {w w' : World} {p : List (List UInt8)} {v : Value} (h : x = some p) (ho : OwnStr w' w.heap.size v p) (hb : Below w.heap.size w w') : OutFl x w (.returned (.tuple #[v, .int .i64 0])) w' := by
  subst h; exact ⟨_, rfl, ho, hb⟩
/-- How long a string in a slot is. -/
def strLen (v : Value) : Nat := match v with | .string t => t.size | _ => 0
theorem getD_at (s : ByteArray) (k : Nat) (h : k < s.size) : s.data.toList.getD k 0 = s[k] := by
  simp [List.getD, h]; rfl
theorem map_map_snoc (acc : List (List UInt8)) (p : List UInt8) (y : Option (List (List UInt8))) : (y.map fun x => p :: x).map (fun x => acc ++ x) = y.map fun x => (acc ++ [p]) ++ x := by
  cases y <;> simp

set_option maxRecDepth 100000 in
set_option maxHeartbeats 2000000 in
theorem fields_any (s : ByteArray) (w : World) (hs : s.size ≤ 100000) (x : Option (List (List UInt8))) (hx : fld s.data.toList = x) :
    Calls Tryd.prog 11 #[.string s] w (OutFl x w) := by
  obtain ⟨i0, hi, hz0, hz1, hz2⟩ := info_parts info_str
  by_cases h0 : 0 < s.size
  case neg =>
    obtain rfl := eq_empty s h0
    have X := Lib.hid (show x = some [] by rw [← hx]; rfl)
    have n1 : (bs []).toList = [] := by rw [Lib.toList_data]; rfl
    have n2 : (bs []).toList.isEmpty = true := by rw [n1]; rfl
    clear hx h0
    go_enter Tryd.func11, Tryd.ntmps11
    go_wp2_with fail
    exact bodyPost_ret (v := .tuple #[.slice none 0 0, .int .i64 0]) (by simp [results, Tryd.results11, go_sem]) rfl (outf_some X.out (World.ownsRow_nil _ _ _ _) (Below.refl _ _))
  have n1 := ne_list s h0
  have n2 := ne_empty s h0
  have hl := toNat_bytes s
  have X := Lib.hid (show x = (fl s.size s.data.toList).map fun y => [] ++ y by
    rw [← hx]; unfold fld; rw [if_neg, hl]
    · simp
    · intro e; rw [e] at hl; simp at hl; omega)
  clear hx
  go_enter Tryd.func11, Tryd.ntmps11
  go_wp2_with fail
  go_loopw [0, 4] (fun sv v wr => ∃ (t : ByteArray) (f : Nat) (acc : List (List UInt8)), sv = .string t ∧ t.size ≤ 100000 ∧ acc.length + t.size ≤ 100000 ∧ t.size < f + 1 ∧ (0 < t.size ∨ 0 < f) ∧ x = ((fl f t.data.toList).map fun y => acc ++ y) ∧ OwnStr wr w.heap.size v acc ∧ Below w.heap.size w wr) (fun sv _ _ => strLen sv)
  case atStart => exact ⟨s, s.size, [], rfl, hs, by simpa using hs, by omega, Or.inl h0, X.out, World.ownsRow_nil _ _ _ _, Below.refl _ _⟩
  case round =>
    obtain ⟨t, f, acc, rfl, h1, h2, h3, h4, h5, hown, hb⟩ := hrel
    obtain ⟨f, rfl⟩ : ∃ g, f = g + 1 := ⟨f - 1, by omega⟩
    have hple := psz_le t.data.toList
    rw [toNat_bytes] at hple
    have Q := Lib.hid (psz_any t wr h1 _ rfl)
    have HO := Lib.hid hown
    have HB := Lib.hid hb
    have hsz := hb.size
    have H5 := Lib.hid h5
    have htk := Lib.hid (ext_take t (psz t.data.toList))
    have htk2 := Lib.hid (show t.data.toList.take (psz t.data.toList) = t.data.toList.take (psz t.data.toList) from rfl)
    by_cases hz : psz t.data.toList = 0
    · have X2 := Lib.hid (show x = none by rw [h5, fl_none f _ hz]; rfl)
      have P := Lib.hid hz
      clear h5 hown hb hz hple
      go_wp2_with fail
      refine Q.out.mono ?_
      rintro e w1 ⟨rfl, hb⟩
      have B := Lib.hid (HB.out.trans (hb.mono hsz))
      clear hb
      have e := P.out
      rw [e]
      clear e
      go_wp2_with fail
      exact bodyPost_ret (v := .tuple #[.slice none 0 0, .int .i64 4]) (by simp [results, Tryd.results11, go_sem]) rfl (outf_none X2.out B.out)
    · have hF1 := fl_last f t.data.toList hz
      have hF2 := fl_bad f t.data.toList
      have hF3 := fl_more f t.data.toList hz
      rw [toNat_bytes] at hF1 hF2 hF3
      generalize hk : psz t.data.toList = k at *
      have hk0 : ((k : Int) == 0) = false := by simp; omega
      have hE := Lib.hid (hk)
      clear hk
      have go : True := trivial
      by_cases hlast : k = t.size
      · have X2 := Lib.hid (show x = some (acc ++ [t.data.toList]) by rw [h5, hF1 hlast, List.take_of_length_le (by rw [toNat_bytes]; omega)]; rfl)
        have CE := Lib.hid (show Value.string t = Value.string (bs t.data.toList) by rw [bs_self])
        have tl : ((k : Int) == (t.size : Int)) = true := by simp; omega
        clear h5 hown hb hF1 hF2 hF3
        go_wp2_with fail
        refine Q.out.mono ?_
        rintro e w1 ⟨rfl, hb⟩
        have B := Lib.hid (HB.out.trans (hb.mono hsz))
        have hsz1 := hb.size
        have hown := ownsRow_below HO.out hb
        have HL := Lib.hid (fun k (hk : u4.ownBlock = some k) => (hown.lt k hk).1)
        clear hb
        go_wp2_with (at_builtin; refine wpList_append_own _ rfl (.tmp 12) (.tmp 16) 29 rfl w.heap.size 9 i0 (.string ByteArray.empty) 1 16 Tryd.underlying29 hi hz0 hz1 hz2 rfl (by decide) _ _ _ rfl (hown.alloc _) ⟨w1.heap.size, 0, none⟩ 1 1 [.string t] rfl rfl (one_cell _ _ _) ?c2 ?c3 ?c4 ?c5 ?_)
        case c2 => intro u hu; simp at hu; subst hu; rfl
        case c3 => unfold maxLen; omega
        case c4 => omega
        case c5 => simp; omega
        intro v' w3 hown' hgrow _
        have R3 := Lib.hid (show OwnStr w3 w.heap.size v' (acc ++ [t.data.toList]) by
          have h := hown'
          rw [CE.out] at h
          have e : strs acc ++ [Value.string (bs (t.data.toList))] = strs (acc ++ [t.data.toList]) := strs_append acc [t.data.toList]
          rw [e] at h
          show World.ownsRow _ _ _ _ _ _ _
          rw [snoc_len2]
          exact h)
        have B3 := Lib.hid ((B.out.alloc (by omega) _).grown hgrow (by simp; omega) HL.out)
        clear hown' hgrow hown
        go_wp2_with fail
        exact bodyPost_ret (v := .tuple #[v', .int .i64 0]) (by simp [results, Tryd.results11, go_sem]) rfl (outf_some X2.out R3.out B3.out)
      · have tl : ((k : Int) == (t.size : Int)) = false := by simp; omega
        have hkt : k < t.size := by omega
        have hgd := getD_at t k hkt
        rw [hgd] at hF2 hF3
        have CE := Lib.hid (show Value.string (t.extract 0 k) = Value.string (bs (t.data.toList.take k)) by rw [ext_take])
        have hc := (t[k]).toNat_lt
        by_cases h32 : t[k].toNat = 32
        · have X2 := Lib.hid (show x = ((fl f (t.data.toList.drop (k + 1))).map fun y => (acc ++ [t.data.toList.take k]) ++ y) by rw [h5, hF3 hlast h32, map_map_snoc])
          have t32 : ((t[k].toNat : Int) != 32) = false := by simp; omega
          have TD := Lib.hid (ext_drop t (k + 1))
          have hts : (t.extract (k + 1) t.size).size = t.size - (k + 1) := by simp
          have HTS := Lib.hid hts
          clear h5 hown hb hF1 hF2 hF3 hgd hts h32 hlast
          go_wp2_with fail
          refine Q.out.mono ?_
          rintro e w1 ⟨rfl, hb⟩
          have B := Lib.hid (HB.out.trans (hb.mono hsz))
          have hsz1 := hb.size
          have hown := ownsRow_below HO.out hb
          have HL := Lib.hid (fun k (hk : u4.ownBlock = some k) => (hown.lt k hk).1)
          clear hb
          go_wp2_with (at_builtin; refine wpList_append_own _ rfl (.tmp 12) (.tmp 16) 29 rfl w.heap.size 9 i0 (.string ByteArray.empty) 1 16 Tryd.underlying29 hi hz0 hz1 hz2 rfl (by decide) _ _ _ rfl (hown.alloc _) ⟨w1.heap.size, 0, none⟩ 1 1 [.string (t.extract 0 k)] rfl rfl (one_cell _ _ _) ?c2 ?c3 ?c4 ?c5 ?_)
          case c2 => intro u hu; simp at hu; subst hu; rfl
          case c3 => unfold maxLen; omega
          case c4 => omega
          case c5 => simp; omega
          intro v' w3 hown' hgrow _
          have R3 := Lib.hid (show OwnStr w3 w.heap.size v' (acc ++ [t.data.toList.take k]) by
            have h := hown'
            rw [CE.out] at h
            have e : strs acc ++ [Value.string (bs (t.data.toList.take k))] = strs (acc ++ [t.data.toList.take k]) := strs_append acc [t.data.toList.take k]
            rw [e] at h
            show World.ownsRow _ _ _ _ _ _ _
            rw [snoc_len2]
            exact h)
          have B3 := Lib.hid ((B.out.alloc (by omega) _).grown hgrow (by simp; omega) HL.out)
          clear hown' hgrow hown
          go_wp2_with fail
          go_roundw
          case rel => exact ⟨t.extract (k + 1) t.size, f, acc ++ [t.data.toList.take k], rfl, by rw [HTS.out]; omega, by rw [snoc_len2, HTS.out]; omega, by rw [HTS.out]; omega, by rw [HTS.out]; omega, by rw [TD.out, bs_data]; exact X2.out, R3.out, B3.out⟩
          case measure => simp [strLen]; omega
        · have X2 := Lib.hid (show x = none by rw [h5, hF2 hlast h32]; rfl)
          have t32 : ((t[k].toNat : Int) != 32) = true := by simp; omega
          clear h5 hown hb hF1 hF2 hF3 hgd h32 hlast
          go_wp2_with fail
          refine Q.out.mono ?_
          rintro e w1 ⟨rfl, hb⟩
          have B := Lib.hid (HB.out.trans (hb.mono hsz))
          have hsz1 := hb.size
          have hown := ownsRow_below HO.out hb
          have HL := Lib.hid (fun k (hk : u4.ownBlock = some k) => (hown.lt k hk).1)
          clear hb
          go_wp2_with (at_builtin; refine wpList_append_own _ rfl (.tmp 12) (.tmp 16) 29 rfl w.heap.size 9 i0 (.string ByteArray.empty) 1 16 Tryd.underlying29 hi hz0 hz1 hz2 rfl (by decide) _ _ _ rfl (hown.alloc _) ⟨w1.heap.size, 0, none⟩ 1 1 [.string (t.extract 0 k)] rfl rfl (one_cell _ _ _) ?c2 ?c3 ?c4 ?c5 ?_)
          case c2 => intro u hu; simp at hu; subst hu; rfl
          case c3 => unfold maxLen; omega
          case c4 => omega
          case c5 => simp; omega
          intro v' w3 hown' hgrow _
          have R3 := Lib.hid (show OwnStr w3 w.heap.size v' (acc ++ [t.data.toList.take k]) by
            have h := hown'
            rw [CE.out] at h
            have e : strs acc ++ [Value.string (bs (t.data.toList.take k))] = strs (acc ++ [t.data.toList.take k]) := strs_append acc [t.data.toList.take k]
            rw [e] at h
            show World.ownsRow _ _ _ _ _ _ _
            rw [snoc_len2]
            exact h)
          have B3 := Lib.hid ((B.out.alloc (by omega) _).grown hgrow (by simp; omega) HL.out)
          clear hown' hgrow hown
          go_wp2_with fail
          exact bodyPost_ret (v := .tuple #[.slice none 0 0, .int .i64 4]) (by simp [results, Tryd.results11, go_sem]) rfl (outf_none X2.out B3.out)
end Go.Proofs.YtmildkjkppnblaaDoor
