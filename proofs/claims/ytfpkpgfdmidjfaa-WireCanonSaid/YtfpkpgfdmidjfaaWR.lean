/- Contracts of short and bytes. -/
import Derived.Test.YtfpkpgfdmidjfaaWN
import Derived.Test.YtfpkpgfdmidjfaaWM
set_option linter.unusedVariables false
namespace Go.Proofs.Ytfpkpgfdmidjfaa
open Go.RowKit

theorem FieldAt.below {w w' : World} {B b p : Nat} {d : FieldD} (h : FieldAt w B b p d) (hb : Below B w w') (hl : b < B) : FieldAt w' B b p d := by
  obtain ⟨h0, h1, h2, ⟨A, c, h3, hi⟩, h4⟩ := h
  exact ⟨(hb.cell (p := ⟨b, _, none⟩) hl).trans h0, (hb.cell (p := ⟨b, _, none⟩) hl).trans h1, (hb.cell (p := ⟨b, _, none⟩) hl).trans h2, ⟨A, c, (hb.cell (p := ⟨b, _, none⟩) hl).trans h3, hi.below hb⟩, h4⟩
theorem fields_below {w w' : World} {B : Nat} {A : Option Addr} {l : List FieldD} (h : FieldsAt w B A l) (hb : Below B w w') : FieldsAt w' B A l := by
  intro i hi
  obtain ⟨b, o, e, hl, hf⟩ := h i hi
  exact ⟨b, o, e, hl, hf.below hb hl⟩
theorem fields_more {w : World} {B B' : Nat} {A : Option Addr} {l : List FieldD} (h : FieldsAt w B A l) (hb : B ≤ B') : FieldsAt w B' A l := by
  intro i hi
  obtain ⟨b, o, e, hl, h0, h1, h2, ⟨A', c, h3, hx⟩, h4⟩ := h i hi
  exact ⟨b, o, e, by omega, h0, h1, h2, ⟨A', c, h3, hx.more hb⟩, h4⟩

/-- The field is not too long. -/
def okF (m : Nat) (d : FieldD) : Bool := decide (d.str.size ≤ m) && decide (d.lst.length ≤ m)
/-- At most 20 fields, none too long. -/
def shB (l : List FieldD) : Bool := decide (l.length ≤ 20) && l.all (okF 100)
theorem shB_long (l : List FieldD) (h : 20 < l.length) : shB l = false := by unfold shB; rw [decide_eq_false (by omega)]; rfl
theorem shB_bad (l : List FieldD) (k : Nat) (hk : k < l.length) (h : okF 100 l[k] = false) : shB l = false := by
  unfold shB
  rw [Bool.and_eq_false_iff]
  right
  rw [List.all_eq_false]
  exact ⟨l[k], List.getElem_mem hk, by simp [h]⟩
theorem shB_good (l : List FieldD) (h : l.length ≤ 20) (hk : ∀ k (hk : k < l.length), okF 100 l[k] = true) : shB l = true := by
  unfold shB
  rw [decide_eq_true h, Bool.true_and, List.all_eq_true]
  intro d hd
  obtain ⟨k, hk2, rfl⟩ := List.getElem_of_mem hd
  exact hk k hk2
theorem shB_ok {l : List FieldD} (h : shB l = true) : l.length ≤ 20 ∧ ∀ d ∈ l, okF 100 d = true := by
  unfold shB at h
  rw [Bool.and_eq_true, decide_eq_true_iff, List.all_eq_true] at h
  exact h
theorem okF_s (d : FieldD) (h : 100 < d.str.size) : okF 100 d = false := by unfold okF; rw [decide_eq_false (by omega)]; rfl
theorem okF_l (d : FieldD) (h : 100 < d.lst.length) : okF 100 d = false := by unfold okF; rw [decide_eq_false (p := d.lst.length ≤ 100) (by omega), Bool.and_false]
theorem okF_g (d : FieldD) (h : ¬ 100 < d.str.size) (h2 : ¬ 100 < d.lst.length) : okF 100 d = true := by unfold okF; rw [decide_eq_true (by omega), decide_eq_true (by omega)]; rfl
theorem okF_out {m : Nat} {d : FieldD} (h : okF m d = true) : d.str.size ≤ m ∧ d.lst.length ≤ m := by
  unfold okF at h; rw [Bool.and_eq_true, decide_eq_true_iff, decide_eq_true_iff] at h; exact h

set_option maxRecDepth 100000 in
set_option maxHeartbeats 1000000 in
theorem short_any (A : Option Addr) (c : Nat) (l : List FieldD) (w : World) (hl : l.length ≤ 9223372036854775807) (hr : FieldsAt w w.heap.size A l) :
    Calls Try.prog 24 #[.slice A l.length c] w fun r w' => r = .returned (.bool (shB l)) ∧ w = w' := by
  have HR := Lib.hid hr
  have HL := Lib.hid (shB_long l)
  have HB := Lib.hid (shB_bad l)
  have HG := Lib.hid (shB_good l)
  clear hr
  obtain ⟨n, hn⟩ : ∃ n, l.length = n := ⟨_, rfl⟩
  have HN := Lib.hid hn
  rw [hn] at hl ⊢
  by_cases h20 : 20 < n
  · have E := Lib.hid (HL.out (by omega))
    clear hn
    go_enter Try.func24, Try.ntmps24
    go_wp2_with fail
    go_ret
    exact ⟨ret_bool E.out.symm, rfl⟩
  clear hn
  go_enter Try.func24, Try.ntmps24
  go_wp2_with fail
  go_loop [3] (fun i => ∃ k : Nat, k ≤ n ∧ i = .int .i64 k ∧ ∀ j (hj : j < l.length), j < k → okF 100 l[j] = true) (fun i => n - (intOf i).toNat)
  case atStart => exact ⟨0, Nat.zero_le _, rfl, fun j _ h => absurd h (by omega)⟩
  case round =>
    obtain ⟨k, hk, rfl, hall⟩ := hrel
    have HALL := Lib.hid hall
    clear hall
    by_cases hlt : k < n
    · have hkl : k < l.length := by have := HN.out; omega
      obtain ⟨ab, ao, rfl, hab, x0, x1, x2, ⟨LA, Lc, x3, hi⟩, i0, i1, i2, i3, i4⟩ := HR.out k hkl
      have KB := Lib.hid (HB.out k hkl)
      have KS := Lib.hid (okF_s l[k])
      have KL := Lib.hid (okF_l l[k])
      have KG := Lib.hid (okF_g l[k])
      have HX := Lib.hid (show ∀ j (hj : j < l.length), j = k → okF 100 l[j] = okF 100 l[k] by rintro j hj rfl; rfl)
      generalize l[k] = d at *
      clear hi x0 x1 i0 i1 i2
      by_cases hs : 100 < d.str.size
      · have E := Lib.hid (KB.out (KS.out hs))
        go_wp2_with fail
        go_ret
        exact ⟨ret_bool E.out.symm, rfl⟩
      by_cases hl2 : 100 < d.lst.length
      · have E := Lib.hid (KB.out (KL.out hl2))
        go_wp2_with fail
        go_ret
        exact ⟨ret_bool E.out.symm, rfl⟩
      have E := Lib.hid (KG.out hs hl2)
      go_wp2_with fail
      go_round
      case rel =>
        refine ⟨k + 1, by omega, by go_num, fun j hj hjk => ?_⟩
        by_cases e : j = k
        · rw [HX.out j hj e]; exact E.out
        · exact HALL.out j hj (by omega)
      case measure => simp [intOf]; omega
    · have E := Lib.hid (HG.out (by have := HN.out; omega) fun j hj => HALL.out j hj (by have := HN.out; omega))
      go_wp2_with fail
      go_ret
      exact ⟨ret_bool E.out.symm, rfl⟩

/-- The bytes of a field. -/
def enF (d : FieldD) : List UInt8 := if d.kind = 0 then enI d.num else if d.kind = 1 then enT d.str else if d.kind = 2 then enB (decide (d.num = 1)) else enL d.lst
/-- The bytes of fields one after the other. -/
def enFs (l : List FieldD) : List UInt8 := l.flatMap enF
theorem enFs_snoc (l : List FieldD) (k : Nat) (h : k < l.length) : enFs (l.take (k + 1)) = enFs (l.take k) ++ enF l[k] := by
  unfold enFs
  rw [List.take_succ_eq_append_getElem h, List.flatMap_append]
  simp
theorem enF_length (d : FieldD) (h : okF 500 d = true) : (enF d).length ≤ 5010 := by
  obtain ⟨h1, h2⟩ := okF_out h
  have a1 := enI_length d.num
  have a2 := enT_length d.str
  have a3 := enL_length d.lst
  unfold enF enB
  (repeat' split) <;> (try simp) <;> omega
theorem enFs_length (l : List FieldD) (h : ∀ d ∈ l, okF 500 d = true) : (enFs l).length ≤ 5010 * l.length := by
  induction l with
  | nil => simp [enFs]
  | cons d l ih =>
    have h1 := enF_length d (h d List.mem_cons_self)
    have h2 := ih fun d hd => h d (List.mem_cons_of_mem _ hd)
    unfold enFs at *
    rw [List.flatMap_cons, List.length_append, List.length_cons]
    omega

set_option maxRecDepth 100000 in
set_option maxHeartbeats 2000000 in
theorem bytes_any (A : Option Addr) (c : Nat) (l : List FieldD) (w : World) (hl : l.length ≤ 20) (hok : ∀ d ∈ l, okF 500 d = true) (hr : FieldsAt w w.heap.size A l) :
    Calls Try.prog 25 #[.slice A l.length c] w (OutS w (bs (enFs l))) := by
  have HR := Lib.hid hr
  have HOK := Lib.hid hok
  clear hr hok
  obtain ⟨n, hn⟩ : ∃ n, l.length = n := ⟨_, rfl⟩
  have HN := Lib.hid hn
  rw [hn] at hl ⊢
  clear hn
  go_enter Try.func25, Try.ntmps25
  go_wp2_with fail
  go_loopw [3, 4] (fun v i wr => ∃ k : Nat, k ≤ n ∧ i = .int .i64 k ∧ v = .string (bs (enFs (l.take k))) ∧ Below w.heap.size w wr) (fun _ i _ => n - (intOf i).toNat)
  case atStart => exact ⟨0, Nat.zero_le _, rfl, rfl, Below.refl _ _⟩
  case round =>
    obtain ⟨k, hk, rfl, rfl, hb⟩ := hrel
    have BB := Lib.hid hb
    have hsz := hb.size
    have hsmall : (bs (enFs (l.take k))).size ≤ 5010 * 20 := by
      rw [bs_size]
      have h1 := enFs_length (l.take k) fun d hd => HOK.out d (List.mem_of_mem_take hd)
      have h2 := List.length_take_le k l
      have h3 := List.length_take_le' k l
      have := HN.out
      omega
    clear hb
    by_cases hlt : k < n
    · have hkl : k < l.length := by have := HN.out; omega
      obtain ⟨ab, ao, rfl, hab, x0, x1, x2, ⟨LA, Lc, x3, hi⟩, i0, i1, i2, i3, i4⟩ := fields_below HR.out BB.out k hkl
      have HI := Lib.hid (hi.more hsz)
      have H64 := Lib.hid i2
      have HN1 := Lib.hid i1
      have SN := Lib.hid (enFs_snoc l k hkl)
      obtain ⟨o1, o2⟩ := okF_out (HOK.out l[k] (List.getElem_mem hkl))
      generalize l[k] = d at *
      obtain ⟨pre, hpre⟩ : ∃ pre, pre = enFs (l.take k) := ⟨_, rfl⟩
      rw [← hpre] at SN hsmall ⊢
      clear hpre hi i0 i1 i2 i3 i4 hkl
      obtain ⟨kd, nm, st, ls⟩ := d
      simp only at *
      by_cases k0 : kd = 0
      · subst k0
        have hz : (bs (enI nm)).size ≤ 10 := by rw [bs_size]; exact enI_length _
        go_wp2_with fail
        refine (int_any nm _ HN1.out).mono ?_
        rintro r w2 ⟨rfl, hb⟩
        have B2 := Lib.hid (BB.out.trans (hb.mono hsz))
        clear hb
        go_wp2_with fail
        go_roundw
        case rel => exact ⟨k + 1, by omega, by go_num, by rw [bs_append, SN.out]; rfl, B2.out⟩
        case measure => simp [intOf]; omega
      by_cases k1 : kd = 1
      · subst k1
        have hz : (bs (enT st)).size ≤ 510 := by rw [bs_size]; have := enT_length st; omega
        go_wp2_with fail
        refine (text_any st _ (by omega)).mono ?_
        rintro r w2 ⟨rfl, hb⟩
        have B2 := Lib.hid (BB.out.trans (hb.mono hsz))
        clear hb
        go_wp2_with fail
        go_roundw
        case rel => exact ⟨k + 1, by omega, by go_num, by rw [bs_append, SN.out]; rfl, B2.out⟩
        case measure => simp [intOf]; omega
      by_cases k2 : kd = 2
      · subst k2
        have hz : ∀ q, (bs (enB q)).size ≤ 1 := by intro q; cases q <;> decide
        have HZ := Lib.hid hz
        clear hz
        go_wp2_with fail
        refine (bool_any (nm == 1) _).mono ?_
        rintro r w2 ⟨rfl, rfl⟩
        have hz := HZ.out (nm == 1)
        go_wp2_with fail
        go_roundw
        case rel => exact ⟨k + 1, by omega, by go_num, by rw [bs_append, SN.out]; rfl, BB.out⟩
        case measure => simp [intOf]; omega
      · have j0 : (kd == 0) = false := by simpa using k0
        have j1 : (kd == 1) = false := by simpa using k1
        have j2 : (kd == 2) = false := by simpa using k2
        have E := Lib.hid (show enF ⟨kd, nm, st, ls⟩ = enL ls by unfold enF; simp [k0, k1, k2])
        have hz : (bs (enL ls)).size ≤ 5010 := by rw [bs_size]; have := enL_length ls; omega
        clear k0 k1 k2
        go_wp2_with fail
        refine (ints_any LA Lc ls _ (by omega) H64.out HI.out).mono ?_
        rintro r w2 ⟨rfl, hb⟩
        have B2 := Lib.hid (BB.out.trans (hb.mono hsz))
        clear hb
        go_wp2_with fail
        go_roundw
        case rel => exact ⟨k + 1, by omega, by go_num, by rw [bs_append, SN.out, E.out], B2.out⟩
        case measure => simp [intOf]; omega
    · have e : l.take k = l := List.take_of_length_le (by have := HN.out; omega)
      rw [e]
      clear e hsmall
      go_wp2_with fail
      go_ret
      exact ⟨rfl, BB.out⟩
end Go.Proofs.Ytfpkpgfdmidjfaa
