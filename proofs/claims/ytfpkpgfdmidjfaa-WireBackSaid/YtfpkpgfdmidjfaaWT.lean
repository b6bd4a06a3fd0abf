/- The walk of WireBack. -/
import Derived.Test.YtfpkpgfdmidjfaaWS
import Derived.Test.YtfpkpgfdmidjfaaWK
import Derived.Test.YtfpkpgfdmidjfaaWO
import Derived.Deep.RegionHeld3
set_option linter.unusedVariables false
namespace Go.Proofs.Ytfpkpgfdmidjfaa
open Go.RowKit

theorem PB.drew {w : World} {b : Nat} {s : ByteArray} {e : Int} {m : Bool} (h : PB w b s e m) : PB w.drew b s e m := h
theorem enFs_drop (l : List FieldD) (k : Nat) (h : k < l.length) : enFs (l.drop k) = enF l[k] ++ enFs (l.drop (k + 1)) := by
  unfold enFs
  rw [List.drop_eq_getElem_cons h, List.flatMap_cons]

theorem enF_len100 (d : FieldD) (h : okF 100 d = true) : (enF d).length ≤ 1010 := by
  obtain ⟨h1, h2⟩ := okF_out h
  have a1 := enI_length d.num
  have a2 := enT_length d.str
  have a3 := enL_length d.lst
  unfold enF enB
  (repeat' split) <;> (try simp) <;> omega
theorem enFs_len100 (l : List FieldD) (hl : l.length ≤ 20) (h : ∀ d ∈ l, okF 100 d = true) : (enFs l).length ≤ 20200 := by
  have : (enFs l).length ≤ 1010 * l.length := by
    clear hl
    induction l with
    | nil => simp [enFs]
    | cons d l ih =>
      have h1 := enF_len100 d (h d List.mem_cons_self)
      have h2 := ih fun d hd => h d (List.mem_cons_of_mem _ hd)
      unfold enFs at *
      rw [List.flatMap_cons, List.length_append, List.length_cons]
      omega
  omega

/-- One round of WireBack's loop is behind. -/
def OutF (B b : Nat) (s : ByteArray) (w w' : World) : Prop := PB w' b s 0 true ∧ Below B w w'

set_option maxRecDepth 100000 in
set_option maxHeartbeats 2000000 in
theorem law_back (A : Option Addr) (c : Nat) (l : List FieldD) (w : World) (hl : l.length ≤ 9223372036854775807) (hr : FieldsAt w w.heap.size A l) :
    Calls Try.prog 5 #[.slice A l.length c] w fun r w' => r = .returned (.bool true) ∧ Below w.heap.size w w' := by
  have HR := Lib.hid hr
  have SH := Lib.hid (short_any A c l w hl hr)
  by_cases hsh : shB l = true
  rotate_left
  · have hsh2 : shB l = false := by simpa using hsh
    rw [hsh2] at SH
    clear hsh hsh2 hr
    go_enter Try.func5, Try.ntmps5
    go_wp2_with fail
    refine SH.out.mono ?_
    rintro r w' ⟨rfl, rfl⟩
    go_wp2_with fail
    refine (awake_any _).mono ?_
    rintro r w' ⟨rfl, hb⟩
    go_wp2_with fail
    go_ret
    exact ⟨rfl, hb⟩
  rw [hsh] at SH
  obtain ⟨h20, hok⟩ := shB_ok hsh
  have HOK := Lib.hid hok
  have hok5 : ∀ d ∈ l, okF 500 d = true := by
    intro d hd
    obtain ⟨h1, h2⟩ := okF_out (hok d hd)
    unfold okF; rw [decide_eq_true (by omega), decide_eq_true (by omega)]; rfl
  have BY := Lib.hid (bytes_any A c l w h20 hok5 hr)
  have hbl : (enFs l).length ≤ 100000 := by
    have h1 := enFs_len100 l h20 hok
    omega
  have HBL := Lib.hid hbl
  clear hsh hok hok5 hr hbl
  obtain ⟨n, hn⟩ : ∃ n, l.length = n := ⟨_, rfl⟩
  have HN := Lib.hid hn
  rw [hn] at hl h20 SH BY ⊢
  clear hn
  go_enter Try.func5, Try.ntmps5
  go_wp2_with fail
  refine SH.out.mono ?_
  rintro r w' ⟨rfl, rfl⟩
  go_wp2_with fail
  refine BY.out.mono ?_
  rintro r w1 ⟨rfl, hb⟩
  have B1 := Lib.hid hb
  have z1 := hb.size
  clear hb
  go_wp2_with fail
  refine (new_any _ _).mono ?_
  rintro r w2 ⟨rfl, hp, hb⟩
  obtain ⟨b, hbb⟩ : ∃ b, b = w1.heap.size := ⟨_, rfl⟩
  have P2 := Lib.hid (show PB w2 b (bs (enFs l)) 0 true by rw [hbb]; exact hp)
  have B2 := Lib.hid (B1.out.trans (hb.mono z1))
  have hwb : w.heap.size ≤ b := by omega
  rw [← hbb]
  clear hp hb hbb z1 B1
  go_wp2_with fail
  go_loopw [4, 5] (fun i _ wr => ∃ (k : Nat), k ≤ n ∧ i = .int .i64 k ∧ PB wr b (bs (enFs (l.drop k))) 0 true ∧ Below w.heap.size w wr) (fun i _ _ => n - (intOf i).toNat)
  case atStart => exact ⟨0, Nat.zero_le _, rfl, P2.out, B2.out⟩
  case round =>
    obtain ⟨k, hk, rfl, hp, hb⟩ := hrel
    have P := Lib.hid hp
    have BB := Lib.hid hb
    have hsz := hb.size
    have hbw := hp.lt
    clear hp hb
    by_cases hlt : k < n
    · have hkl : k < l.length := by have := HN.out; omega
      obtain ⟨ab, ao, rfl, hab, x0, x1, x2, ⟨LA, Lc, x3, hi⟩, i0, i1, i2, i3, i4⟩ := fields_below HR.out BB.out k hkl
      have HI := Lib.hid hi
      have H64 := Lib.hid i2
      have HN1 := Lib.hid i1
      have DR := Lib.hid (enFs_drop l k hkl)
      have HSZ : (enFs (l.drop k)).length ≤ 100000 := by
        have h1 := enFs_len100 (l.drop k) (by rw [List.length_drop]; have := HN.out; omega) (fun d hd => HOK.out d (List.mem_of_mem_drop hd))
        omega
      have HSZ2 := Lib.hid HSZ
      obtain ⟨o1, o2⟩ := okF_out (HOK.out l[k] (List.getElem_mem hkl))
      have hne : ab ≠ b := by omega
      generalize l[k] = d at *
      obtain ⟨kd, nm, st, ls⟩ := d
      simp only at *
      rw [DR.out] at P HSZ2
      obtain ⟨rest, hrest⟩ : ∃ rest, rest = enFs (l.drop (k + 1)) := ⟨_, rfl⟩
      rw [← hrest] at P HSZ2
      have REST := Lib.hid hrest
      clear hi i0 i1 i2 i3 i4 hkl HSZ hrest
      by_cases k0 : kd = 0
      · subst k0
        have RI := Lib.hid (fun w' (h : PB w' b (bs (enF ⟨0, nm, st, ls⟩ ++ rest)) 0 true) => live_int b _ w' (by rw [bs_size]; exact HSZ2.out) h)
        rw [show enF ⟨0, nm, st, ls⟩ = enI nm from rfl] at RI P
        rw [fInt_back nm rest HN1.out] at RI
        clear x2 x3
        go_wp2_with fail
        go_region_held3 (fun w' => w'.cell? ⟨ab, ao + k * 4 + 1, none⟩ = some (.int .i64 nm)) (go_keep)
          (first | (go_at_call 26; refine (RI.out _ P.out.drew).mono ?_; rintro r w3 ⟨rfl, hp, hg⟩; have P3 := Lib.hid hp; have G3 := Lib.hid hg; have y1 := box_kept (gb_trans (gb_drewN wr 1 (some b)) hg) x1 hne; clear hp hg))
        have B3 := Lib.hid (below_gb (show Below w.heap.size w wr.drew from BB.out.drew) G3.out hsz hwb)
        clear x0 x1
        go_wp2_with fail
        go_roundw
        case rel => exact ⟨k + 1, by omega, by go_num, by rw [← REST.out]; exact P3.out, B3.out⟩
        case measure => simp [intOf]; omega
      by_cases k1 : kd = 1
      · subst k1
        have RI := Lib.hid (fun w' (h : PB w' b (bs (enF ⟨1, nm, st, ls⟩ ++ rest)) 0 true) => live_text b (st.size : Int) _ w' (by rw [bs_size]; exact HSZ2.out) (by omega) h)
        rw [show enF ⟨1, nm, st, ls⟩ = enT st from rfl] at RI P
        rw [fText_back st rest (by omega)] at RI
        clear x1 x3
        go_wp2_with fail
        go_region_held3 (fun w' => w'.cell? ⟨ab, ao + k * 4 + 2, none⟩ = some (.string st)) (go_keep)
          (first | (go_at_call 27; refine (RI.out _ P.out.drew).mono ?_; rintro r w3 ⟨rfl, hp, hg⟩; have P3 := Lib.hid hp; have G3 := Lib.hid hg; have y1 := box_kept (gb_trans (gb_drewN wr 1 (some b)) hg) x2 hne; clear hp hg))
        all_goals
          have B3 := Lib.hid (below_gb (show Below w.heap.size w wr.drew from BB.out.drew) G3.out hsz hwb)
          clear x0 x2
          go_wp2_with fail
          go_roundw
          case rel => exact ⟨k + 1, by omega, by go_num, by rw [← REST.out]; exact P3.out, B3.out⟩
          case measure => simp [intOf]; omega
      by_cases k2 : kd = 2
      · subst k2
        have RI := Lib.hid (fun w' (h : PB w' b (bs (enF ⟨2, nm, st, ls⟩ ++ rest)) 0 true) => live_bool b _ w' (by rw [bs_size]; exact HSZ2.out) h)
        rw [show enF ⟨2, nm, st, ls⟩ = enB (nm == 1) from rfl] at RI P
        rw [fBool_back (nm == 1) rest] at RI
        clear x2 x3
        go_wp2_with fail
        go_region_held3 (fun w' => w'.cell? ⟨ab, ao + k * 4 + 1, none⟩ = some (.int .i64 nm)) (go_keep)
          (first | (go_at_call 28; refine (RI.out _ P.out.drew).mono ?_; rintro r w3 ⟨rfl, hp, hg⟩; have P3 := Lib.hid hp; have G3 := Lib.hid hg; have y1 := box_kept (gb_trans (gb_drewN wr 1 (some b)) hg) x1 hne; clear hp hg))
        all_goals
          have B3 := Lib.hid (below_gb (show Below w.heap.size w wr.drew from BB.out.drew) G3.out hsz hwb)
          clear x0 x1
          go_wp2_with fail
          go_roundw
          case rel => exact ⟨k + 1, by omega, by go_num, by rw [← REST.out]; exact P3.out, B3.out⟩
          case measure => simp [intOf]; omega
      · have j0 : (kd == 0) = false := by simpa using k0
        have j1 : (kd == 1) = false := by simpa using k1
        have j2 : (kd == 2) = false := by simpa using k2
        have E := Lib.hid (show enF ⟨kd, nm, st, ls⟩ = enL ls by unfold enF; simp [k0, k1, k2])
        have RI := Lib.hid (fun w' (h : PB w' b (bs (enL ls ++ rest)) 0 true) => live_ints b 100 _ w' (by rw [bs_size, ← E.out]; exact HSZ2.out) (by omega) h)
        rw [fInts_back 100 ls rest (by omega) (by omega) H64.out] at RI
        rw [E.out] at P
        clear k0 k1 k2 x1 x2
        go_wp2_with fail
        go_region_held3 (fun w' => w'.cell? ⟨ab, ao + k * 4 + 3, none⟩ = some (.slice LA ls.length Lc)) (go_keep)
          (first
            | (go_at_call 30; refine (RI.out _ P.out.drew).mono ?_; rintro r w3 ⟨v3, rfl, hp, hg, hown⟩
               obtain ⟨A3, c3, e3, i3⟩ := own_ints hown rfl
               have P3 := Lib.hid hp; have G3 := Lib.hid hg; have I3 := Lib.hid i3; have y3 := box_kept (gb_trans (gb_drewN wr 1 (some b)) hg) x3 hne
               have hz3 : wr.heap.size ≤ w3.heap.size := hg.size
               clear hp hg hown i3; subst e3)
            | (go_at_call 29
               refine (same_any A3 LA c3 Lc ls w3 (by omega) I3.out ((HI.out.below (show Below w.heap.size wr w3 from below_gb (Below.refl _ wr).drew G3.out hsz hwb)).more (by omega))).mono ?_
               rintro r w4 ⟨rfl, hs⟩
               have P4 := Lib.hid (P3.out.kept (same_gb hs none) (by simp)); have HS4 := Lib.hid hs
               have y4 := ((same_draw hs w3.heap.size).cell (p := ⟨ab, ao + k * 4 + 3, none⟩) (by show ab < w3.heap.size; omega)).trans y3
               clear hs))
        all_goals
          have B4 := Lib.hid ((below_gb (show Below w.heap.size w wr.drew from BB.out.drew) G3.out hsz hwb).trans (same_draw HS4.out _))
          clear x0 x3
          go_wp2_with fail
          go_roundw
          case rel => exact ⟨k + 1, by omega, by go_num, by rw [← REST.out]; exact P4.out, B4.out⟩
          case measure => simp [intOf]; omega
    · have e : bs (enFs (l.drop k)) = ByteArray.empty := by
        rw [List.drop_of_length_le (by have := HN.out; omega)]; rfl
      rw [e] at P
      clear e
      have LE := live_end b ByteArray.empty wr P.out
      rw [show (if ByteArray.empty.size = 0 then (0 : Int) else 23) = 0 by decide] at LE
      have HLE := Lib.hid LE
      clear LE
      go_wp2_with fail
      refine HLE.out.mono ?_
      rintro r w' ⟨rfl, rfl⟩
      go_wp2_with fail
      refine (awake_any _).mono ?_
      rintro r w5 ⟨rfl, hb⟩
      go_wp2_with fail
      go_ret
      exact ⟨rfl, BB.out.trans (hb.mono hsz)⟩
end Go.Proofs.Ytfpkpgfdmidjfaa
