/- Contracts of Seen, Forget, Cost and Quality. -/
import Derived.Test.YthfkmmgckiijcaaLN
set_option linter.unusedVariables false
namespace Go.Proofs.Ythfkmmgckiijcaa.Lnk
open Go.RowKit

/-- An entry, whatever its node. -/
structure Ok2 (x : Lk) : Prop where
  b0 : 0 ≤ x.2.1
  b1 : x.2.1 < 65536
  c0 : 0 ≤ x.2.2
  c1 : x.2.2 ≤ 16
  s0 : 0 ≤ scc x
  s1 : scc x ≤ x.2.2
theorem entd_ok2 {l : List Lk} (hl : Val l) (n : Int) : Ok2 (entd l n) := by
  unfold entd
  cases he : ent l n with
  | none =>
    have := scc_empty n
    exact ⟨by show (0 : Int) ≤ 0; omega, by show (0 : Int) < 65536; omega, by show (0 : Int) ≤ 0; omega, by show (0 : Int) ≤ 16; omega, by rw [Option.getD_none, this]; exact Int.le_refl _, by rw [Option.getD_none, this]; exact Int.le_refl _⟩
  | some x =>
    have h := hl.2.1 x (ent_mem he).1
    have h1 := bits_lt h
    have h2 := scc_le h
    have h3 := h.2.1
    exact ⟨h1.1, h1.2, h3.1, h3.2, h2.1, h2.2⟩
set_option maxHeartbeats 400000 in
theorem lsuccH_any (x : Lk) (hx : Ok2 x) (w : World) : Calls Try.prog 39 #[lkV x] w (OutG w (.int .i64 (scc x))) := by
  obtain ⟨n, b, c⟩ := x
  have hb1 : 0 ≤ b := hx.b0
  have hb2 : b < 65536 := hx.b1
  obtain ⟨bn, hbn⟩ : ∃ bn : Nat, b = (bn : Int) := ⟨b.toNat, by omega⟩
  subst hbn
  have K := Lib.hid (fun w => ones_any bn (by omega) w)
  have R := Lib.hid (show scc (n, (bn : Int), c) = (ones 16 bn : Nat) from rfl)
  have w1 : IntKind.u64.wrap (bn : Int) = (bn : Int) := by
    show (bn : Int) % 18446744073709551616 = bn
    omega
  clear hx
  rw [R.out]
  generalize ones 16 bn = r at *
  go_enter Try.func39, Try.ntmps39
  go_wp2_with (go_at_call 49; refine (K.out _).mono ?_; rintro e w' ⟨rfl, rfl⟩)
  go_ret
  exact outG_alloc _ rfl
set_option maxRecDepth 100000 in
set_option maxHeartbeats 1000000 in
theorem lcostH_any (x : Lk) (hx : Ok2 x) (w : World) : Calls Try.prog 35 #[lkV x] w (OutG w (.int .i64 (cst x))) := by
  obtain ⟨n, b, c⟩ := x
  have K := Lib.hid (fun w => (show Calls Try.prog 39 #[.agg #[.int .i64 n, .int .i64 b, .int .i64 c]] w (OutG w (.int .i64 (scc (n, b, c)))) from lsuccH_any (n, b, c) hx w))
  have hs1 := hx.s0
  have hs2 : scc (n, b, c) ≤ c := hx.s1
  have hc1 : 0 ≤ c := hx.c0
  have hc2 : c ≤ 16 := hx.c1
  have C0 := Lib.hid (fun h => (show cst (n, b, c) = 255 from if_pos h))
  have C1 := Lib.hid (fun (h : scc (n, b, c) ≠ 0) => (show cst (n, b, c) = -flo (-(10 * c)) (scc (n, b, c)) by rw [cst_pos h, flo_plain _ _ (by omega) (by omega) (by omega) (by omega)]))
  clear hx
  generalize scc (n, b, c) = s at *
  generalize cst (n, b, c) = t at *
  by_cases h0 : s = 0
  · have R := Lib.hid (C0.out h0)
    have d1 : (s == 0) = true := by simpa using h0
    clear C0 C1
    go_enter Try.func35, Try.ntmps35
    go_wp2_with fail
    refine (K.out _).mono ?_
    rintro _ w1 ⟨rfl, q, os, hw⟩
    have HW := Lib.hid hw
    clear hw
    go_wp2_with fail
    go_ret
    exact outG_on (grown_alloc w _) (outG_same HW.out (by rw [R.out]; rfl))
  · have R := Lib.hid (C1.out h0)
    have d1 : (s == 0) = false := by simpa using h0
    have KC := Lib.hid (fun w => nceil_any (10 * c) s w)
    have z1 : IntKind.i64.wrap (10 * c) = 10 * c := by rw [IntKind.wrap_i64]; omega
    clear C0 C1 h0
    go_enter Try.func35, Try.ntmps35
    go_wp2_with fail
    refine (K.out _).mono ?_
    rintro _ w1 ⟨rfl, q, os, hw⟩
    have HW := Lib.hid hw
    have c0 := box_grown hw 0 (v := .int .i64 n) rfl
    have c1 := box_grown hw 1 (v := .int .i64 b) rfl
    have c2 := box_grown hw 2 (v := .int .i64 c) rfl
    clear hw
    go_wp2_with fail
    have mixed := mixedB
    go_quiet_grown (first | (go_at_call 39; refine grown_out (K.out _)) | (go_at_call 46; refine grown_same (KC.out _)) | fail)
    go_wp2_with fail
    go_ret
    exact outG_on (grown_alloc w _) (outG_on HW.out (outG_same rfl (by rw [R.out]; rfl)))

/-- Whether there is room, in the program's words. -/
theorem room_iff (n : Int) (v : List Lk) (hv : Val v) : Room v n ↔ (0 ≤ n ∧ n ≤ 250) ∧ ¬ (pos n v = pe n v ∧ v.length = 24) := by
  unfold Room
  rw [ent_fnd n v hv.2.2]
  have h1 := hv.1
  unfold pe
  cases h : fnd n v with
  | true => simp
  | false =>
    simp only [Bool.false_eq_true, if_false, Nat.add_zero, true_and, false_or]
    constructor
    · exact fun ⟨a, b⟩ => ⟨a, by omega⟩
    · exact fun ⟨a, b⟩ => ⟨a, by omega⟩

section
variable (A : Option Addr) (c : Nat) (l : List Lk) (n : Int) (w : World) (hl : l.length ≤ 9223372036854775807) (hc : l.length ≤ c) (hc0 : A = none → c = 0) (hA : LkAt w w.heap.size A l)
include hl hc hc0 hA

set_option maxHeartbeats 1000000 in
theorem lcost_any : Calls Try.prog 17 #[.slice A l.length c, .int .i64 n] w (OutI w (cost l n)) := by
  have K1 := Lib.hid (lvalid_any A c l w hl hc hc0 hA)
  have CE := Lib.hid (cost_entd l n)
  have V24 := vl_len l
  have VV := Lib.hid (vl_val l)
  clear hA hc hc0 hl
  generalize vl l = v at *
  generalize cost l n = q at *
  go_enter Try.func17, Try.ntmps17
  go_wp2_with fail
  refine K1.out.mono ?_
  rintro _ w1 ⟨A1, c1, rfl, hA1, _, _, hb⟩
  have B1 := Lib.hid hb
  have HA1 := Lib.hid hA1
  have hz1 := hb.size
  clear hb hA1 K1
  go_wp2_with fail
  refine (entryOf_any A1 c1 v n _ (by omega) VV.out.2.2 HA1.out).mono ?_
  rintro _ w2 ⟨rfl, hb⟩
  have B2 := Lib.hid (B1.out.trans (hb.mono hz1))
  have hz2 := B2.out.size
  clear hb HA1 B1
  have EO := Lib.hid (entd_ok2 VV.out n)
  generalize entd v n = x at *
  obtain ⟨x0, x1, x2⟩ := x
  have KC := Lib.hid (fun w => (show Calls Try.prog 35 #[.agg #[.int .i64 x0, .int .i64 x1, .int .i64 x2]] w (OutI w (cst (x0, x1, x2))) from (lcostH_any (x0, x1, x2) EO.out w).mono fun _ _ h => outG_I h))
  generalize cst (x0, x1, x2) = y at *
  simp only
  go_wp2_with fail
  refine (KC.out _).mono ?_
  rintro _ w3 ⟨rfl, hb⟩
  have B3 := Lib.hid (B2.out.trans (hb.mono hz2))
  clear hb
  go_wp2_with fail
  go_ret
  exact outI CE.out.symm B3.out

set_option maxHeartbeats 1000000 in
theorem lforget_any : Calls Try.prog 15 #[.slice A l.length c, .int .i64 n] w (OutF fL w (fgt l n)) := by
  have K1 := Lib.hid (lvalid_any A c l w hl hc hc0 hA)
  have V24 := vl_len l
  have VV := Lib.hid (vl_val l)
  have FE := Lib.hid (show fgt l n = (vl l).take (pos n (vl l)) ++ [] ++ (vl l).drop (pe n (vl l)) from fil_pos n (vl l) (vl_val l).2.2)
  clear hA hc hc0 hl
  generalize vl l = v at *
  generalize fgt l n = F at *
  have hp := pe_le n v
  obtain ⟨hp1, hp2⟩ := hp
  go_enter Try.func15, Try.ntmps15
  go_wp2_with fail
  refine K1.out.mono ?_
  rintro _ w1 ⟨A1, c1, rfl, hA1, hc1, _, hb⟩
  have B1 := Lib.hid hb
  have HA1 := Lib.hid hA1
  have hz1 := hb.size
  clear hb hA1 K1
  go_wp2_with fail
  refine (place_any A1 c1 v n _ (by omega) VV.out.2.2 HA1.out).mono ?_
  rintro _ w2 ⟨rfl, hb⟩
  have B2 := Lib.hid (B1.out.trans (hb.mono hz1))
  have HA2 := Lib.hid (HA1.out.next hb)
  have hz2 := B2.out.size
  clear hb HA1 B1
  have KR : Hid (Calls Try.prog 30 #[.slice A1 v.length c1, .int .i64 (pos n v : Nat), .int .i64 (pe n v : Nat), .slice none 0 0] w2 (OutF fL w2 F)) := Lib.hid (by
    have := replaced_any A1 none c1 0 (pos n v) (pe n v) v [] w2 hp1 hp2 (by omega) (by simp) hc1 HA2.out (FlAt.nil _ _ _)
    rw [← FE.out] at this
    exact this)
  clear FE
  generalize pos n v = i at *
  generalize pe n v = j at *
  go_wp2_with fail
  refine KR.out.mono ?_
  rintro _ w3 ⟨A3, c3, rfl, hA3, hc3, hn3, hb⟩
  have B3 := Lib.hid (B2.out.trans (hb.mono hz2))
  have HA3 := Lib.hid hA3
  have HN3 := Lib.hid hn3
  clear hb hA3 hn3
  go_wp2_with fail
  go_ret
  exact ⟨A3, c3, rfl, HA3.out, hc3, HN3.out, B3.out⟩

set_option maxRecDepth 100000 in
set_option maxHeartbeats 2000000 in
theorem lseen_any (ok : Bool) : Calls Try.prog 13 #[.slice A l.length c, .int .i64 n, .bool ok] w (OutF fL w (sen l n (if ok then 1 else 0))) := by
  have K1 := Lib.hid (lvalid_any A c l w hl hc hc0 hA)
  have V24 := vl_len l
  have VV := Lib.hid (vl_val l)
  have RM := Lib.hid (room_iff n (vl l) (vl_val l))
  have hp := pe_le n (vl l)
  obtain ⟨hp1, hp2⟩ := hp
  have IA := Lib.hid (fun w => isAddress_any n w)
  obtain ⟨t, ht⟩ : ∃ t : Int, t = (if ok then 1 else 0) := ⟨_, rfl⟩
  have ht2 : t = 0 ∨ t = 1 := by rw [ht]; cases ok <;> simp
  have HT := Lib.hid ht
  rw [← ht]
  have S1 := Lib.hid (fun h : Room (vl l) n => (show sen l n t = (vl l).take (pos n (vl l)) ++ [nxt (entd (vl l) n) t] ++ (vl l).drop (pe n (vl l)) by
    have e : (nxt (entd (vl l) n) t).1 = n := (entd_ok (vl_val l) h.1).2
    have := ins_pos (nxt (entd (vl l) n) t) (vl l)
    rw [e] at this
    unfold sen
    rw [if_pos h, this]))
  have S0 := Lib.hid (fun h : ¬ Room (vl l) n => (show sen l n t = vl l from if_neg h))
  clear hA hc hc0 hl ht
  generalize vl l = v at *
  generalize sen l n t = F at *
  have CL := Lib.hid (fun A1 c1 w (h : LkAt w w.heap.size A1 v) => lclone_any A1 c1 v w (by omega) h)
  go_enter Try.func13, Try.ntmps13
  go_wp2_with fail
  refine K1.out.mono ?_
  rintro _ w1 ⟨A1, c1, rfl, hA1, hc1, _, hb⟩
  have B1 := Lib.hid hb
  have HA1 := Lib.hid hA1
  have hz1 := hb.size
  clear hb hA1 K1
  go_wp2_with fail
  refine (place_any A1 c1 v n _ (by omega) VV.out.2.2 HA1.out).mono ?_
  rintro _ w2 ⟨rfl, hb⟩
  have B2 := Lib.hid (B1.out.trans (hb.mono hz1))
  have HA2 := Lib.hid (HA1.out.next hb)
  have hz2 := B2.out.size
  clear hb HA1 B1
  by_cases ha : 0 ≤ n ∧ n ≤ 250
  · rw [dt ha] at IA
    by_cases hr : pos n v = pe n v ∧ v.length = 24
    · obtain ⟨hr1, hr2⟩ := hr
      have R := Lib.hid (S0.out (fun h => (RM.out.1 h).2 ⟨hr1, hr2⟩))
      have t1 : ((pos n v : Nat) : Int) = ((pe n v : Nat) : Int) := by omega
      have t2 : ((v.length : Int) == 24) = true := by simp; omega
      have t3 : (((pos n v : Nat) : Int) == ((pe n v : Nat) : Int)) = true := by simpa using t1
      have t4 : (v.length == 24) = true := by simp; omega
      clear S1 S0 RM hr1 hr2 t1
      generalize pos n v = i at *
      generalize pe n v = j at *
      go_wp2_with fail
      refine (IA.out _).mono ?_
      rintro _ w3 ⟨rfl, rfl⟩
      go_wp2_with fail
      refine (CL.out _ _ _ HA2.out).mono ?_
      rintro _ w4 ⟨x, rfl, hx, hb⟩
      have B4 := Lib.hid (B2.out.trans (hb.mono hz2))
      have X4 := Lib.hid hx
      clear hb hx
      go_wp2_with fail
      go_ret
      exact outF_own R.out X4.out B4.out
    · have R := Lib.hid (S1.out (RM.out.2 ⟨ha, hr⟩))
      have EO := Lib.hid (entd_ok VV.out ha).1
      clear S1 S0 RM CL ha
      by_cases hij : pos n v = pe n v
      · have t3 : (((pos n v : Nat) : Int) == ((pe n v : Nat) : Int)) = true := by rw [hij]; simp
        have t4 : (v.length == 24) = false := by simp; omega
        have t2 : ((v.length : Int) == 24) = false := by simp; omega
        clear hr hij
        go_wp2_with fail
        refine (IA.out _).mono ?_
        rintro _ w3 ⟨rfl, rfl⟩
        go_wp2_with fail
        refine (entryOf_any A1 c1 v n _ (by omega) VV.out.2.2 HA2.out).mono ?_
        rintro _ w4 ⟨rfl, hb⟩
        have B4 := Lib.hid (B2.out.trans (hb.mono hz2))
        have HA4 := Lib.hid (HA2.out.next hb)
        have hz4 := B4.out.size
        clear hb HA2 B2
        obtain ⟨⟨x0, x1, x2⟩, hx⟩ : ∃ x, entd v n = x := ⟨_, rfl⟩
        rw [hx] at R EO
        have KA : Hid (∀ w, Calls Try.prog 31 #[.agg #[.int .i64 x0, .int .i64 x1, .int .i64 x2], .bool ok] w (OutE w (nxt (x0, x1, x2) t))) := Lib.hid (fun w => by
          have := after_any (x0, x1, x2) ok EO.out w
          rw [← HT.out] at this
          exact this)
        have NO := Lib.hid (nxt_ok EO.out t ht2)
        obtain ⟨⟨y0, y1, y2⟩, hy⟩ : ∃ y, nxt (x0, x1, x2) t = y := ⟨_, rfl⟩
        rw [hy] at R KA NO
        rw [hx]
        clear hx hy
        simp only
        go_wp2_with fail
        refine (KA.out _).mono ?_
        rintro _ w5 ⟨rfl, hb⟩
        have B5 := Lib.hid (B4.out.trans (hb.mono hz4))
        have HA5 := Lib.hid (HA4.out.next hb)
        have hz5 := B5.out.size
        clear hb HA4 B4
        have KR : Hid (Calls Try.prog 30 #[.slice A1 v.length c1, .int .i64 (pos n v : Nat), .int .i64 (pe n v : Nat), .slice (some ⟨w5.heap.size, 0, none⟩) 1 1] (w5.alloc (bxL y0 y1 y2)) (OutF fL (w5.alloc (bxL y0 y1 y2)) F)) := Lib.hid (by
          have := replaced_any A1 (some ⟨w5.heap.size, 0, none⟩) c1 1 (pos n v) (pe n v) v [(y0, y1, y2)] (w5.alloc (bxL y0 y1 y2)) hp1 hp2 (by omega) (by simp) hc1 (HA5.out.next (alloc_below _ _)) (FlAt.lit (F := fL) w5 [(y0, y1, y2)] #[.int .i64 y0, .int .i64 y1, .int .i64 y2] 38 (by unfold maxLen; simp) rfl (fun a ha => by obtain rfl := List.mem_singleton.1 ha; exact ok_i64 NO.out))
          rw [← R.out] at this
          exact this)
        have B6 := Lib.hid (B5.out.trans ((alloc_below w5 (bxL y0 y1 y2)).mono hz5))
        have hz6 := B6.out.size
        clear R NO KA EO
        simp only
        generalize pos n v = i at *
        generalize pe n v = j at *
        go_wp2_with fail
        refine KR.out.mono ?_
        rintro _ w7 ⟨A3, c3, rfl, hA3, hc3, hn3, hb⟩
        have B7 := Lib.hid (B6.out.trans (hb.mono hz6))
        have HA3 := Lib.hid hA3
        have HN3 := Lib.hid hn3
        clear hb hA3 hn3
        go_wp2_with fail
        go_ret
        exact ⟨A3, c3, rfl, HA3.out, hc3, HN3.out, B7.out⟩
      · have t3 : (((pos n v : Nat) : Int) == ((pe n v : Nat) : Int)) = false := by simp; omega
        clear hr hij
        go_wp2_with fail
        refine (IA.out _).mono ?_
        rintro _ w3 ⟨rfl, rfl⟩
        go_wp2_with fail
        refine (entryOf_any A1 c1 v n _ (by omega) VV.out.2.2 HA2.out).mono ?_
        rintro _ w4 ⟨rfl, hb⟩
        have B4 := Lib.hid (B2.out.trans (hb.mono hz2))
        have HA4 := Lib.hid (HA2.out.next hb)
        have hz4 := B4.out.size
        clear hb HA2 B2
        obtain ⟨⟨x0, x1, x2⟩, hx⟩ : ∃ x, entd v n = x := ⟨_, rfl⟩
        rw [hx] at R EO
        have KA : Hid (∀ w, Calls Try.prog 31 #[.agg #[.int .i64 x0, .int .i64 x1, .int .i64 x2], .bool ok] w (OutE w (nxt (x0, x1, x2) t))) := Lib.hid (fun w => by
          have := after_any (x0, x1, x2) ok EO.out w
          rw [← HT.out] at this
          exact this)
        have NO := Lib.hid (nxt_ok EO.out t ht2)
        obtain ⟨⟨y0, y1, y2⟩, hy⟩ : ∃ y, nxt (x0, x1, x2) t = y := ⟨_, rfl⟩
        rw [hy] at R KA NO
        rw [hx]
        clear hx hy
        simp only
        go_wp2_with fail
        refine (KA.out _).mono ?_
        rintro _ w5 ⟨rfl, hb⟩
        have B5 := Lib.hid (B4.out.trans (hb.mono hz4))
        have HA5 := Lib.hid (HA4.out.next hb)
        have hz5 := B5.out.size
        clear hb HA4 B4
        have KR : Hid (Calls Try.prog 30 #[.slice A1 v.length c1, .int .i64 (pos n v : Nat), .int .i64 (pe n v : Nat), .slice (some ⟨w5.heap.size, 0, none⟩) 1 1] (w5.alloc (bxL y0 y1 y2)) (OutF fL (w5.alloc (bxL y0 y1 y2)) F)) := Lib.hid (by
          have := replaced_any A1 (some ⟨w5.heap.size, 0, none⟩) c1 1 (pos n v) (pe n v) v [(y0, y1, y2)] (w5.alloc (bxL y0 y1 y2)) hp1 hp2 (by omega) (by simp) hc1 (HA5.out.next (alloc_below _ _)) (FlAt.lit (F := fL) w5 [(y0, y1, y2)] #[.int .i64 y0, .int .i64 y1, .int .i64 y2] 38 (by unfold maxLen; simp) rfl (fun a ha => by obtain rfl := List.mem_singleton.1 ha; exact ok_i64 NO.out))
          rw [← R.out] at this
          exact this)
        have B6 := Lib.hid (B5.out.trans ((alloc_below w5 (bxL y0 y1 y2)).mono hz5))
        have hz6 := B6.out.size
        clear R NO KA EO
        simp only
        generalize pos n v = i at *
        generalize pe n v = j at *
        go_wp2_with fail
        refine KR.out.mono ?_
        rintro _ w7 ⟨A3, c3, rfl, hA3, hc3, hn3, hb⟩
        have B7 := Lib.hid (B6.out.trans (hb.mono hz6))
        have HA3 := Lib.hid hA3
        have HN3 := Lib.hid hn3
        clear hb hA3 hn3
        go_wp2_with fail
        go_ret
        exact ⟨A3, c3, rfl, HA3.out, hc3, HN3.out, B7.out⟩
  · rw [df ha] at IA
    have R := Lib.hid (S0.out (fun h => ha h.1))
    clear S1 S0 RM ha
    generalize pos n v = i at *
    generalize pe n v = j at *
    go_wp2_with fail
    refine (IA.out _).mono ?_
    rintro _ w3 ⟨rfl, rfl⟩
    go_wp2_with fail
    refine (CL.out _ _ _ HA2.out).mono ?_
    rintro _ w4 ⟨x, rfl, hx, hb⟩
    have B4 := Lib.hid (B2.out.trans (hb.mono hz2))
    have X4 := Lib.hid hx
    clear hb hx
    go_wp2_with fail
    go_ret
    exact outF_own R.out X4.out B4.out

omit hl hc hc0 hA in
theorem quality_entd : quality l n = qlt (entd (vl l) n) := by
  unfold quality entd
  cases ent (vl l) n with
  | none => rfl
  | some x => rw [Option.getD_some]
set_option maxRecDepth 100000 in
set_option maxHeartbeats 1000000 in
theorem lquality_any : Calls Try.prog 19 #[.slice A l.length c, .int .i64 n] w (OutI w (quality l n)) := by
  have K1 := Lib.hid (lvalid_any A c l w hl hc hc0 hA)
  have CE := Lib.hid (quality_entd l n)
  have V24 := vl_len l
  have VV := Lib.hid (vl_val l)
  clear hA hc hc0 hl
  generalize vl l = v at *
  generalize quality l n = q at *
  go_enter Try.func19, Try.ntmps19
  go_wp2_with fail
  refine K1.out.mono ?_
  rintro _ w1 ⟨A1, c1, rfl, hA1, _, _, hb⟩
  have B1 := Lib.hid hb
  have HA1 := Lib.hid hA1
  have hz1 := hb.size
  clear hb hA1 K1
  go_wp2_with fail
  refine (entryOf_any A1 c1 v n _ (by omega) VV.out.2.2 HA1.out).mono ?_
  rintro _ w2 ⟨rfl, hb⟩
  have B2 := Lib.hid (B1.out.trans (hb.mono hz1))
  have hz2 := B2.out.size
  clear hb HA1 B1
  have EO := Lib.hid (entd_ok2 VV.out n)
  generalize entd v n = x at *
  obtain ⟨x0, x1, x2⟩ := x
  have KS := Lib.hid (fun w => (show Calls Try.prog 39 #[.agg #[.int .i64 x0, .int .i64 x1, .int .i64 x2]] w (OutG w (.int .i64 (scc (x0, x1, x2)))) from lsuccH_any (x0, x1, x2) EO.out w))
  have s0 : 0 ≤ scc (x0, x1, x2) := EO.out.s0
  have s1 : scc (x0, x1, x2) ≤ x2 := EO.out.s1
  have s2 : 0 ≤ x2 := EO.out.c0
  have s3 : x2 ≤ 16 := EO.out.c1
  have CE := Lib.hid (show flo (100 * scc (x0, x1, x2)) x2 = q by
    rw [CE.out]
    unfold qlt
    by_cases h : x2 = 0
    · rw [if_pos h, h]; rfl
    · rw [if_neg h, flo_plain _ _ (by omega) (by omega) (by omega) (by omega)])
  have z1 : IntKind.i64.wrap (100 * scc (x0, x1, x2)) = 100 * scc (x0, x1, x2) := by rw [IntKind.wrap_i64]; omega
  clear EO
  generalize scc (x0, x1, x2) = s at *
  have KF := Lib.hid (fun w => nfloor_any (100 * s) x2 w)
  rw [CE.out] at KF
  simp only
  go_wp2_with fail
  obtain ⟨W, hW⟩ : ∃ W, W = w2.alloc (bxL x0 x1 x2) := ⟨_, rfl⟩
  have B3 := Lib.hid (show Below w.heap.size w W by rw [hW]; exact B2.out.trans ((alloc_below _ _).mono hz2))
  have b1 : W.heap[w2.heap.size]? = some (bxL x0 x1 x2) := by rw [hW]; exact blk_new _ _
  have c0 := fun n os => cell_grown (w := W) (a := ⟨w2.heap.size, 0, none⟩) (blk_lt b1) (blk_cell b1 0 (v := .int .i64 x0) rfl) n os
  have c1 := fun n os => cell_grown (w := W) (a := ⟨w2.heap.size, 1, none⟩) (blk_lt b1) (blk_cell b1 1 (v := .int .i64 x1) rfl) n os
  have c2 := fun n os => cell_grown (w := W) (a := ⟨w2.heap.size, 2, none⟩) (blk_lt b1) (blk_cell b1 2 (v := .int .i64 x2) rfl) n os
  rw [← hW]
  clear hW b1
  have mixed := mixedB
  go_quiet_grown (first | (go_at_call 39; exact grown_out (KS.out _)) | (go_at_call 38; exact grown_same (KF.out _)) | fail)
  go_wp2_with fail
  go_ret
  exact outI rfl (B3.out.trans ((grown_below _ _ _).mono B3.out.size))
end
end Go.Proofs.Ythfkmmgckiijcaa.Lnk
