/- Contracts of wire's Reader: lists. -/
import Derived.Test.YtfpkpgfdmidjfaaWE
import Derived.LoopN
set_option linter.unusedVariables false
namespace Go.Proofs.Ytfpkpgfdmidjfaa
open Go.RowKit

/-- A method of the Reader at block b as a value. -/
abbrev mv (f : Nat) (p : Value) : Value := .func (.func f) #[p] #[]

theorem dead_list (p : Value) (w : World) (k n : Int) (h : Dead p w k) :
    Calls Try.prog 48 #[.int .i64 n, mv 33 p, mv 26 p, mv 32 p] w fun r w' => r = .returned (.slice none 0 0) ∧ w = w' := by
  have HD := Lib.hid h
  clear h
  go_enter Try.func48, Try.ntmps48
  go_wp2_with fail
  refine (dead_count p _ k n HD.out).mono ?_
  rintro e w' ⟨rfl, rfl⟩
  go_wp2_with fail
  refine wp_loop_rounds 1 ?_
  rw [rounds_succ]
  go_wp2_with fail
  go_ret
  exact ⟨rfl, rfl⟩
theorem dead_ints (p : Value) (w : World) (k n : Int) (h : Dead p w k) :
    Calls Try.prog 30 #[p, .int .i64 n] w fun r w' => r = .returned (.slice none 0 0) ∧ w = w' := by
  have HD := Lib.hid h
  clear h
  go_enter Try.func30, Try.ntmps30
  go_wp2_with fail
  refine (dead_list p _ k n HD.out).mono ?_
  rintro e w' ⟨rfl, rfl⟩
  go_wp2_with fail
  go_ret
  exact ⟨rfl, rfl⟩

/-- So many numbers. -/
def gInts : Nat → ByteArray → List Int × ByteArray × Int
  | 0, t => ([], t, 0)
  | n + 1, t =>
    if (fInt t).2.2 ≠ 0 then ([], (fInt t).2.1, (fInt t).2.2)
    else if (gInts n (fInt t).2.1).2.2 ≠ 0 then ([], (gInts n (fInt t).2.1).2.1, (gInts n (fInt t).2.1).2.2)
    else ((fInt t).1 :: (gInts n (fInt t).2.1).1, (gInts n (fInt t).2.1).2.1, 0)
/-- A list of at most so many numbers. -/
def fInts (most : Int) (s : ByteArray) : List Int × ByteArray × Int :=
  if (fCount most s).2.2 ≠ 0 then ([], (fCount most s).2.1, (fCount most s).2.2) else gInts (fCount most s).1.toNat (fCount most s).2.1
/-- What was read so far, ahead of a result. -/
def ahead (ys : List Int) (r : List Int × ByteArray × Int) : List Int × ByteArray × Int := if r.2.2 ≠ 0 then ([], r.2.1, r.2.2) else (ys ++ r.1, r.2.1, 0)
theorem gInts_e (n : Nat) : ∀ t, (gInts n t).2.2 ≠ 0 → (gInts n t).1 = [] := by
  induction n with
  | zero => intro t h; rfl
  | succ n ih => intro t h; unfold gInts at *; (repeat' split at *) <;> simp_all
theorem gInts_eta (n : Nat) (t : ByteArray) : gInts n t = ahead [] (gInts n t) := by
  have h := gInts_e n t
  unfold ahead
  rcases hg : gInts n t with ⟨l, u, e⟩
  rw [hg] at h
  by_cases he : e = 0
  · simp [he]
  · have : l = [] := h he
    simp [he, this]
theorem ahead_bad (ys : List Int) (n : Nat) (t : ByteArray) (h : (fInt t).2.2 ≠ 0) : ahead ys (gInts (n + 1) t) = ([], (fInt t).2.1, (fInt t).2.2) := by
  conv => lhs; unfold gInts ahead
  simp [h]
theorem ahead_good (ys : List Int) (n : Nat) (t : ByteArray) (h : (fInt t).2.2 = 0) : ahead ys (gInts (n + 1) t) = ahead (ys ++ [(fInt t).1]) (gInts n (fInt t).2.1) := by
  conv => lhs; unfold gInts ahead
  unfold ahead
  by_cases h2 : (gInts n (fInt t).2.1).2.2 = 0 <;> simp [h, h2]
theorem ahead_done (ys : List Int) (t : ByteArray) : ahead ys (gInts 0 t) = (ys, t, 0) := by simp [ahead, gInts]

/-- Numbers as the cells of a row. -/
def i64s (l : List Int) : List Value := l.map (Value.int .i64)
theorem i64s_snoc (ys : List Int) (v : Int) : i64s ys ++ [.int .i64 v] = i64s (ys ++ [v]) := by unfold i64s; rw [List.map_append]; rfl
theorem isnoc_len (ys : List Int) (v : Int) : (ys ++ [v]).length = ys.length + 1 := by simp
theorem info_int : (Try.prog.info? 3).map (fun i => (i.zero, i.size, i.bytes)) = some (some (.int .i64 0), 1, 8) := by kernel_rfl
theorem gb_row {w w1 w2 : World} {r row : Option Nat} (h : w.grownBy w1 r) (k : w1.grownBy w2 row) (hr : ∀ g, row = some g → w.heap.size ≤ g) : w.grownBy w2 r :=
  ⟨k.os.trans h.os, k.tape.trans h.tape, k.output.trans h.output, Nat.le_trans h.size k.size, fun i hi hne =>
    (k.block i (Nat.lt_of_lt_of_le hi h.size) (fun e => by have := hr i e.symm; omega)).trans (h.block i hi hne)⟩
theorem gb_alloc {w w1 : World} {r : Option Nat} (h : w.grownBy w1 r) (o : Obj) : w.grownBy (w1.alloc o) r := gb_trans h (World.grownBy_alloc w1 o r)

theorem fInt_less (s : ByteArray) (hs : s.size ≤ 100000) (h : (fInt s).2.2 = 0) : (fInt s).2.1.size + 1 ≤ s.size := by
  unfold fInt at *
  rcases rd_ends s.data.toList 0 0 (by omega) (by omega) with e | e | ⟨v, n, e, h1, h2, h3, h4⟩
  · rw [e] at h; cases h
  · rw [e] at h; cases h
  · rw [e]; simp at h4 ⊢; omega

/-- What a call that reads a list leaves. -/
def OutL (b : Nat) (w : World) (q : List Int × ByteArray × Int) (r : Ending) (w' : World) : Prop :=
  ∃ v, r = .returned v ∧ PB w' b q.2.1 q.2.2 true ∧ w.grownBy w' (some b) ∧ w'.ownsRow w.heap.size 3 1 v q.1.length (i64s q.1)

set_option maxRecDepth 100000 in
set_option maxHeartbeats 1000000 in
theorem live_list (b n : Nat) (most : Int) (s t : ByteArray) (w : World) (hs : s.size ≤ 100000) (hn : n ≤ 9223372036854775807) (hm : most ≤ 9223372036854775807) (hc : fCount most s = ((n : Int), t, 0)) (h : PB w b s 0 true) :
    Calls Try.prog 48 #[.int .i64 most, mv 33 (pt b), mv 26 (pt b), mv 32 (pt b)] w (OutL b w (gInts n t)) := by
  obtain ⟨i0, hi, hz0, hz1, hz2⟩ := info_parts info_int
  have L := Lib.hid (live_count b most s w hs h)
  have T := fCount_size most s hs
  rw [hc] at L T
  have ET := Lib.hid (gInts_eta n t)
  have hbl := h.lt
  clear hc h
  have hts : t.size ≤ 100000 := by simp only at T; omega
  clear T
  go_enter Try.func48, Try.ntmps48
  go_wp2_with fail
  refine L.out.mono ?_
  rintro r w1 ⟨rfl, hp, hg⟩
  have HP := Lib.hid hp
  have HG := Lib.hid hg
  have N := World.ownsRow_nil w1 w.heap.size 3 1
  clear hp hg
  go_wp2_with fail
  go_loopw [9, 10, 14] (fun v _ i wr => ∃ (k : Nat) (ys : List Int) (u : ByteArray), k ≤ n ∧ i = .int .i64 k ∧ ys.length = k ∧ gInts n t = ahead ys (gInts (n - k) u) ∧ ys.length + u.size ≤ 100000 ∧ PB wr b u 0 true ∧ w.grownBy wr (some b) ∧ wr.ownsRow w.heap.size 3 1 v ys.length (i64s ys)) (fun _ _ i _ => n - (intOf i).toNat)
  case atStart => exact ⟨0, [], t, Nat.zero_le _, rfl, rfl, ET.out, by simpa using hts, HP.out, HG.out, N⟩
  case round =>
    obtain ⟨k, ys, u, hk, rfl, hy, hgi, hu, hp, hg, hown⟩ := hrel
    have HP2 := Lib.hid hp
    have HG2 := Lib.hid hg
    have HI := Lib.hid hgi
    have HO := Lib.hid hown
    have hsz := hg.size
    have HL := Lib.hid (fun g (hk : u9.ownBlock = some g) => (hown.lt g hk).1)
    clear hp hg hgi hown N
    subst hy
    by_cases hlt : ys.length < n
    · obtain ⟨j, hj⟩ : ∃ j, n - ys.length = j + 1 := ⟨n - ys.length - 1, by omega⟩
      have I := Lib.hid (live_int b u wr (by omega) HP2.out)
      have Z := Lib.hid (fInt_less u (by omega))
      have BAD := Lib.hid (ahead_bad ys j u)
      have GOOD := Lib.hid (ahead_good ys j u)
      have HJ := Lib.hid hj
      have hj2 : n - (ys.length + 1) = j := by omega
      have HJ2 := Lib.hid hj2
      clear hj hj2
      obtain ⟨v, u', e, hr⟩ : ∃ v u' e, fInt u = (v, u', e) := ⟨_, _, _, rfl⟩
      rw [hr] at I Z BAD GOOD
      clear hr
      go_wp2_with fail
      refine I.out.mono ?_
      rintro r w2 ⟨rfl, hp, hg⟩
      have HP3 := Lib.hid hp
      have HG3 := Lib.hid hg
      have hsz3 := hg.size
      have hown3 := HO.out.kept hg (by
        rcases hob : u9.ownBlock with _ | g
        · exact Or.inl rfl
        · right; have := HL.out g hob; intro he; have := Option.some.inj he; omega)
      clear hp hg
      go_wp2_with fail
      refine (err_live b u' e w2 HP3.out).mono ?_
      rintro r w2' ⟨rfl, rfl⟩
      by_cases he : e = 0
      · subst he
        have hu' : u'.size + 1 ≤ u.size := Z.out rfl
        go_wp2_with (at_builtin; refine wpList_append_own _ rfl (.tmp 21) (.tmp 23) 22 rfl w.heap.size 3 i0 (.int .i64 0) 1 8 Try.underlying22 hi hz0 hz1 hz2 rfl (by decide) _ _ _ rfl (hown3.alloc _) ⟨w2.heap.size, 0, none⟩ 1 1 [.int .i64 v] rfl rfl (one_cell _ _ _) ?c2 ?c3 ?c4 ?c5 ?_)
        case c2 => intro u hu; simp at hu; subst hu; rfl
        case c3 => unfold maxLen; omega
        case c4 => omega
        case c5 => simp; omega
        intro v' w3 hown' hgrow _
        have R := Lib.hid hown'
        have HG4 := Lib.hid hgrow
        clear hown' hown3 hgrow
        go_wp2_with fail
        go_roundw
        case rel =>
          refine ⟨ys.length + 1, ys ++ [v], u', by omega, by go_num, isnoc_len _ _, by rw [HI.out, HJ.out, HJ2.out]; exact GOOD.out trivial, by rw [isnoc_len]; omega, ?_, ?_, ?_⟩
          · exact (PB.kept (HP3.out.kept (World.grownBy_alloc w2 _ none) (by simp)) HG4.out (by intro he; have := HL.out b he.symm; omega))
          · exact gb_row (gb_alloc (gb_trans HG2.out HG3.out) _) HG4.out HL.out
          · rw [← i64s_snoc, isnoc_len]; exact R.out
        case measure => simp [intOf]; omega
      · have hne : (e != 0) = true := by simpa using he
        go_wp2_with fail
        go_ret
        refine ⟨_, rfl, ?_, gb_trans HG2.out HG3.out, ?_⟩
        · rw [HI.out, HJ.out, BAD.out he]; exact HP3.out
        · rw [HI.out, HJ.out, BAD.out he]; exact World.ownsRow_nil _ _ _ _
    · have hk2 : n - ys.length = 0 := by omega
      have HK := Lib.hid hk2
      clear hk2
      go_wp2_with fail
      go_ret
      refine ⟨_, rfl, ?_, HG2.out, ?_⟩
      · rw [HI.out, HK.out, ahead_done]; exact HP2.out
      · rw [HI.out, HK.out, ahead_done]; exact HO.out

theorem live_list_bad (b : Nat) (e most : Int) (s t : ByteArray) (w : World) (hs : s.size ≤ 100000) (hc : fCount most s = (0, t, e)) (h : PB w b s 0 true) :
    Calls Try.prog 48 #[.int .i64 most, mv 33 (pt b), mv 26 (pt b), mv 32 (pt b)] w fun r w' => r = .returned (.slice none 0 0) ∧ PB w' b t e true ∧ w.grownBy w' (some b) := by
  have L := Lib.hid (live_count b most s w hs h)
  rw [hc] at L
  clear hc h
  go_enter Try.func48, Try.ntmps48
  go_wp2_with fail
  refine L.out.mono ?_
  rintro r w1 ⟨rfl, hp, hg⟩
  have HP := Lib.hid hp
  have HG := Lib.hid hg
  clear hp hg
  go_wp2_with fail
  refine wp_loop_rounds 1 ?_
  rw [rounds_succ]
  go_wp2_with fail
  go_ret
  exact ⟨rfl, HP.out, HG.out⟩
theorem live_ints (b : Nat) (most : Int) (s : ByteArray) (w : World) (hs : s.size ≤ 100000) (hm : most ≤ 9223372036854775807) (h : PB w b s 0 true) :
    Calls Try.prog 30 #[pt b, .int .i64 most] w (OutL b w (fInts most s)) := by
  have H := Lib.hid h
  have B := Lib.hid (fCount_bd most s hm)
  have V := Lib.hid (fCount_e most s hs)
  have F := Lib.hid (show fInts most s = if (fCount most s).2.2 ≠ 0 then ([], (fCount most s).2.1, (fCount most s).2.2) else gInts (fCount most s).1.toNat (fCount most s).2.1 from rfl)
  have LL := Lib.hid (fun n t => live_list b n most s t w hs)
  have LB := Lib.hid (fun e t => live_list_bad b e most s t w hs)
  clear h
  rcases hr : fCount most s with ⟨v, t, e⟩
  rw [hr] at B V F
  have HR := Lib.hid hr
  clear hr
  by_cases he : e = 0
  · subst he
    obtain ⟨n, rfl⟩ := Int.eq_ofNat_of_zero_le B.out.1
    have hn : n ≤ 9223372036854775807 := by have := B.out.2; simp only at this; omega
    have E := Lib.hid (show fInts most s = gInts n t by rw [F.out]; simp)
    have G := Lib.hid (LL.out n t hn hm HR.out H.out)
    go_enter Try.func30, Try.ntmps30
    go_wp2_with fail
    refine G.out.mono ?_
    rintro r w1 ⟨v, rfl, hp, hg, hown⟩
    have HP := Lib.hid hp
    have HG := Lib.hid hg
    have HO := Lib.hid hown
    clear hp hg hown
    go_wp2_with fail
    go_ret
    refine ⟨_, rfl, ?_, HG.out, ?_⟩
    · rw [E.out]; exact HP.out
    · rw [E.out]; exact HO.out
  · obtain rfl : v = 0 := V.out he
    have E := Lib.hid (show fInts most s = ([], t, e) by rw [F.out]; simp [he])
    have G := Lib.hid (LB.out e t HR.out H.out)
    go_enter Try.func30, Try.ntmps30
    go_wp2_with fail
    refine G.out.mono ?_
    rintro r w1 ⟨rfl, hp, hg⟩
    have HP := Lib.hid hp
    have HG := Lib.hid hg
    clear hp hg
    go_wp2_with fail
    go_ret
    refine ⟨_, rfl, ?_, HG.out, ?_⟩
    · rw [E.out]; exact HP.out
    · rw [E.out]; exact World.ownsRow_nil _ _ _ _
end Go.Proofs.Ytfpkpgfdmidjfaa
