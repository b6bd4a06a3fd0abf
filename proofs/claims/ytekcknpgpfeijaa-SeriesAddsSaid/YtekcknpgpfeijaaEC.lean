/- The contract of slotwise: for every function value that computes one number for each slot. -/
import Derived.Test.YtekcknpgpfeijaaEB
set_option linter.unusedVariables false
namespace Go.Proofs.Ytekcknpgpfeijaa.Series
open Go.RowKit

theorem gr_refl (w : World) (r : Option Nat) : w.grownBy w r := ⟨rfl, rfl, rfl, Nat.le_refl _, fun _ _ _ => rfl⟩
theorem gr_trans {a b c : World} {r : Option Nat} (h : a.grownBy b r) (k : b.grownBy c r) : a.grownBy c r :=
  ⟨k.os.trans h.os, k.tape.trans h.tape, k.output.trans h.output, Nat.le_trans h.size k.size, fun i hi hr => (k.block i (Nat.lt_of_lt_of_le hi h.size) hr).trans (h.block i hi hr)⟩
theorem gr_of {a b : World} (r : Option Nat) (h : Below a.heap.size a b) : a.grownBy b r := gb_below h
theorem gr_set {a b : World} {r : Option Nat} (h : a.grownBy b r) {x : Addr} (hx : a.heap.size ≤ x.block) (v : Value) : a.grownBy (b.setCell x v) r :=
  ⟨h.os, h.tape, h.output, by rw [World.size_setCell]; exact h.size, fun i hi hr => (Below.heap_setCell b x v i (by omega)).trans (h.block i hi hr)⟩
theorem gr_none {a b : World} (h : a.grownBy b none) : Below a.heap.size a b := ⟨h.os, h.tape, h.output, h.size, fun k hk => h.block k hk (by simp)⟩
theorem gr_cell {a b : World} {r : Option Nat} (h : a.grownBy b r) {x : Addr} (hx : x.block < a.heap.size) (hr : some x.block ≠ r) : b.cell? x = a.cell? x := World.cell?_of_block (w := a) (h.block _ hx hr)
theorem RowN.gr {w wr : World} {g n : Nat} {f : Nat → Int} {r : Option Nat} (h : RowN w g n f) (hg : w.grownBy wr r) (hr : some g ≠ r) : RowN wr g n f := World.rowIs.of_block h (hg.block g (World.rowIs.lt h) hr)

/-- A list that is handed to slotwise. -/
structure Ent where
  A : Option Addr
  c : Nat
  l : List Int
def ent0 : Ent := ⟨none, 0, []⟩
/-- The element of list j at slot k. -/
def el (ls : List Ent) (k j : Nat) : Int := atL (rd (ls.getD j ent0).l) k
/-- Block b holds these lists; the blocks below B. -/
structure LsAt (w : World) (B b : Nat) (ls : List Ent) : Prop where
  lt : b < w.heap.size
  le : B ≤ w.heap.size
  cell : ∀ j (hj : j < ls.length), w.cell? ⟨b, j, none⟩ = some (.slice ls[j].A ls[j].l.length ls[j].c)
  nums : ∀ j (hj : j < ls.length), NsAt w B ls[j].A ls[j].l ∧ ls[j].l.length ≤ 9223372036854775807
theorem LsAt.gr {w wr : World} {B b : Nat} {ls : List Ent} {r : Option Nat} (h : LsAt w B b ls) (hg : w.grownBy wr r) (hb : some b ≠ r) (hB : ∀ n, r = some n → B ≤ n) : LsAt wr B b ls where
  lt := Nat.lt_of_lt_of_le h.lt hg.size
  le := Nat.le_trans h.le hg.size
  cell j hj := (gr_cell hg h.lt hb).trans (h.cell j hj)
  nums j hj := ⟨(h.nums j hj).1.below ⟨hg.os, hg.tape, hg.output, hg.size, fun k hk => hg.block k (Nat.lt_of_lt_of_le hk h.le) (fun e => by have := hB k e.symm; omega)⟩, (h.nums j hj).2⟩
def mxN (ls : List Ent) : Nat → Nat
  | 0 => 0
  | k + 1 => max (mxN ls k) (ln (ls.getD k ent0).l)
theorem mxN_le (ls : List Ent) (k : Nat) : mxN ls k ≤ 96 := by
  induction k with
  | zero => simp [mxN]
  | succ k ih => have := (ln_le (ls.getD k ent0).l).1; unfold mxN; omega
theorem getD_at (ls : List Ent) (j : Nat) (hj : j < ls.length) : ls.getD j ent0 = ls[j] := by simp [List.getD, hj]

/-- What slotwise leaves. -/
def OutS (w : World) (r : Option Nat) (n : Nat) (out : Nat → Int) (J : Nat → World → Prop) (e : Ending) (w' : World) : Prop :=
  ∃ g, e = .returned (.slice (some ⟨g, 0, none⟩) n n) ∧ w.heap.size ≤ g ∧ RowN w' g n out ∧ J n w' ∧ w.grownBy w' r

/-- Within slotwise: the rows elements and numbers. -/
structure SwN (w : World) (r : Option Nat) (ne n : Nat) (E O : Nat → Int) (wr : World) : Prop where
  gr : w.grownBy wr r
  el : RowN wr w.heap.size ne E
  nu : RowN wr (w.heap.size + 1) n O
namespace SwN
variable {w wr wt : World} {r : Option Nat} {ne n : Nat} {E O : Nat → Int}
theorem next (h : SwN w r ne n E O wr) (hg : wr.grownBy wt r) (hr : ∀ b, r = some b → b < w.heap.size) : SwN w r ne n E O wt :=
  ⟨gr_trans h.gr hg, h.el.gr hg (fun e => by have := hr _ e.symm; omega), h.nu.gr hg (fun e => by have := hr _ e.symm; omega)⟩
theorem putE (h : SwN w r ne n E O wr) (k : Nat) (x : Int) : SwN w r ne n (fun i => if i = k then x else E i) O (wr.setCell ⟨w.heap.size, k, none⟩ (.int .i64 x)) :=
  ⟨gr_set h.gr (Nat.le_refl _) _, h.el.put k x, h.nu.setOther (by show w.heap.size + 1 ≠ w.heap.size; omega) _⟩
theorem putO (h : SwN w r ne n E O wr) (k : Nat) (x : Int) : SwN w r ne n E (fun i => if i = k then x else O i) (wr.setCell ⟨w.heap.size + 1, k, none⟩ (.int .i64 x)) :=
  ⟨gr_set h.gr (by simp) _, h.el.setOther (by show w.heap.size ≠ w.heap.size + 1; omega) _, h.nu.put k x⟩
theorem same {E' O' : Nat → Int} (h : SwN w r ne n E O wr) (he : ∀ i, i < ne → E i = E' i) (ho : ∀ i, i < n → O i = O' i) : SwN w r ne n E' O' wr := ⟨h.gr, h.el.same he, h.nu.same ho⟩
end SwN

set_option maxRecDepth 100000 in
set_option maxHeartbeats 4000000 in
theorem slotwise_any (w : World) (r : Option Nat) (B b c2 : Nat) (g : FuncId) (caps : Array Value) (ls : List Ent) (out : Nat → Int) (J : Nat → World → Prop) (hls : ls.length ≤ 1000)
    (eg : ∀ args w, (callFunc g args).run Try.prog w = .ok (.enter g args) w)
    (hJ : ∀ k wr w', J k wr → (∀ i, i < w.heap.size → w'.heap[i]? = wr.heap[i]?) → J k w')
    (hg : ∀ k wr, k < mxN ls ls.length → J k wr → RowN wr w.heap.size ls.length (el ls k) → Calls Try.prog g (#[.slice (some ⟨w.heap.size, 0, none⟩) ls.length ls.length] ++ caps) wr (fun e w' => e = .returned (.int .i64 (out k)) ∧ J (k + 1) w' ∧ wr.grownBy w' r))
    (h0 : J 0 w) (hL : LsAt w B b ls) (hr : ∀ n, r = some n → n < w.heap.size) (hb : some b ≠ r) (hB : ∀ n, r = some n → B ≤ n) :
    Calls Try.prog 36 #[.func (.func g) #[] caps, .slice (some ⟨b, 0, none⟩) ls.length c2] w (OutS w r (mxN ls ls.length) out J) := by
  have HL := Lib.hid hL
  have HLG := Lib.hid (fun wr (h : w.grownBy wr r) => hL.gr h hb hB)
  have HG := Lib.hid hg
  have HJ := Lib.hid hJ
  have H0 := Lib.hid h0
  have HR := Lib.hid hr
  have EG := Lib.hid eg
  have MX := mxN_le ls ls.length
  clear hg hJ h0 hr hb hB eg hL
  go_enter Try.func36, Try.ntmps36
  go_wp2_with fail
  go_loop [5, 15] (fun s i => ∃ k : Nat, i = .int .i64 (k : Int) ∧ s = .int .i64 (mxN ls k : Int) ∧ k ≤ ls.length) (fun _ i => ls.length - (intOf i).toNat)
  case atStart => exact ⟨0, rfl, rfl, Nat.zero_le _⟩
  case round =>
    obtain ⟨k, rfl, rfl, hk⟩ := hrel
    by_cases hlt : k < ls.length
    · have hc := HL.out.cell k hlt
      have M := Lib.hid (show mxN ls (k + 1) = max (mxN ls k) (ln ls[k].l) by rw [← getD_at ls k hlt]; rfl)
      have LN := Lib.hid (fun w => len_any ls[k].A ls[k].c ls[k].l w (HL.out.nums k hlt).2)
      generalize ls[k].A = A1 at *
      generalize ls[k].c = c1 at *
      generalize ls[k].l = l1 at *
      go_wp2_with fail
      refine (LN.out _).mono ?_
      rintro e w1 ⟨rfl, rfl⟩
      go_wp2_with fail
      all_goals go_round
      case rel => exact ⟨k + 1, by go_num, val_int (by have := M.out; omega), hlt⟩
      case measure => simp [intOf]; omega
    · obtain rfl : k = ls.length := by omega
      obtain ⟨w1, hm1, R1, hw1⟩ := make_nums w ls.length (by omega)
      generalize mxN ls ls.length = n at *
      obtain ⟨w2, hm2, R2, hw2⟩ := make_nums w1 n (by omega)
      have z1 : w1.heap.size = w.heap.size + 1 := by rw [hw1]; simp
      rw [z1] at hm2 R2
      have S2 : SwN w r ls.length n (fun _ => 0) (fun _ => 0) w2 := by
        refine ⟨?_, ?_, R2⟩
        · rw [hw2, hw1]; exact gr_trans (World.grownBy_alloc _ _ _) (World.grownBy_alloc _ _ _)
        · rw [hw2]; exact R1.alloc _
      have J2 := Lib.hid (HJ.out 0 w w2 H0.out (fun i hi => by
        rw [hw2, hw1]
        exact (Below.heap_alloc _ _ i (by simp; omega)).trans (Below.heap_alloc _ _ i hi)))
      have SS := Lib.hid S2
      clear hw1 hw2 R1 R2 S2 z1
      go_wp2_with fail
      go_loopw [31] (fun i wr => ∃ (k : Nat) (E : Nat → Int), i = .int .i64 (k : Int) ∧ k ≤ n ∧ SwN w r ls.length n E (fun i => if i < k then out i else 0) wr ∧ J k wr) (fun i _ => n - (intOf i).toNat)
      case atStart => exact ⟨0, _, rfl, Nat.zero_le _, SS.out.same (fun _ _ => rfl) (fun i _ => by simp), J2.out⟩
      case round =>
        obtain ⟨k, E, rfl, hk, hS, hJk⟩ := hrel
        have S := Lib.hid hS
        have JK := Lib.hid hJk
        clear hS hJk
        by_cases hlt : k < n
        · have dk := dt (show (k : Int) < (n : Int) by omega)
          go_wp2_with fail
          go_loopw [36] (fun i wr => ∃ j : Nat, i = .int .i64 (j : Int) ∧ j ≤ ls.length ∧ SwN w r ls.length n (fun i => if i < j then el ls k i else E i) (fun i => if i < k then out i else 0) wr ∧ J k wr) (fun i _ => ls.length - (intOf i).toNat)
          case atStart => exact ⟨0, rfl, Nat.zero_le _, S.out.same (fun i _ => by simp) (fun _ _ => rfl), JK.out⟩
          case round =>
            obtain ⟨j, rfl, hj, hS, hJj⟩ := hrel
            have S := Lib.hid hS
            have JJ := Lib.hid hJj
            have fe := hS.el.frozen j
            have fn := hS.nu.frozen k
            have LS := Lib.hid (HLG.out _ hS.gr)
            clear hS hJj
            by_cases hjl : j < ls.length
            · have hc := LS.out.cell j hjl
              have AT := Lib.hid (fun i => at_any ls[j].A ls[j].c ls[j].l i wr (LS.out.nums j hjl).2 ((LS.out.nums j hjl).1.mono LS.out.le))
              have EL := Lib.hid (show el ls k j = atL (rd ls[j].l) k by unfold el; rw [getD_at ls j hjl])
              have ce := S.out.el.cell hjl
              have SP := Lib.hid (S.out.putE j (el ls k j))
              have JP := Lib.hid (HJ.out k wr (wr.setCell ⟨w.heap.size, j, none⟩ (.int .i64 (el ls k j))) JJ.out (fun i hi => Below.heap_setCell wr _ _ i (by show i ≠ w.heap.size; omega)))
              rw [EL.out] at SP JP
              generalize ls[j].A = A1 at *
              generalize ls[j].c = c1 at *
              generalize ls[j].l = l1 at *
              go_wp2_with fail
              refine (AT.out _).mono ?_
              rintro e w3 ⟨rfl, rfl⟩
              go_wp2_with fail
              go_roundw
              case rel => exact ⟨j + 1, by go_num, hjl, SP.out.same (fun i hi => by
                show (if i = j then _ else if i < j then _ else _) = if i < j + 1 then _ else _
                by_cases e1 : i = j
                · subst e1; rw [if_pos rfl, if_pos (by omega), EL.out]
                · rw [if_neg e1]
                  by_cases e2 : i < j
                  · rw [if_pos e2, if_pos (by omega)]
                  · rw [if_neg e2, if_neg (by omega)]) (fun _ _ => rfl), JP.out⟩
              case measure => simp [intOf]; omega
            · obtain rfl : j = ls.length := by omega
              have ROW := Lib.hid (S.out.el.same (f' := el ls k) (fun i hi => if_pos hi))
              have eg := EG.out
              clear fe fn
              go_wp2_with fail
              refine (HG.out k _ hlt JJ.out ROW.out).mono ?_
              rintro e w3 ⟨rfl, hj3, hg3⟩
              have S3 := Lib.hid (S.out.next hg3 HR.out)
              have fn := S3.out.nu.frozen k
              have cn := S3.out.nu.cell hlt
              have SP := Lib.hid (S3.out.putO k (out k))
              have JP := Lib.hid (HJ.out (k + 1) w3 (w3.setCell ⟨w.heap.size + 1, k, none⟩ (.int .i64 (out k))) hj3 (fun i hi => Below.heap_setCell w3 _ _ i (by show i ≠ w.heap.size + 1; omega)))
              clear hj3 hg3 eg
              go_wp2_with fail
              go_roundw
              case rel => exact ⟨k + 1, _, by go_num, hlt, SP.out.same (fun _ _ => rfl) (fun i hi => by
                show (if i = k then _ else if i < k then _ else _) = if i < k + 1 then _ else _
                by_cases e1 : i = k
                · subst e1; rw [if_pos rfl, if_pos (by omega)]
                · rw [if_neg e1]
                  by_cases e2 : i < k
                  · rw [if_pos e2, if_pos (by omega)]
                  · rw [if_neg e2, if_neg (by omega)]), JP.out⟩
              case measure => simp [intOf]; omega
        · obtain rfl : k = n := by omega
          go_wp2_with fail
          go_ret
          exact ⟨_, rfl, by omega, S.out.nu.same (fun i hi => if_pos hi), JK.out, S.out.gr⟩
end Go.Proofs.Ytekcknpgpfeijaa.Series
