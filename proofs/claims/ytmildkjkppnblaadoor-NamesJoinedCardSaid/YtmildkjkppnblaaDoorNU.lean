/- Contracts of appendHexEscapes and Quote of names. -/
import Derived.Test.YtmildkjkppnblaaDoorNF
import Derived.Lib.RuneCountTail
import Derived.Shelf.Unicode.DecodeAny
import Derived.Deep.RegionHeld3
import Derived.Deep.AppendLies
set_option linter.unusedVariables false
namespace Go.Proofs.YtmildkjkppnblaaDoor
open Go.RowKit

/-- The escape of a byte by two digits. -/
def hx2 (c : UInt8) : List UInt8 := [92, 120, hx (c.toNat / 16), hx (c.toNat % 16)]
def hxs (l : List UInt8) : List UInt8 := l.flatMap hx2
theorem hxs_cons (c : UInt8) (l : List UInt8) : hxs (c :: l) = hx2 c ++ hxs l := rfl
theorem hxs_length (l : List UInt8) : (hxs l).length = 4 * l.length := by
  induction l with
  | nil => rfl
  | cons c l ih => rw [hxs_cons, List.length_append, ih, List.length_cons]; show 4 + _ = _; omega
theorem hxs_qb (l : List UInt8) (h : ∀ c ∈ l, 128 ≤ c.toNat) : hxs l = qb l := by
  induction l with
  | nil => rfl
  | cons c l ih =>
    have hc := h c List.mem_cons_self
    rw [hxs_cons, qb_cons, ih (fun d hd => h d (List.mem_cons_of_mem _ hd)), fm_hex c (by omega) (by omega)]; rfl
theorem u8_and15 (c : Nat) (h : c < 256) : bits .and .u8 (c : Int) 15 = ((c % 16 : Nat) : Int) := by
  have e := u8_and_nat c 15 h (by omega)
  have e2 := Nat.and_two_pow_sub_one_eq_mod c 4
  simp only [show 2 ^ 4 - 1 = 15 from rfl, show 2 ^ 4 = 16 from rfl] at e2
  rw [e2] at e; exact e

/-- Each iterator of a string stands as it stood. -/
def Iters (w w' : World) : Prop := ∀ (k : Nat) (s : ByteArray) (p : Nat), w.heap[k]? = some (Obj.stringIter s p) → w'.heap[k]? = some (Obj.stringIter s p)
theorem Iters.refl (w : World) : Iters w w := fun _ _ _ h => h
theorem Iters.trans {a b c : World} (h1 : Iters a b) (h2 : Iters b c) : Iters a c := fun k s p h => h2 k s p (h1 k s p h)
theorem Iters.of_below {w w' : World} (h : Below w.heap.size w w') : Iters w w' := fun k s p hk => by
  rw [h.block k (Array.getElem?_eq_some_iff.1 hk).1]; exact hk
theorem iters_app {w w3 : World} {B n : Nat} {v : Value} {e : TypeId} {xs : List Value} {o : Obj} (ho : w.ownsRow B e 1 v n xs) (hg : (w.alloc o).grownBy w3 v.ownBlock) : Iters w w3 := fun k s p hk => by
  have hlt := (Array.getElem?_eq_some_iff.1 hk).1
  rw [hg.block k (by simp; omega) (fun e1 => ?_), Below.heap_alloc _ _ _ hlt]
  · exact hk
  · rcases ho.2 with ⟨rfl, _⟩ | ⟨g, cap, cur, rfl, _, hh, _⟩
    · cases e1
    · have : k = g := Option.some.inj e1
      rw [this, hh] at hk
      cases hk
theorem iters_app_drew {w w3 : World} {B n : Nat} {v : Value} {e : TypeId} {xs : List Value} {o : Obj} (ho : w.ownsRow B e 1 v n xs) (hg : (w.alloc o).drew.grownBy w3 v.ownBlock) : Iters w w3 :=
  iters_app ho (show (w.alloc o).grownBy w3 v.ownBlock from ⟨hg.os, hg.tape, hg.output, hg.size, hg.block⟩)

/-- A row of the call's own, in the memory above B, is handed back; iterators stand. -/
def OutRow (B : Nat) (w : World) (l : List UInt8) (e : Ending) (w' : World) : Prop :=
  ∃ v, e = .returned v ∧ OwnB w' B v l ∧ Below B w w' ∧ Iters w w' ∧ w.heap.size ≤ w'.heap.size

set_option maxRecDepth 100000 in
set_option maxHeartbeats 2000000 in
theorem hex_rows (B : Nat) (v : Value) (xs : List UInt8) (s : ByteArray) (w : World) (hown : OwnB w B v xs) (hB : B ≤ w.heap.size) (hx1 : xs.length ≤ 1000000) (hs : s.size ≤ 100000) :
    Calls Tryd.prog 15 #[v, .string s] w (OutRow B w (xs ++ hxs s.data.toList)) := by
  obtain ⟨i0, hi, hz0, hz1, hz2⟩ := info_parts info_u8
  have HO := Lib.hid hown
  clear hown
  go_enter Tryd.func15, Tryd.ntmps15
  go_wp2_with fail
  go_loopw [0, 10] (fun v i wr => ∃ (k : Nat) (acc : List UInt8), i = .int .i64 k ∧ k ≤ s.size ∧ acc.length ≤ xs.length + 4 * k ∧ xs ++ hxs s.data.toList = acc ++ hxs (s.data.toList.drop k) ∧ OwnB wr B v acc ∧ Below B w wr ∧ Iters w wr ∧ w.heap.size ≤ wr.heap.size) (fun _ i _ => s.size - (intOf i).toNat)
  case atStart => exact ⟨0, xs, rfl, Nat.zero_le _, by omega, rfl, HO.out, Below.refl _ _, Iters.refl _, Nat.le_refl _⟩
  case round =>
    obtain ⟨k, acc, rfl, hk, hla, hac, hown, hb, hit, hsz⟩ := hrel
    have O := Lib.hid hown
    have BB := Lib.hid hb
    have IT := Lib.hid hit
    by_cases hlt : k < s.size
    · have hc := (s[k]).toNat_lt
      rw [at_drop s k hlt, hxs_cons, ← List.append_assoc] at hac
      have AC := Lib.hid hac
      have HL := Lib.hid (fun k (hk : u0.ownBlock = some k) => (hown.lt k hk).1)
      obtain ⟨a, ha⟩ : ∃ a, s[k].toNat / 16 = a := ⟨_, rfl⟩
      obtain ⟨b, hbq⟩ : ∃ b, s[k].toNat % 16 = b := ⟨_, rfl⟩
      have ha16 : a < 16 := by omega
      have hb16 : b < 16 := by omega
      have E := Lib.hid (show hx2 s[k] = [92, 120, hx a, hx b] by unfold hx2; rw [ha, hbq])
      have q1 : ((s[k].toNat : Int) / 16) = (a : Int) := by omega
      have q2 : bits .and .u8 (s[k].toNat : Int) 15 = (b : Int) := by rw [u8_and15 _ (by omega), hbq]
      have D1 : ∀ h, ({ data := #[48, 49, 50, 51, 52, 53, 54, 55, 56, 57, 97, 98, 99, 100, 101, 102] } : ByteArray)[a]'h = hx a := fun h => dig_at ⟨a, h⟩
      have D2 : ∀ h, ({ data := #[48, 49, 50, 51, 52, 53, 54, 55, 56, 57, 97, 98, 99, 100, 101, 102] } : ByteArray)[b]'h = hx b := fun h => dig_at ⟨b, h⟩
      have i1 : (k : Int) < (s.size : Int) := by omega
      have i2 : (0 : Int) ≤ (k : Int) := by omega
      generalize hx a = x1 at *
      generalize hx b = x2 at *
      clear hac hown hb hit ha hbq
      go_wp2_with fail
      go_quiet (fail)
      have O2 := Lib.hid (show OwnB (wr.drewN nq) B u0 acc from O.out)
      have B2 := Lib.hid (show Below B w (wr.drewN nq) from BB.out.trans ((below_drewN wr nq).mono (by omega)))
      have I2 := Lib.hid (show Iters w (wr.drewN nq) from IT.out.trans (Iters.of_below (below_drewN wr nq)))
      have hzw : w.heap.size ≤ (wr.drewN nq).heap.size := hsz
      generalize wr.drewN nq = W2 at *
      have hBW : B ≤ W2.heap.size := by omega
      go_wp2_with fail
      have d1 : (0 : Int) ≤ (a : Int) := by omega
      have d2 : (a : Int) < 16 := by omega
      have d3 : (0 : Int) ≤ (b : Int) := by omega
      have d4 : (b : Int) < 16 := by omega
      go_region_held3 (fun _ => True) (trivial) ((refine step_append_lies _ (by rfl) (.tmp 21) (.tmp 26) 33 (by rfl) B 5 i0 (.int .u8 0) 1 1 Tryd.underlying33 hi hz0 hz1 hz2 rfl (by omega) u0 acc.length (u8s acc) (by rfl) ((O2.out.alloc _).drew) ⟨W2.heap.size, 0, none⟩ 4 4 [.int .u8 92, .int .u8 120, .int .u8 (x1.toNat : Int), .int .u8 (x2.toNat : Int)] (by rfl) (by rfl) (World.news_of_block (cs := #[.int .u8 92, .int .u8 120, .int .u8 (x1.toNat : Int), .int .u8 (x2.toNat : Int)]) (t := 5) (fr := (0, 0)) (heap_alloc_new W2 _)) (by simp [Value.oneCell']) (by omega) (by unfold maxLen; omega) (by omega) (by simp; omega) (W2.heap.size + 1) (by simp) ?_; intro gg cap w3 hown' hgrow hat hlt3))
      all_goals
        have R3 := Lib.hid (show OwnB w3 B (.slice (some ⟨gg, 0, none⟩) (acc.length + 4) cap) (acc ++ [92, 120, x1, x2]) from ownB_app (news := [92, 120, x1, x2]) hown')
        have B3 := Lib.hid (((B2.out.alloc hBW _).drew).grown hgrow (by simp; omega) HL.out)
        have I3 := Lib.hid (I2.out.trans (iters_app_drew O2.out hgrow))
        have hz3 : w.heap.size ≤ w3.heap.size := by have := hgrow.size; simp at this; omega
        clear hown' hgrow hat hlt3
        go_wp2_with fail
        go_roundw
        case rel => exact ⟨k + 1, acc ++ [92, 120, x1, x2], by go_num, hlt, by simp; omega, by rw [AC.out, E.out], R3.out, B3.out, I3.out, hz3⟩
        case measure => simp [intOf]; omega
    · have AC := Lib.hid (show xs ++ hxs s.data.toList = acc by rw [hac, at_end s k (by omega)]; show acc ++ [] = acc; rw [List.append_nil])
      clear hac hown hb hit
      go_wp2_with fail
      go_ret
      exact ⟨_, rfl, by rw [AC.out]; exact O.out, BB.out, IT.out, hsz⟩
end Go.Proofs.YtmildkjkppnblaaDoor
