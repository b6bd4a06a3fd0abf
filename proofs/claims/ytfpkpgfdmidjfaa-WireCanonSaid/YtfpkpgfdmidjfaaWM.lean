/- Arguments opened: slices of numbers, of calls and of fields; the last step of a law's row. -/
import Derived.Test.YtfpkpgfdmidjfaaRows
import Derived.Test.YtfpkpgfdmidjfaaWA
import Derived.WalkKit
import Derived.ProofKit
import Derived.OpenShut
import Derived.Carry
import Derived.Deep.Slices
import Derived.Deep.Fields
set_option linter.unusedVariables false
namespace Go.Proofs.Ytfpkpgfdmidjfaa
open Go.RowKit Go.ChangeShapes Go.WideShapes

theorem laidAll : laidOutB Try.prog = true := by kernel_rfl

section
variable {H : Type} {enc : TypeId × Value → H}

theorem plain_of {w : World} {a : Addr} {v : Value} (h : w.cell? a = some v) : ∃ b o, a = ⟨b, o, none⟩ := by
  obtain ⟨b, o, s⟩ := a
  have : s = none := World.cell?_spot h
  subst this
  exact ⟨b, o, rfl⟩
theorem add_off (b o n : Nat) : ({ block := b, off := o, spot := none : Addr }).add n = ⟨b, o + n, none⟩ := by
  unfold Addr.add; split <;> simp_all
theorem add_none (a : Addr) : a.add 0 = a := by unfold Addr.add; simp

theorem ints_at {W : World} {fuel : Nat} {sp : Nat → Bool} {hd : Bool} {A : Option Addr} {n c : Nat} {x : DataW H × List MemPlace} (hf : DataW.trod enc Try.prog W 0 sp hd fuel 22 [.slice A n c] = some x) :
    ∃ l, n = List.length l ∧ IntsAt W W.heap.size A l ∧ (∀ m ∈ l, I64 m) ∧ l.length ≤ 9223372036854775807 := by
  rcases open_ints Try.underlying22 Try.underlying3 (by kernel_rfl) hf with ⟨hcs, hx⟩ | ⟨a, len, cap, zs, hcs, _, hl, hm, hz, hx, hcell, hwz⟩
  · simp at hcs
    obtain ⟨rfl, rfl, rfl⟩ := hcs
    exact ⟨[], rfl, fun h => absurd h (by simp), fun _ h => absurd h List.not_mem_nil, Nat.zero_le _⟩
  · simp at hcs
    obtain ⟨rfl, rfl, rfl⟩ := hcs
    have hle : n ≤ zs.length := by rw [hz]; split <;> omega
    refine ⟨zs.take n, by simp; omega, fun h0 => ?_, fun m hm2 => ?_, by unfold maxLen at hm; simp; omega⟩
    · have hn : 0 < n := by simp at h0; omega
      have h00 := hcell 0 (by omega)
      rw [add_none] at h00
      obtain ⟨b, o', rfl⟩ := plain_of h00
      refine ⟨b, o', rfl, World.block_lt_of_cell? W _ h00, fun i hi => ?_⟩
      have hin : i < n := by simp at hi; omega
      have := hcell i (by omega)
      rw [add_off] at this
      rw [this]
      simp [List.getD, hin]
    · have := hwz m (List.mem_of_mem_take hm2)
      unfold I64
      simpa [Lit.wf, IntKind.min, IntKind.max, IntKind.signed, IntKind.bits] using this

theorem i64_of {n : Int} (h : (Lit.int .i64 n).wf = true) : I64 n := by
  unfold I64
  simpa [Lit.wf, IntKind.min, IntKind.max, IntKind.signed, IntKind.bits] using h

/-- A call of a Reader. -/
structure OpD where
  kind : Int
  most : Int
  err : Int
/-- The slice with this address reads as these calls. -/
def OpsAt (w : World) (B : Nat) (A : Option Addr) (l : List OpD) : Prop :=
  ∀ i (hi : i < l.length), ∃ b o, A = some ⟨b, o, none⟩ ∧ b < B ∧ w.cell? ⟨b, o + i * 3, none⟩ = some (.int .i64 l[i].kind) ∧ w.cell? ⟨b, o + i * 3 + 1, none⟩ = some (.int .i64 l[i].most) ∧ w.cell? ⟨b, o + i * 3 + 2, none⟩ = some (.int .i64 l[i].err) ∧ I64 l[i].kind ∧ I64 l[i].most ∧ I64 l[i].err

theorem list_of {α : Type} (n : Nat) {p : Nat → α → Prop} (h : ∀ i, i < n → ∃ a, p i a) : ∃ l : List α, l.length = n ∧ ∀ i (hi : i < l.length), p i l[i] := by
  induction n with
  | zero => exact ⟨[], rfl, fun i hi => absurd hi (by simp)⟩
  | succ n ih =>
    obtain ⟨l, hl, hp⟩ := ih fun i hi => h i (by omega)
    obtain ⟨a, ha⟩ := h n (by omega)
    refine ⟨l ++ [a], by simp [hl], fun i hi => ?_⟩
    by_cases e : i < l.length
    · rw [List.getElem_append_left e]; exact hp i e
    · have : i = n := by simp at hi; omega
      subst this
      rw [List.getElem_append_right (by omega)]
      simp [hl, ha]

theorem ops_at {W : World} {fuel : Nat} {sp : Nat → Bool} {hd : Bool} {A : Option Addr} {n c : Nat} {x : DataW H × List MemPlace} (hf : DataW.trod enc Try.prog W 0 sp hd fuel 29 [.slice A n c] = some x) :
    ∃ l, n = List.length l ∧ OpsAt W W.heap.size A l ∧ n ≤ 9223372036854775807 := by
  rcases Go.Deep.open_slice Try.underlying29 hf with ⟨hcs, hx⟩ | ⟨a, len, cap, m, k, D, Pl, hcs, _, hl, hm, hmm, hx, hi⟩
  · simp at hcs
    obtain ⟨rfl, rfl, rfl⟩ := hcs
    exact ⟨[], rfl, fun i h => absurd h (by simp), by simp⟩
  · simp at hcs
    obtain ⟨rfl, rfl, rfl⟩ := hcs
    have hle : n ≤ m := by rw [hmm]; split <;> omega
    have hC : Try.prog.cellsOf 37 = 3 := by kernel_rfl
    rcases Nat.eq_zero_or_pos n with rfl | hn0
    · exact ⟨[], rfl, fun i h => absurd h (by simp), by simp⟩
    obtain ⟨b, o2, rfl⟩ : ∃ b o, a = ⟨b, o, none⟩ := by
      obtain ⟨cs, hcs, ht⟩ := hi 0 (by omega)
      rw [hC, Nat.zero_mul, add_none] at hcs
      have h00 := (World.cells?_some hcs).2.2 0 (by omega)
      rw [add_none, List.getElem?_eq_getElem (by rw [(World.cells?_some hcs).2.1]; omega)] at h00
      exact plain_of h00
    obtain ⟨l, hll, hp⟩ := list_of n (p := fun i (o : OpD) => ∃ b2 q, (some ⟨b, o2, none⟩ : Option Addr) = some ⟨b2, q, none⟩ ∧ b2 < W.heap.size ∧ W.cell? ⟨b2, q + i * 3, none⟩ = some (.int .i64 o.kind) ∧ W.cell? ⟨b2, q + i * 3 + 1, none⟩ = some (.int .i64 o.most) ∧ W.cell? ⟨b2, q + i * 3 + 2, none⟩ = some (.int .i64 o.err) ∧ I64 o.kind ∧ I64 o.most ∧ I64 o.err)
      (fun i hin => by
        obtain ⟨cs, hcs, ht⟩ := hi i (by omega)
        rw [hC] at hcs
        obtain ⟨_, hlen, hat⟩ := World.cells?_some hcs
        obtain ⟨xs, _, _, _, _, hxl, hfi⟩ := DataW.trod_struct Try.underlying37 ht
        match cs, hlen with
        | [c0, c1, c2], _ =>
          have f0 := hfi 0 _ rfl
          have f1 := hfi 1 _ rfl
          have f2 := hfi 2 _ rfl
          have hc3 : Try.prog.cellsOf 3 = 1 := by kernel_rfl
          have hc35 : Try.prog.cellsOf 35 = 1 := by kernel_rfl
          have f0 : DataW.trod enc Try.prog W 0 sp hd _ 3 [c0] = xs[0]? := f0
          have f1 : DataW.trod enc Try.prog W 0 sp hd _ 3 [c1] = xs[1]? := f1
          have f2 : DataW.trod enc Try.prog W 0 sp hd _ 35 [c2] = xs[2]? := f2
          rw [List.getElem?_eq_getElem (by rw [hxl]; decide)] at f0 f1 f2
          obtain ⟨n0, e0, _, w0⟩ := DataW.trod_int Try.underlying3 f0
          obtain ⟨n1, e1, _, w1⟩ := DataW.trod_int Try.underlying3 f1
          obtain ⟨n2, e2, _, w2⟩ := DataW.trod_int Try.underlying35 f2
          have g0 := hat 0 (by omega)
          have g1 := hat 1 (by omega)
          have g2 := hat 2 (by omega)
          have g0 : _ = some c0 := g0
          have g1 : _ = some c1 := g1
          have g2 : _ = some c2 := g2
          obtain rfl : c0 = .int .i64 n0 := by simpa using e0
          obtain rfl : c1 = .int .i64 n1 := by simpa using e1
          obtain rfl : c2 = .int .i64 n2 := by simpa using e2
          simp only [add_off] at g0 g1 g2
          exact ⟨⟨n0, n1, n2⟩, b, o2, rfl, World.block_lt_of_cell? W _ g0, by simpa using g0, g1, g2, i64_of w0, i64_of w1, i64_of w2⟩)
    exact ⟨l, hll.symm, fun i hi => hp i hi, by unfold maxLen at hm; omega⟩

theorem is_slice {W : World} {fuel : Nat} {sp : Nat → Bool} {hd : Bool} {v : Value} {x : DataW H × List MemPlace} (hf : DataW.trod enc Try.prog W 0 sp hd fuel 22 [v] = some x) : ∃ A n c, v = .slice A n c := by
  rcases open_ints Try.underlying22 Try.underlying3 (by kernel_rfl) hf with ⟨hcs, hx⟩ | ⟨a, len, cap, zs, hcs, _⟩
  · exact ⟨none, 0, 0, by simpa using hcs⟩
  · exact ⟨some a, len, cap, by simpa using hcs⟩

/-- A field that is written. -/
structure FieldD where
  kind : Int
  num : Int
  str : ByteArray
  lst : List Int
/-- A field of the slice, at its place. -/
def FieldAt (w : World) (B b p : Nat) (d : FieldD) : Prop :=
  w.cell? ⟨b, p, none⟩ = some (.int .i64 d.kind) ∧ w.cell? ⟨b, p + 1, none⟩ = some (.int .i64 d.num) ∧ w.cell? ⟨b, p + 2, none⟩ = some (.string d.str) ∧
  (∃ A c, w.cell? ⟨b, p + 3, none⟩ = some (.slice A d.lst.length c) ∧ IntsAt w B A d.lst) ∧ I64 d.kind ∧ I64 d.num ∧ (∀ m ∈ d.lst, I64 m) ∧ d.lst.length ≤ 9223372036854775807 ∧ d.str.size ≤ 9223372036854775807
/-- The slice with this address reads as these fields. -/
def FieldsAt (w : World) (B : Nat) (A : Option Addr) (l : List FieldD) : Prop :=
  ∀ i (hi : i < l.length), ∃ b o, A = some ⟨b, o, none⟩ ∧ b < B ∧ FieldAt w B b (o + i * 4) l[i]

theorem fields_at {W : World} {fuel : Nat} {sp : Nat → Bool} {hd : Bool} {A : Option Addr} {n c : Nat} {x : DataW H × List MemPlace} (hf : DataW.trod enc Try.prog W 0 sp hd fuel 40 [.slice A n c] = some x) :
    ∃ l, n = List.length l ∧ FieldsAt W W.heap.size A l ∧ n ≤ 9223372036854775807 := by
  rcases Go.Deep.open_slice Try.underlying40 hf with ⟨hcs, hx⟩ | ⟨a, len, cap, m, k, D, Pl, hcs, _, hl, hm, hmm, hx, hi⟩
  · simp at hcs
    obtain ⟨rfl, rfl, rfl⟩ := hcs
    exact ⟨[], rfl, fun i h => absurd h (by simp), by simp⟩
  · simp at hcs
    obtain ⟨rfl, rfl, rfl⟩ := hcs
    have hle : n ≤ m := by rw [hmm]; split <;> omega
    have hC : Try.prog.cellsOf 44 = 4 := by kernel_rfl
    rcases Nat.eq_zero_or_pos n with rfl | hn0
    · exact ⟨[], rfl, fun i h => absurd h (by simp), by simp⟩
    obtain ⟨b, o2, rfl⟩ : ∃ b o, a = ⟨b, o, none⟩ := by
      obtain ⟨cs, hcs, ht⟩ := hi 0 (by omega)
      rw [hC, Nat.zero_mul, add_none] at hcs
      have h00 := (World.cells?_some hcs).2.2 0 (by omega)
      rw [add_none, List.getElem?_eq_getElem (by rw [(World.cells?_some hcs).2.1]; omega)] at h00
      exact plain_of h00
    obtain ⟨l, hll, hp⟩ := list_of n (p := fun i (d : FieldD) => b < W.heap.size ∧ FieldAt W W.heap.size b (o2 + i * 4) d)
      (fun i hin => by
        obtain ⟨cs, hcs, ht⟩ := hi i (by omega)
        rw [hC] at hcs
        obtain ⟨_, hlen, hat⟩ := World.cells?_some hcs
        obtain ⟨xs, q, _, _, _, hxl, hfi⟩ := DataW.trod_struct Try.underlying44 ht
        match cs, hlen with
        | [c0, c1, c2, c3], _ =>
          have f0 : DataW.trod enc Try.prog W 0 sp hd q 3 [c0] = xs[0]? := hfi 0 _ rfl
          have f1 : DataW.trod enc Try.prog W 0 sp hd q 3 [c1] = xs[1]? := hfi 1 _ rfl
          have f2 : DataW.trod enc Try.prog W 0 sp hd q 9 [c2] = xs[2]? := hfi 2 _ rfl
          have f3 : DataW.trod enc Try.prog W 0 sp hd q 22 [c3] = xs[3]? := hfi 3 _ rfl
          rw [List.getElem?_eq_getElem (by rw [hxl]; decide)] at f0 f1 f2 f3
          obtain ⟨n0, e0, _, w0⟩ := DataW.trod_int Try.underlying3 f0
          obtain ⟨n1, e1, _, w1⟩ := DataW.trod_int Try.underlying3 f1
          obtain ⟨s2, e2, _, w2⟩ := DataW.trod_string Try.underlying9 f2
          obtain ⟨A3, n3, k3, rfl⟩ := is_slice f3
          obtain ⟨l3, rfl, hi3, h64, hl3⟩ := ints_at f3
          have g0 := hat 0 (by omega)
          have g1 := hat 1 (by omega)
          have g2 := hat 2 (by omega)
          have g3 := hat 3 (by omega)
          have g0 : _ = some c0 := g0
          have g1 : _ = some c1 := g1
          have g2 : _ = some c2 := g2
          have g3 : _ = some (Value.slice A3 l3.length k3) := g3
          obtain rfl : c0 = .int .i64 n0 := by simpa using e0
          obtain rfl : c1 = .int .i64 n1 := by simpa using e1
          obtain rfl : c2 = .string s2 := by simpa using e2
          simp only [add_off] at g0 g1 g2 g3
          exact ⟨⟨n0, n1, s2, l3⟩, World.block_lt_of_cell? W _ g0, by simpa using g0, g1, g2, ⟨A3, k3, g3, hi3⟩, i64_of w0, i64_of w1, h64, hl3, by unfold maxLen at w2; omega⟩)
    exact ⟨l, hll.symm, fun i hi => ⟨b, o2, rfl, (hp i hi).1, (hp i hi).2⟩, by unfold maxLen at hm; omega⟩

/-- What lies below the old end of memory reads as it did. -/
theorem trodAll_below {W W' : World} (hb : Below W.heap.size W W') : ∀ (ts : List TypeId) (vs : List Value) (ds : List (DataW H)) (ps : List MemPlace),
    (∀ t ∈ ts, Try.prog.readableRec t = true ∧ t < Try.prog.types.size) → DataW.TrodAll enc Try.prog W 0 (fun _ => true) true ts vs ds ps → (∀ x ∈ ps, x.block < W.heap.size) →
    DataW.TrodAll enc Try.prog W' 0 (fun b => decide (b < W.heap.size)) true ts vs ds ps := by
  intro ts
  induction ts with
  | nil =>
    intro vs ds ps _ h _
    cases vs <;> cases ds <;> simp [DataW.TrodAll] at h ⊢
    exact h
  | cons t ts ih =>
    intro vs ds ps hr h hlt
    obtain ⟨v, vs', d, ds', p, q, rfl, rfl, rfl, h1, h2⟩ := trodAll_cons h
    obtain ⟨r1, r2⟩ := hr t List.mem_cons_self
    exact trodAll_cons_mk (Below.trod laidAll r1 r2 h1 hb fun x hx => hlt x (List.mem_append_left _ hx)) (ih _ _ _ (fun t ht => hr t (List.mem_cons_of_mem _ ht)) h2 fun x hx => hlt x (List.mem_append_right _ hx))

/-- The last step of a law's row: it returned true and left all that was there alone. -/
theorem law_post {f : Func} {s : ChangeSpec} {W W' : World} {args : Array Value} {ds : List (DataW H)} {ps : List MemPlace}
    (hvars : s.vars = []) (hres : f.resultTypes = #[4]) (hfn : (s.fn H (ds ++ [])).results = [.lit (.bool true)]) (hfa : (s.fn H (ds ++ [])).args = ds) (hfv : (s.fn H (ds ++ [])).vars = [])
    (hr : ∀ t ∈ f.params.toList, Try.prog.readableRec t = true ∧ t < Try.prog.types.size)
    (hW : DataW.Whole enc Try.prog f.params.toList s.vars false W args.toList ds [] ps) (hA : DataW.TrodAll enc Try.prog W 0 (fun _ => true) true f.params.toList args.toList ds ps) (hb : Below W.heap.size W W') :
    s.post enc Try.prog f false true false false W args (.bool true) W' := by
  refine ⟨ds, [], ps, [], ps, [], hW, ?_, ?_, ?_, hb.frame _, fun h => by cases h⟩
  · rw [hres, hfn]
    exact trodAll_cons_mk (p := []) (p' := []) (shut_bool Try.underlying4 _) trodAll_mk0
  · rw [hfa]
    exact trodAll_below hb _ _ _ _ hr hA fun x hx => hW.lt x hx
  · rw [hvars, hfv]
    rfl
end
end Go.Proofs.Ytfpkpgfdmidjfaa
