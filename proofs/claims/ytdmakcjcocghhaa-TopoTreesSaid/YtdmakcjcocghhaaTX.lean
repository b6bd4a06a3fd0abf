/- Contracts of package topo: Reach, Hops, Depth, Parent. -/
import Derived.Test.YtdmakcjcocghhaaTGs
import Derived.Test.YtdmakcjcocghhaaTNe
import Derived.Test.YtdmakcjcocghhaaTIt
set_option linter.unusedVariables false
namespace Go.Proofs.Ytdmakcjcocghhaa.Tpo
open Go.RowKit

/-- What a search of the graph of a list has found: the nodes with a distance, and it. -/
structure Fd (l : List Ed) (a : Int) (S : List Int) (d : Int → Int) : Prop where
  nodup : S.Nodup
  nd : ∀ x ∈ S, Nd x
  dist : ∀ v ∈ S, dist l a v = d v
  mem : ∀ v, v ∈ S ↔ 0 ≤ Tpo.dist l a v
theorem fd_of {l : List Ed} {a : Int} {adj : Int → List Int} {S : List Int} {d : Int → Int} (hm : ∀ u v, v ∈ adj u ↔ Lk l u v) (h1 : S.Nodup ∧ (∀ x ∈ S, Nd x) ∧ ∀ x ∈ S, 0 ≤ d x) (h2 : Nd a → IsE (fun u v => v ∈ adj u) a fun v => if v ∈ S then d v else -1) (h3 : ¬ Nd a → S = []) : Fd l a S d := by
  have key : ∀ v, dist l a v = if v ∈ S then d v else -1 := fun v => by
    by_cases ha : Nd a
    · exact dist_eq ha (isE_D (h2 ha) fun u v => hm u v) v
    · rw [h3 ha]
      simp
      exact dist_far fun h => ha h.1
  refine ⟨h1.1, h1.2.1, fun v hv => by rw [key, if_pos hv], fun v => ?_⟩
  rw [key]
  by_cases hv : v ∈ S
  · simp [hv, h1.2.2 v hv]
  · simp [hv]
theorem fd_reach {l : List Ed} {a : Int} {S : List Int} {d : Int → Int} (h : Fd l a S d) : (sel fun x => x ∈ S) = reach l a := sel_congr fun v _ => h.mem v
theorem nd_adj {l : List Ed} {adj : Int → List Int} (hm : ∀ u v, v ∈ adj u ↔ Lk l u v) (u v : Int) (h : v ∈ adj u) : Nd v := (lk_node ((hm u v).1 h)).1.2

set_option maxRecDepth 100000 in
set_option maxHeartbeats 2000000 in
theorem preach_any (A : Option Addr) (c : Nat) (l : List Ed) (a : Int) (w : World) (hl : l.length ≤ 100000) (hA : EdAt w w.heap.size A l) :
    Calls Try.prog 17 #[.slice A l.length c, .int .i64 a] w (OutN w (reach l a)) := by
  have KG := Lib.hid (pgraph_any A c l w hl hA)
  clear hA
  go_enter Try.func17, Try.ntmps17
  go_wp2_with fail
  refine KG.out.mono ?_
  rintro _ w1 ⟨gb, n, adj, rfl, hgb, hG, hn, hm, hL, hb⟩
  have B1 := Lib.hid hb
  have HM := Lib.hid hm
  have KD := Lib.hid (pdist_any gb n adj a w1 hG (nd_adj hm) hL)
  clear hb hG hm hL KG
  go_wp2_with fail
  refine KD.out.mono ?_
  rintro _ w2 ⟨b, m, S, d, rfl, hbb, hM, h1, h2, h3, hb⟩
  have B2 := Lib.hid (B1.out.trans (hb.mono B1.out.size))
  have FD := Lib.hid (fd_of HM.out h1 h2 h3)
  have KS := Lib.hid (sorted_any w2 hM FD.out.nodup FD.out.nd)
  have z2 := B2.out.size
  clear hb h1 h2 h3 hM KD
  go_wp2_with fail
  refine (keys_any b w2).mono ?_
  rintro _ w3 ⟨rfl, rfl⟩
  go_wp2_with fail
  refine KS.out.mono ?_
  rintro _ w4 ⟨v, rfl, ho, hb⟩
  have O4 := Lib.hid (show OwnI w4 w.heap.size v (reach l a) by rw [← fd_reach FD.out]; exact ho.down (by omega))
  have B4 := Lib.hid ((B2.out.alloc z2 _).trans (hb.mono (by omega)))
  clear hb ho KS
  go_wp2_with fail
  go_ret
  exact ⟨v, rfl, O4.out, B4.out⟩

set_option maxRecDepth 100000 in
set_option maxHeartbeats 2000000 in
theorem phops_any (A : Option Addr) (c : Nat) (l : List Ed) (a b : Int) (w : World) (hl : l.length ≤ 100000) (ib : I64 b) (hA : EdAt w w.heap.size A l) :
    Calls Try.prog 19 #[.slice A l.length c, .int .i64 a, .int .i64 b] w (OutI w (dist l a b)) := by
  have KG := Lib.hid (pgraph_any A c l w hl hA)
  clear hA
  go_enter Try.func19, Try.ntmps19
  go_wp2_with fail
  refine KG.out.mono ?_
  rintro _ w1 ⟨gb, n, adj, rfl, hgb, hG, hn, hm, hL, hb⟩
  have B1 := Lib.hid hb
  have HM := Lib.hid hm
  have KD := Lib.hid (pdist_any gb n adj a w1 hG (nd_adj hm) hL)
  clear hb hG hm hL KG
  go_wp2_with fail
  refine KD.out.mono ?_
  rintro _ w2 ⟨q, m, S, d, rfl, hbb, hM, h1, h2, h3, hb⟩
  have B2 := Lib.hid (B1.out.trans (hb.mono B1.out.size))
  have FD := Lib.hid (fd_of HM.out h1 h2 h3)
  clear hb h1 h2 h3 KD
  by_cases hin : b ∈ S
  · have hget : (Instr.lookup 52 (.map (some q)) (.int .i64 b) true).run Try.prog w2 = .ok (.tuple #[.int .i64 (d b), .bool true]) w2 := by
      have := ds_get2 hM b ib
      rw [fnd_yes hin] at this; exact this
    have R := Lib.hid (FD.out.dist b hin)
    clear hM hin FD
    generalize d b = db at *
    go_wp2_with fail
    go_ret
    exact outI R.out.symm B2.out
  · have hget : (Instr.lookup 52 (.map (some q)) (.int .i64 b) true).run Try.prog w2 = .ok (.tuple #[.int .i64 0, .bool false]) w2 := by
      have := ds_get2 hM b ib
      rw [fnd_no hin] at this; exact this
    have R := Lib.hid (show dist l a b = -1 by
      have h1 := dist_neg l a b
      have h2 : ¬ 0 ≤ dist l a b := fun h => hin ((FD.out.mem b).2 h)
      omega)
    clear hM hin FD
    go_wp2_with fail
    go_ret
    exact outI R.out.symm B2.out

/-- A step of a range over what a search has found. -/
theorem wpList_next_fnd {P : Program} (w : World) {ops : Array Oper} {rest : List Oper} {o : Oper} {a : Act} {Q : Exit → Act → World → Prop} (hg : o.guard = none) (it : Operand) (hop : o.op = Op.next it false) (hu : P.underlying 3 = some (.int .i64))
    (b r n n' : Nat) (D : DataW Value) (S : List Int) (d : Int → Int) (w0 : World) (left : Lit → Bool) (cnt : Nat) (hD : MvIs MD P w0 b n' D (fnd S d))
    (hit : a.eval it = .pointer (some ⟨r, 0, none⟩)) (h : w.ranges P MD.k selfR b r n D left cnt)
    (hDone : (∀ kl, left kl = false) → wpList P ops Q rest (a.put o.dst (.tuple #[.bool false])) w)
    (hMore : ∀ (x : Int) (w' : World) (cnt' : Nat), x ∈ S → w'.ranges P MD.k selfR b r n D (fun z => left z && !z.sameKey (.int .i64 x)) cnt' → cnt' < cnt → w.grownBy w' (some r) →
      (Instr.entry (.pointer (some ⟨r, 0, none⟩))).run P w' = .ok (.tuple #[.int .i64 x, .int .i64 (d x)]) w' → wpList P ops Q rest (a.put o.dst (.tuple #[.bool true, .int .i64 x, .int .i64 (d x)])) w') :
    wpList P ops Q (o :: rest) a w := by
  have hk : P.underlying MD.k = some (.int .i64) := hu
  refine wpList_next_ranges w hg it hop MD.k (Go.Maps.int_keyed hk) selfR (Value.int .i64) id (fun key kl hkey => by obtain ⟨x, rfl, _⟩ := Maps.keyOf_int_inv hk hkey; exact ⟨x, rfl⟩) (fun v y hv => ⟨v, rfl⟩)
    b r n D left cnt hit h (fun _ hl => hDone hl) (fun x c kl y w' cnt' hkey hlk hv hat hrg hlt hgr hsz hen => ?_)
  obtain ⟨x', ex, rfl, hwx⟩ := Maps.keyOf_int_inv hk hkey
  cases ex
  have hi := hD.2 x _ (lit_i64 hwx) hkey
  unfold fnd at hi
  by_cases hx : x ∈ S
  · simp only [if_pos hx] at hi
    have e1 := hat (.nil)
    rw [hi.2] at e1
    have e2 : y.1 = .held c := by
      unfold selfR at hv
      simp at hv
      rw [← hv]
    rw [e2] at e1
    simp at e1
    subst e1
    exact hMore x w' cnt' hx hrg hlt hgr hen
  · simp only [if_neg hx] at hi
    rw [Maps.has_true_of_atKey hat] at hi
    cases hi
end Go.Proofs.Ytdmakcjcocghhaa.Tpo
