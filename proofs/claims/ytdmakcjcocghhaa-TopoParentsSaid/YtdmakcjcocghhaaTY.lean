/- Contracts of package topo: Depth, Parent. -/
import Derived.Test.YtdmakcjcocghhaaTX
set_option linter.unusedVariables false
namespace Go.Proofs.Ytdmakcjcocghhaa.Tpo
open Go.RowKit

/-- What the loop of Depth knows. -/
def DpI (l : List Ed) (a : Int) (S : List Int) (d : Int → Int) (left : Lit → Bool) (mx : Int) : Prop := 0 ≤ mx ∧ (mx = 0 ∨ ∃ v, dist l a v = mx) ∧ ∀ v ∈ S, left (.int .i64 v) = false → d v ≤ mx
theorem keyI : Try.prog.underlying 3 = some (.int .i64) := Try.underlying3
set_option maxRecDepth 100000 in
set_option maxHeartbeats 4000000 in
theorem pdepth_any (A : Option Addr) (c : Nat) (l : List Ed) (a : Int) (w : World) (hl : l.length ≤ 100000) (hA : EdAt w w.heap.size A l) :
    Calls Try.prog 21 #[.slice A l.length c, .int .i64 a] w (OutI w (depth l a)) := by
  have KG := Lib.hid (pgraph_any A c l w hl hA)
  clear hA
  go_enter Try.func21, Try.ntmps21
  go_wp2_with fail
  refine KG.out.mono ?_
  rintro _ w1 ⟨gb, n, adj, rfl, hgb, hG, hn, hm, hL, hb⟩
  have B1 := Lib.hid hb
  have HM := Lib.hid hm
  have KD := Lib.hid (pdist_any gb n adj a w1 hG (nd_adj hm) hL)
  clear hb hG hm hL KG
  go_wp2_with fail
  refine KD.out.mono ?_
  rintro _ w2 ⟨q, m, S, d, rfl, hbb, hM, h1, h2, h3, hb⟩
  have B2 := Lib.hid (B1.out.trans (hb.mono B1.out.size))
  have FD := Lib.hid (fd_of HM.out h1 h2 h3)
  obtain ⟨D, hD⟩ := hM
  have HD := Lib.hid hD
  have hown := hD.1
  clear hb h1 h2 h3 KD hD
  have S0 := Lib.hid (show DpI l a S d (Maps.has D) 0 from ⟨Int.le_refl _, Or.inl rfl, fun v hv h => by
    rw [mvInt_keys (t := 52) (k := 3) (e := 3) (z := .int .i64 0) keyI HD.out (nd_i64 (FD.out.nd v hv)), fnd_yes hv] at h; cases h⟩)
  go_wp2_with (at_range; refine wpList_range_own _ rfl _ 52 rfl MD.k MD.e md_of.keyed md_of.ut selfR q m D rfl hown ?_; intro w3 hrg0 hg0 hs0)
  go_frame
  have B3 := Lib.hid (show Below w.heap.size w w3 from B2.out.grown hg0 B2.out.size (fun j hj => by cases hj))
  have R3 := Lib.hid hrg0
  have z2 := B2.out.size
  clear hrg0 hg0 hs0 hown
  generalize w2.heap.size = r at *
  go_loopw [5] (fun vd wr => ∃ (left : Lit → Bool) (cnt : Nat) (mx : Int), vd = .int .i64 mx ∧ Hid (wr.ranges Try.prog MD.k selfR q r m D left cnt) ∧ Hid (DpI l a S d left mx) ∧ Below w.heap.size w wr) (fun _ wr => wr.rangeLeft q r)
  case atStart => exact ⟨_, _, 0, rfl, R3, S0, B3.out⟩
  case round =>
    clear S0 B3 R3
    obtain ⟨left, cnt, mx, rfl, RG, I, hb⟩ := hrel
    have B := Lib.hid hb
    have hz := hb.size
    have hrg := RG.out
    clear hb
    go_wp2_with (at_next; refine wpList_next_fnd _ rfl _ rfl keyI q r m m D S d w2 left cnt HD.out rfl hrg ?_ ?_)
    · intro hl0
      have R := Lib.hid (show depth l a = mx from depth_is I.out.1 (fun v => by
        by_cases hv : v ∈ S
        · rw [FD.out.dist v hv]; exact I.out.2.2 v hv (hl0 _)
        · have h1 := dist_neg l a v
          have h2 : ¬ 0 ≤ dist l a v := fun h => hv ((FD.out.mem v).2 h)
          have := I.out.1
          omega) I.out.2.1)
      clear hl0 hrg I RG
      go_wp2_with fail
      go_ret
      exact outI R.out.symm B.out
    · intro x w5 cnt5 hx hrg5 hlt5 hg5 hen
      have B5 := Lib.hid (B.out.grown hg5 hz (fun j hj => by cases hj; omega))
      have LE := Lib.hid (show w5.rangeLeft q r < wr.rangeLeft q r by rw [hrg5.left_eq, hrg.left_eq]; exact hlt5)
      have RG5 := Lib.hid hrg5
      have NX := Lib.hid (show ∀ mx', mx ≤ mx' → d x ≤ mx' → ∀ v ∈ S, (left (.int .i64 v) && !(Lit.int .i64 v).sameKey (.int .i64 x)) = false → d v ≤ mx' from fun mx' h1 h2 v hv hf => by
        cases hlv : left (.int .i64 v) with
        | false => have := I.out.2.2 v hv hlv; omega
        | true =>
          rw [hlv] at hf
          simp [Lit.sameKey] at hf
          rw [hf]; exact h2)
      have DX := Lib.hid (FD.out.dist x hx)
      have I1 := Lib.hid I.out.1
      have I2 := Lib.hid I.out.2.1
      clear hrg5 hrg hlt5 hg5 hx RG I
      obtain ⟨dx, hdx⟩ : ∃ dx, dx = d x := ⟨_, rfl⟩
      rw [← hdx] at hen NX DX
      rw [← hdx]
      have hdx' := Lib.hid hdx
      clear hdx
      by_cases hc : mx ≤ dx
      · have q1 := dt hc
        have q2 : max mx dx = dx := by omega
        have q3 : (if mx ≤ dx then dx else mx) = dx := if_pos hc
        have N := Lib.hid (show DpI l a S d (fun z => left z && !z.sameKey (.int .i64 x)) dx from ⟨by have := I1.out; omega, Or.inr ⟨x, DX.out⟩, NX.out dx hc (Int.le_refl _)⟩)
        clear hc I1 I2 NX DX
        go_wp2_with fail
        go_roundw
        case rel => exact ⟨_, cnt5, dx, rfl, RG5, N, B5.out⟩
        case measure => exact LE.out
      · have q1 := df hc
        have q2 : max mx dx = mx := by omega
        have q3 : (if mx ≤ dx then dx else mx) = mx := if_neg hc
        have N := Lib.hid (show DpI l a S d (fun z => left z && !z.sameKey (.int .i64 x)) mx from ⟨I1.out, I2.out, NX.out mx (Int.le_refl _) (by omega)⟩)
        clear hc I1 I2 NX DX
        go_wp2_with fail
        go_roundw
        case rel => exact ⟨_, cnt5, mx, rfl, RG5, N, B5.out⟩
        case measure => exact LE.out
end Go.Proofs.Ytdmakcjcocghhaa.Tpo
