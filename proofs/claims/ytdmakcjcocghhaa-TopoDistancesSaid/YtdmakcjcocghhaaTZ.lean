/- Contracts of package topo: Parent. -/
import Derived.Test.YtdmakcjcocghhaaTY
set_option linter.unusedVariables false
namespace Go.Proofs.Ytdmakcjcocghhaa.Tpo
open Go.RowKit

set_option maxRecDepth 100000 in
set_option maxHeartbeats 4000000 in
theorem pparent_any (A : Option Addr) (c : Nat) (l : List Ed) (r n : Int) (w : World) (hl : l.length ≤ 100000) (hA : EdAt w w.heap.size A l) :
    Calls Try.prog 25 #[.slice A l.length c, .int .i64 r, .int .i64 n] w (OutI w (parent l r n)) := by
  have KG := Lib.hid (pgraph_any A c l w hl hA)
  have HA := Lib.hid hA
  have NI := Lib.hid (show ∀ x ∈ near l n, Lk l n x from fun x hx => (mem_near l n x).1 hx)
  have NM := Lib.hid (show ∀ x, Lk l n x → x ∈ near l n from fun x hx => (mem_near l n x).2 hx)
  have NA := Lib.hid (show (near l n).Pairwise (· < ·) from sel_asc _)
  have NL : (near l n).length ≤ 251 := sel_len _
  have KN := Lib.hid (fun w' (h : Below w.heap.size w w') => pnear_any A c l n w' hl (hA.next h))
  clear hA
  go_enter Try.func25, Try.ntmps25
  go_wp2_with fail
  refine KG.out.mono ?_
  rintro _ w1 ⟨gb, m0, adj, rfl, hgb, hG, hn, hm, hL, hb⟩
  have B1 := Lib.hid hb
  have HM := Lib.hid hm
  have KD := Lib.hid (pdist_any gb m0 adj r w1 hG (nd_adj hm) hL)
  clear hb hG hm hL KG
  go_wp2_with fail
  refine KD.out.mono ?_
  rintro _ w2 ⟨q, m, S, d, rfl, hbb, hM, h1, h2, h3, hb⟩
  have B2 := Lib.hid (B1.out.trans (hb.mono B1.out.size))
  have FD := Lib.hid (fd_of HM.out h1 h2 h3)
  have M2 := Lib.hid hM
  clear hb h1 h2 h3 hM KD B1
  go_wp2_with fail
  refine (KN.out _ B2.out).mono ?_
  rintro _ w3 ⟨v, rfl, ho, hb⟩
  have B3 := Lib.hid (B2.out.trans (hb.mono B2.out.size))
  have M3 := Lib.hid (M2.out.below hb)
  obtain ⟨A3, c3, e3, hF, _⟩ := ho.read
  subst e3
  have HF := Lib.hid hF
  clear hb ho hF KN B2 M2
  obtain ⟨L, hL⟩ : ∃ L, near l n = L := ⟨_, rfl⟩
  rw [hL] at NI NM NA NL HF ⊢
  clear hL
  go_wp2_with fail
  go_loop [20] (fun vk => ∃ k : Nat, vk = .int .i64 k ∧ k ≤ L.length ∧ Hid (∀ j (hj : j < L.length), j < k → ¬ Par l r n L[j])) (fun vk => L.length - (RowKit.intOf vk).toNat)
  case atStart => exact ⟨0, rfl, Nat.zero_le _, Lib.hid fun j hj h => by omega⟩
  case round =>
    obtain ⟨k, rfl, hk, HN⟩ := hrel
    by_cases hlt : k < L.length
    rotate_left
    · have d0 : ¬ k < L.length := hlt
      have R := Lib.hid (show parent l r n = -1 from by
        by_cases h : 1 ≤ dist l r n
        · obtain ⟨p1, p2, p3⟩ := parent_par h
          obtain ⟨j, hj, e⟩ := List.getElem_of_mem (NM.out _ p1.2)
          exact absurd (by rw [e]; exact p1) (HN.out j hj (by omega))
        · exact parent_none h)
      clear HN
      go_wp2_with fail
      go_ret
      exact outI R.out.symm B3.out
    obtain ⟨b, p, rfl, _, g0, i0⟩ := fI_cell HF.out k hlt
    have LK := Lib.hid (NI.out _ (List.getElem_mem hlt))
    have HK := Lib.hid (show ¬ Par l r n L[k] → ∀ j (hj : j < L.length), j < k + 1 → ¬ Par l r n L[j] from fun h j hj hjk => by
      by_cases e : j = k
      · subst e; exact h
      · exact HN.out j hj (by omega))
    have HP := Lib.hid (show 1 ≤ dist l r n → Par l r n L[k] → parent l r n = L[k] from fun h hp => parent_eq h hp fun v h0 hv hpv => by
      obtain ⟨j, hj, e⟩ := List.getElem_of_mem (NM.out _ hpv.2)
      have hjk : j < k := by
        rcases Nat.lt_or_ge j k with q | q
        · exact q
        · by_cases ejk : j = k
          · subst ejk; omega
          · have := List.pairwise_iff_getElem.1 NA.out k j hlt hj (by omega)
            omega
      exact HN.out j hj hjk (by rw [e]; exact hpv))
    clear HN
    obtain ⟨x, hx⟩ : ∃ x, L[k] = x := ⟨_, rfl⟩
    rw [hx] at g0 i0 LK HK HP
    clear hx
    have hn64 : I64 n := nd_i64 (lk_node LK.out).1.1
    have q0 : (k : Int) < (L.length : Int) := by omega
    have q1 : (0 : Int) ≤ (k : Int) := by omega
    by_cases hxs : x ∈ S
    rotate_left
    · have hget2 : (Instr.lookup 52 (.map (some q)) (.int .i64 x) true).run Try.prog w3 = .ok (.tuple #[.int .i64 0, .bool false]) w3 := by
        have := ds_get2 M3.out x i0
        rw [fnd_no hxs] at this; exact this
      have N := Lib.hid (HK.out fun hp => by
        have h1 := dist_neg l r x
        have h2 : ¬ 0 ≤ dist l r x := fun h => hxs ((FD.out.mem x).2 h)
        have h3 := hp.1
        have h4 : 0 ≤ dist l r n := by omega
        have h5 := (dist_isD (l := l) (dist_node h4).1).edge n x LK.out h4
        omega)
      clear hxs HK HP
      go_wp2_with fail
      go_round
      case rel => exact ⟨k + 1, by go_num, hlt, N⟩
      case measure => simp [RowKit.intOf]; omega
    have dx := FD.out.dist x hxs
    have dx0 : 0 ≤ dist l r x := (FD.out.mem x).1 hxs
    have hns : n ∈ S := (FD.out.mem n).2 ((dist_isD (l := l) (dist_node dx0).1).edge x n (lk_symm LK.out) dx0).1
    have dn := FD.out.dist n hns
    have dn0 : 0 ≤ dist l r n := (FD.out.mem n).1 hns
    have dxm := dist_max l r x
    have dnm := dist_max l r n
    have hget2 : (Instr.lookup 52 (.map (some q)) (.int .i64 x) true).run Try.prog w3 = .ok (.tuple #[.int .i64 (d x), .bool true]) w3 := by
      have := ds_get2 M3.out x i0
      rw [fnd_yes hxs] at this; exact this
    have hget : (Instr.lookup 52 (.map (some q)) (.int .i64 n) false).run Try.prog w3 = .ok (.int .i64 (d n)) w3 := by
      have := ds_get M3.out n hn64
      rw [fnd_yes hns] at this; exact this
    by_cases hp : d x + 1 = d n
    · have R := Lib.hid (show parent l r n = x from HP.out (by omega) ⟨by omega, LK.out⟩)
      have t1 : (d x + 1 == d n) = true := by simpa using hp
      have b1 : 0 ≤ d x := by omega
      have b2 : d x ≤ 250 := by omega
      clear HK HP dx dx0 dn dn0 dxm dnm hxs hns hp
      generalize d x = dx at *
      generalize d n = dn at *
      go_wp2_with fail
      go_ret
      exact outI R.out.symm B3.out
    · have N := Lib.hid (HK.out fun h => hp (by have := h.1; omega))
      have t1 : (d x + 1 == d n) = false := by simpa using hp
      have b1 : 0 ≤ d x := by omega
      have b2 : d x ≤ 250 := by omega
      clear HK HP dx dx0 dn dn0 dxm dnm hxs hns hp
      generalize d x = dx at *
      generalize d n = dn at *
      go_wp2_with fail
      go_round
      case rel => exact ⟨k + 1, by go_num, hlt, N⟩
      case measure => simp [RowKit.intOf]; omega
end Go.Proofs.Ytdmakcjcocghhaa.Tpo
