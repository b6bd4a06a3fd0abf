/- The law Returns. -/
import Derived.Test.YtljcjflbfjleoaaFgO
set_option linter.unusedVariables false
namespace Go.Proofs.Ytljcjflbfjleoaa.Frg
open Go.RowKit

theorem own_store {w : World} {B : Nat} {A : Option Addr} {c : Nat} {l : List Hp} (h : OwnQ w B A c l) (a : Addr) (u : Value) (ha : a.block < B) : OwnQ (w.setCell a u) B A c l := by
  refine ⟨⟨fun i hi => ?_, h.row.2.1, h.row.2.2⟩, fun b p e => ?_, fun y hy => ?_, h.ap⟩
  · obtain ⟨b, p, h1, h2, h3, h4⟩ := h.row.1 i hi
    have hB := (h.ty b p h1).1
    refine ⟨b, p, h1, by rw [World.size_setCell]; exact h2, fun j u' hu => ?_, h4⟩
    rw [← h3 j u' hu]
    exact World.cell?_of_block (Below.heap_setCell w a u b (by omega))
  · obtain ⟨h1, cur, fz, h2⟩ := h.ty b p e
    exact ⟨h1, cur, fz, (Below.heap_setCell w a u b (by omega)).trans h2⟩
  · have n := h.nest y hy
    exact ⟨own_set n.bo a u ha, own_set n.st a u ha, n.nb, n.ns⟩
theorem in_cell {w : World} {A : Option Addr} {c : Nat} {l : List Int} (h : SlS fI w A c l) (i : Nat) (hi : i < l.length) : ∃ b p, A = some ⟨b, p, none⟩ ∧ b < w.heap.size ∧ w.cell? ⟨b, p + i, none⟩ = some (.int .i64 l[i]) ∧ I64 l[i] := by
  obtain ⟨b, p, h1, h2, h3, h4⟩ := h.1 i hi
  have := h3 0 _ rfl
  rw [show p + i * fI.sz + 0 = p + i by show p + i * 1 + 0 = p + i; omega] at this
  exact ⟨b, p, h1, h2, this, h4⟩
theorem inv_lens {s : ByteArray} {src id : Int} {SN : List Bool} {l : List Pt} (hs : s.size ≤ 1000) (hi : 0 ≤ id ∧ id ≤ 255) (h : Inv s src id SN l) : l.length ≤ 8 ∧ ∀ z ∈ l, z.h.length ≤ 16 ∧ z.d.length ≤ 16 := by
  obtain ⟨h1, h2⟩ := h
  rcases h2 with ⟨_, rfl⟩ | ⟨h0, hl, t, t0, t1, rfl⟩ | ⟨_, rfl⟩
  · exact ⟨Nat.zero_le _, fun z hz => by cases hz⟩
  · have v := ent_valid s src id t SN hs hi ⟨t0, t1⟩ h1 h0 hl
    refine ⟨by simp, fun z hz => ?_⟩
    rw [List.mem_singleton.1 hz]
    have e1 := v.hl
    have e2 := v.dl
    have e3 := v.ct
    omega
  · exact ⟨Nat.zero_le _, fun z hz => by cases hz⟩
theorem nT_full {h : List Bool} {n : Nat} (hl : h.length = n) (e : ∀ j, j < n → h.getD j false = true) : nT h = n := by
  rw [← hl]
  refine nT_all.2 fun b hb => ?_
  obtain ⟨j, hj, rfl⟩ := List.getElem_of_mem hb
  have := e j (by omega)
  simpa [List.getD, hj] using this
section
open Go.ChangeShapes Go.WideShapes
variable {H : Type} {enc : TypeId × Value → H}
theorem nums_at {W : World} {fuel : Nat} {sp : Nat → Bool} {hd : Bool} {A : Option Addr} {n c : Nat} {x : DataW H × List MemPlace} (hf : DataW.trod enc Try.prog W 0 sp hd fuel 39 [.slice A n c] = some x) :
    ∃ l : List Int, n = l.length ∧ SlS fI W A c l ∧ l.length ≤ 9223372036854775807 := by
  obtain ⟨l, h1, h2, h3, h4, h5⟩ := flat_open (F := fI) Try.underlying39 (by kernel_rfl) (fun q cs y hl ht => by
    match cs, hl with
    | [c0], _ =>
      obtain ⟨n0, e0, _, w0⟩ := DataW.trod_int Try.underlying3 ht
      obtain rfl : c0 = .int .i64 n0 := by simpa using e0
      exact ⟨n0, rfl, lit_i64 w0⟩) hf
  exact ⟨l, h1, ⟨h2, h4, h5⟩, h3⟩
end
set_option maxRecDepth 100000 in
set_option maxHeartbeats 16000000 in
theorem law_returns (w : World) (s : ByteArray) (id src : Int) (A : Option Addr) (c : Nat) (ord : List Int) (hs : s.size ≤ 9223372036854775807) (hsrc : I64 src) (hol : ord.length ≤ 9223372036854775807) (hO : SlS fI w A c ord) :
    Calls Try.prog 8 #[.string s, .int .i64 id, .int .i64 src, .slice A ord.length c] w (OutB w true) := by
  have KW := Lib.hid (fun w => awake_any w)
  unfold OutB at KW
  have KS := psplit_any s id w hs
  have HO := Lib.hid hO
  have HS0 := Lib.hid hsrc
  clear hO hsrc
  by_cases h1 : 1000 < s.size
  · skip
    unfold SplitR at KS
    have LX := split_len s id
    generalize split s id = Y at *
    have KS := Lib.hid KS
    have d0 := dt (show (1000 : Int) < (s.size : Int) by omega)
    go_enter Try.func8, Try.ntmps8
    go_wp2_with fail
    refine KS.out.mono ?_
    rintro _ w1 ⟨A1, c1, rfl, _, hb⟩
    have B0 := Lib.hid hb
    clear hb KS
    go_wp2_with fail
    refine (KW.out _).mono ?_
    rintro _ wz ⟨rfl, hb⟩
    have BZ := Lib.hid (B0.out.trans (hb.mono B0.out.size))
    clear hb
    go_wp2_with fail
    go_ret
    exact outB rfl BZ.out
  have d0 := df (show ¬ (1000 : Int) < (s.size : Int) by omega)
  by_cases h2 : id < 0
  · skip
    unfold SplitR at KS
    have LX := split_len s id
    generalize split s id = Y at *
    have KS := Lib.hid KS
    have d1 := dt h2
    go_enter Try.func8, Try.ntmps8
    go_wp2_with fail
    refine KS.out.mono ?_
    rintro _ w1 ⟨A1, c1, rfl, _, hb⟩
    have B0 := Lib.hid hb
    clear hb KS
    go_wp2_with fail
    refine (KW.out _).mono ?_
    rintro _ wz ⟨rfl, hb⟩
    have BZ := Lib.hid (B0.out.trans (hb.mono B0.out.size))
    clear hb
    go_wp2_with fail
    go_ret
    exact outB rfl BZ.out
  have d1 := df h2
  by_cases h3 : 255 < id
  · skip
    unfold SplitR at KS
    have LX := split_len s id
    generalize split s id = Y at *
    have KS := Lib.hid KS
    have d2 := dt h3
    go_enter Try.func8, Try.ntmps8
    go_wp2_with fail
    refine KS.out.mono ?_
    rintro _ w1 ⟨A1, c1, rfl, _, hb⟩
    have B0 := Lib.hid hb
    clear hb KS
    go_wp2_with fail
    refine (KW.out _).mono ?_
    rintro _ wz ⟨rfl, hb⟩
    have BZ := Lib.hid (B0.out.trans (hb.mono B0.out.size))
    clear hb
    go_wp2_with fail
    go_ret
    exact outB rfl BZ.out
  have d2 := df h3
  by_cases h4 : 100 < ord.length
  · skip
    unfold SplitR at KS
    have LX := split_len s id
    generalize split s id = Y at *
    have KS := Lib.hid KS
    have d3 := dt (show (100 : Int) < (ord.length : Int) by omega)
    go_enter Try.func8, Try.ntmps8
    go_wp2_with fail
    refine KS.out.mono ?_
    rintro _ w1 ⟨A1, c1, rfl, _, hb⟩
    have B0 := Lib.hid hb
    clear hb KS
    go_wp2_with fail
    refine (KW.out _).mono ?_
    rintro _ wz ⟨rfl, hb⟩
    have BZ := Lib.hid (B0.out.trans (hb.mono B0.out.size))
    clear hb
    go_wp2_with fail
    go_ret
    exact outB rfl BZ.out
  have d3 := df (show ¬ (100 : Int) < (ord.length : Int) by omega)
  rw [show split s id = (pcs s id, 0) by unfold split; rw [if_neg h1, if_neg (by omega)]] at KS
  have LP := pcs_len s id
  have PC := Lib.hid (fun (k : Nat) (h : k < (pcs s id).length) => (show (pcs s id)[k] = piece s id k from pcs_at s id k h))
  have CP := cnt_pos s.size
  have CL := cnt_le (show s.size ≤ 1000 by omega)
  have PO := Lib.hid (fun k => piece_ok s id k (by omega))
  have IZ := Lib.hid (inv_zero s src id)
  have IL := Lib.hid (fun SN l h => inv_lens (s := s) (src := src) (id := id) (SN := SN) (l := l) (by omega) (by omega) h)
  have IS := Lib.hid (fun (now : Int) SN l k h hl hk => inv_step (s := s) (src := src) (id := id) (now := now) (SN := SN) (l := l) (k := k) (by omega) (by omega) h hl hk)
  have IN := Lib.hid (fun SN l (h : Inv s src id SN l) => h.1)
  unfold SplitR at KS
  simp only at KS
  have KS := Lib.hid KS
  generalize pcs s id = L at *
  obtain ⟨IV, hIV⟩ : ∃ IV, Inv s src id = IV := ⟨_, rfl⟩
  simp only [hIV] at IZ IL IS IN
  clear hIV
  obtain ⟨pk, hpk⟩ : ∃ pk, piece s id = pk := ⟨_, rfl⟩
  simp only [hpk] at PC PO IS
  clear hpk
  obtain ⟨n, hn⟩ : ∃ n, cnt s.size = n := ⟨_, rfl⟩
  simp only [hn] at LP CP CL IS IZ IN
  have HL := Lib.hid LP.symm
  clear hn
  have e1 := df (show ¬ (L.length : Int) < 1 by omega)
  have e2 := df (show ¬ (16 : Int) < (L.length : Int) by omega)
  have n1 : L.length ≤ 16 := by omega
  have n2 : 1 ≤ L.length := by omega
  have m1 : ord.length ≤ 100 := by omega
  have ss : (s.toList == s.toList) = true := by simp
  have ss2 : (s.toList != s.toList) = false := by simp
  clear LP CP CL h1 h2 h3 h4 hol
  go_enter Try.func8, Try.ntmps8
  go_wp2_with fail
  refine KS.out.mono ?_
  rintro _ w1 ⟨A1, c1, rfl, h1, hb⟩
  have B1 := Lib.hid hb
  have H1 := Lib.hid h1
  have HO := Lib.hid (HO.out.next hb)
  clear hb h1 KS
  have mb := mk_bools L.length (by omega) w1
  have OB := Lib.hid (made_bools w1 w1.heap.size L.length (Nat.le_refl _) (by omega))
  generalize madeCells #[.bool false] L.length = Z at *
  go_wp2_with fail
  clear mb
  have BA := alloc_below w1 (.cells Z 4)
  have GA : w1.heap.size < (w1.alloc (.cells Z 4)).heap.size := by simp
  have BA := Lib.hid BA
  have GA := Lib.hid GA
  go_loopw [11, 13, 14] (fun vp vl vi wr => ∃ (i lf : Nat) (SN : List Bool) (A2 : Option Addr) (c2 : Nat) (ys : List Hp), vi = .int .i64 i ∧ vl = .int .i64 lf ∧ vp = .slice A2 ys.length c2 ∧ i ≤ ord.length + L.length ∧ lf ≤ L.length ∧ Hid (lf + nT SN = n) ∧ Hid (OwnQ wr (w1.heap.size + 1) A2 c2 ys) ∧ Hid (IV SN (xs ys)) ∧ Hid (OwnF fBo 4 wr w1.heap.size (.slice (some ⟨w1.heap.size, 0, none⟩) SN.length L.length) SN) ∧ Hid (∀ j, j < i - ord.length → SN.getD j false = true) ∧ Hid (w1.heap.size < wr.heap.size) ∧ Below w1.heap.size w1 wr) (fun _ _ vi _ => (ord.length + L.length) - (intOf vi).toNat)
  case atStart =>
    refine ⟨0, L.length, List.replicate n false, none, 0, [], rfl, rfl, rfl, Nat.zero_le _, Nat.le_refl _, Lib.hid (by rw [nT_rep, ← HL.out]; rfl), Lib.hid (OwnQ.nil _ _), IZ, Lib.hid ?_, Lib.hid (fun j hj => by omega), GA, BA.out⟩
    rw [HL.out, List.length_replicate]
    exact OB.out
  case round =>
    obtain ⟨i, lf, SN, A2, c2, ys, rfl, rfl, rfl, hi, hlf, HN, HP, HI, HS, HD, HG, hb⟩ := hrel
    have B := Lib.hid hb
    have SL := Lib.hid (IN.out _ _ HI.out)
    clear OB BA GA IZ hb
    by_cases l0 : lf = 0
    · subst l0
      have BE := Lib.hid (B1.out.trans (B.out.mono B1.out.size))
      clear HN HP HI HS HD HG SL B1 IS IL IN PC PO H1 HO
      by_cases hlt : (i : Int) < (ord.length : Int) + (L.length : Int)
      · have g0 := dt hlt
        go_wp2_with fail
        refine (KW.out _).mono ?_
        rintro _ wz ⟨rfl, hb⟩
        have BZ := Lib.hid (BE.out.trans (hb.mono BE.out.size))
        clear hb
        go_wp2_with fail
        go_ret
        exact outB rfl BZ.out
      · have g0 := df hlt
        go_wp2_with fail
        refine (KW.out _).mono ?_
        rintro _ wz ⟨rfl, hb⟩
        have BZ := Lib.hid (BE.out.trans (hb.mono BE.out.size))
        clear hb
        go_wp2_with fail
        go_ret
        exact outB rfl BZ.out
    have hlt : i < ord.length + L.length := by
      rcases Nat.lt_or_ge i (ord.length + L.length) with h | h
      · exact h
      · have q := nT_full SL.out (fun j hj => HD.out j (by have := HL.out; omega))
        have := HN.out
        omega
    have g0 := dt (show (i : Int) < (ord.length : Int) + (L.length : Int) by omega)
    have g1 := dt (show (0 : Int) < (lf : Int) by omega)
    go_upto_if 80 with fail
    go_cut [15] from 60 to 151 (fun p wx => ∃ k : Nat, p = .int .i64 (k : Int) ∧ k < L.length ∧ (ord.length ≤ i → k = i - ord.length) ∧ wr = wx)
    case first =>
      by_cases hio : i < ord.length
      · have g2 := dt (show (i : Int) < (ord.length : Int) by omega)
        obtain ⟨b, o, rfl, _, hc, hv⟩ := in_cell (HO.out.next B.out) i hio
        generalize ord[i] = v at *
        have z0 : ((L.length : Int) == 0) = false := beq_false_of_ne (by omega)
        have z1 : ¬ (L.length : Int) = 0 := by omega
        have r1 := Int.tmod_lt_of_pos v (show (0 : Int) < (L.length : Int) by omega)
        have r2 : -(L.length : Int) < v.tmod (L.length : Int) := Int.lt_tmod_of_pos v (by omega)
        clear hv
        generalize hr : v.tmod (L.length : Int) = r at *
        by_cases hneg : r < 0
        · have g3 := dt hneg
          go_wp2_with fail
          go_meet
          exact ⟨(r + (L.length : Int)).toNat, by go_num, by omega, fun h => by omega, rfl⟩
        · have g3 := df hneg
          go_wp2_with fail
          go_meet
          exact ⟨r.toNat, by go_num, by omega, fun h => by omega, rfl⟩
      · have g2 := df (show ¬ (i : Int) < (ord.length : Int) by omega)
        go_wp2_with fail
        go_meet
        exact ⟨i - ord.length, by go_num, by omega, fun h => rfl, rfl⟩
    case rest =>
    obtain ⟨k, rfl, hk, hk2, hwx⟩ := hcut
    subst hwx
    clear g0 g1
    have kn : k < SN.length := by have := SL.out; have := HL.out; omega
    have cs : wr.cell? ⟨w1.heap.size, k, none⟩ = some (.bool SN[k]) := by
      have q := OwnF.cell HS.out k kn 0 (by decide)
      rw [show k * fBo.sz + 0 = k by show k * 1 + 0 = k; omega] at q
      exact q
    have fr := HS.out.fr k
    obtain ⟨L', J1, J2, J3⟩ := IS.out (i : Int) SN _ k HI.out (by have := HN.out; omega) (by have := HL.out; omega)
    have eg : SN.getD k false = SN[k] := by simp [List.getD, kn]
    rw [eg] at J2
    clear eg
    have SLx : (SN.set k true).length = SN.length := List.length_set
    obtain ⟨lf2, hlf2⟩ : ∃ lf2, lf2 + nT (SN.set k true) = n := ⟨n - nT (SN.set k true), by have := SL.out; have := nT_le (SN.set k true); omega⟩
    have DD := Lib.hid (show ∀ j, j < i + 1 - ord.length → (SN.set k true).getD j false = true from fun j hj => by
      by_cases e : j = k
      · subst e; simp [List.getD, kn]
      · have := HD.out j (by omega)
        simp [List.getD, Ne.symm e] at this ⊢
        exact this)
    have HS2 := (show OwnF fBo 4 (wr.setCell ⟨w1.heap.size, k, none⟩ (.bool true)) w1.heap.size (.slice (some ⟨w1.heap.size, 0, none⟩) (SN.set k true).length L.length) (SN.set k true) from by
      rw [SLx]
      have q := OwnF.put HS.out k kn 0 (by decide) (.bool true) true rfl trivial
      rw [show k * fBo.sz + 0 = k by show k * 1 + 0 = k; omega] at q
      exact q)
    have HP2 := own_store HP.out ⟨w1.heap.size, k, none⟩ (.bool true) (Nat.lt_succ_self _)
    have B2 : Below w1.heap.size w1 (wr.setCell ⟨w1.heap.size, k, none⟩ (.bool true)) := B.out.setCell (Nat.le_refl _) _
    have HG2 : w1.heap.size < (wr.setCell ⟨w1.heap.size, k, none⟩ (.bool true)).heap.size := by rw [World.size_setCell]; exact HG.out
    obtain ⟨w2, hw2⟩ : ∃ w2, wr.setCell ⟨w1.heap.size, k, none⟩ (.bool true) = w2 := ⟨_, rfl⟩
    rw [hw2] at HS2 HP2 B2 HG2
    obtain ⟨b, o, rfl, _, hc, _⟩ := st_cell (H1.out.next B2) k hk
    rw [PC.out k hk] at hc
    have li := xs_lens rfl (IL.out SN _ HI.out)
    have KA := padd_any A2 c2 ys src (i : Int) (pk k) w2 HS0.out (by omega) (PO.out k) li.2 HP2.psS
    have HNo := HN.out
    generalize SN[k] = z at *
    have HW2 := Lib.hid hw2
    have HS2 := Lib.hid HS2
    have HB2 := Lib.hid B2
    have HG2 := Lib.hid HG2
    have HC := Lib.hid hc
    have SN2 := Lib.hid (show SN.length = (SN.set k true).length from SLx.symm)
    clear hw2 B2 HP2 hc li HP HI HD HS HG IS IL PC PO HN SLx
    go_upto_if 98 with fail
    go_cut [13] from 60 to 151 (fun p wx => p = .int .i64 (lf2 : Int) ∧ wr = wx)
    case first =>
      clear KA J3
      cases z with
      | true =>
        have : lf2 = lf := by rw [if_pos rfl] at J2; omega
        subst this
        go_wp2_with fail
        go_meet
        exact ⟨rfl, rfl⟩
      | false =>
        have : lf = lf2 + 1 := by rw [if_neg (by decide)] at J2; omega
        subst this
        go_wp2_with fail
        go_meet
        exact ⟨by go_num, rfl⟩
    case rest =>
    obtain ⟨rfl, hwx⟩ := hcut
    subst hwx
    rcases J3 with ⟨j1, j2, j3⟩ | ⟨j1, j2, j3⟩
    · rw [j3] at KA
      obtain rfl : lf2 = 0 := by omega
      subst j2
      unfold AddQ at KA
      simp only at KA
      have KA := Lib.hid KA
      have HJ := Lib.hid J1
      have HF := Lib.hid hlf2
      clear j1 j3 J1 J2 hlf2
      go_upto_region 20 with fail
      rw [HW2.out]
      have hc := HC.out
      go_wp2_with fail
      refine KA.out.mono ?_
      rintro _ w3 ⟨A3, c3, y3, rfl, h3, x3, hb⟩
      have B3 := Lib.hid (HB2.out.trans (hb.mono HB2.out.size))
      have HS3 := Lib.hid (HS2.out.below hb)
      have HP3 := Lib.hid (h3.down (B' := w1.heap.size + 1) HG2.out)
      have HG3 := Lib.hid (Nat.lt_of_lt_of_le HG2.out hb.size)
      have X3 := Lib.hid x3
      obtain rfl : y3 = [] := by simpa [xs] using x3
      clear hb h3 x3 hc KA HW2 HC HS2 HB2 HG2
      go_wp2_with fail
      go_roundw
      case rel => exact ⟨i + 1, 0, SN.set k true, A3, c3, [], by go_num, rfl, rfl, hlt, Nat.zero_le _, HF, HP3, Lib.hid (by rw [X3.out]; exact HJ.out), HS3, DD, HG3, B3.out⟩
      case measure => simp [intOf]; omega
    · rw [j3] at KA
      have f1 : ((lf2 : Int) == 0) = false := by simp; omega
      have lle : lf2 ≤ L.length := by have := HL.out; omega
      unfold AddQ at KA
      simp only at KA
      rw [show eb = (⟨#[]⟩ : ByteArray) from rfl] at KA
      have KA := Lib.hid KA
      have HJ := Lib.hid J1
      have HF := Lib.hid hlf2
      have HY := Lib.hid j2
      clear j1 j2 j3 J1 J2 hlf2
      go_upto_region 20 with fail
      rw [HW2.out]
      have hc := HC.out
      go_wp2_with fail
      refine KA.out.mono ?_
      rintro _ w3 ⟨A3, c3, y3, rfl, h3, x3, hb⟩
      have B3 := Lib.hid (HB2.out.trans (hb.mono HB2.out.size))
      have HS3 := Lib.hid (HS2.out.below hb)
      have HP3 := Lib.hid (h3.down (B' := w1.heap.size + 1) HG2.out)
      have HG3 := Lib.hid (Nat.lt_of_lt_of_le HG2.out hb.size)
      have X3 := Lib.hid x3
      obtain ⟨y, rfl⟩ : ∃ y, y3 = [y] := by
        have q := HY.out
        rw [← x3] at q
        exact List.length_eq_one_iff.1 (by simpa [xs] using q)
      clear hb h3 x3 hc KA HW2 HC HS2 HB2 HG2
      go_wp2_with fail
      go_roundw
      case rel => exact ⟨i + 1, lf2, SN.set k true, A3, c3, [y], by go_num, rfl, rfl, hlt, lle, HF, HP3, Lib.hid (by rw [X3.out]; exact HJ.out), HS3, DD, HG3, B3.out⟩
      case measure => simp [intOf]; omega
end Go.Proofs.Ytljcjflbfjleoaa.Frg
