/- Package radio: hearers. -/
import Derived.Test.YtcnmknhjmflinaaRdX4
import Derived.Test.YtcnmknhjmflinaaTNe
set_option linter.unusedVariables false
namespace Go.Proofs.Ytcnmknhjmflinaa.Rdo
open Go.RowKit
open Tpo (fE EdAt OwnE OwnI OutN OutL near wout sel mem_near mem_sel eInt eEd)

/-- Who hears a sender that is on. -/
noncomputable def hr (s : Ar) (f : Int) : List Int := rcv s f 255
theorem mem_hr (s : Ar) (f v : Int) : v ∈ hr s f ↔ Tpo.Lk s.e f v ∧ Hrs s v := by
  unfold hr
  rw [mem_rcv]
  exact ⟨fun h => ⟨h.1, h.2.1⟩, fun h => ⟨h.1, h.2, Or.inl rfl⟩⟩
theorem hr_is (s : Ar) (f : Int) : ((near s.e f).filter fun n => !decide (n ∈ sel fun v => v ∈ s.o ∨ v ∈ s.n)) = hr s f := by
  unfold hr rcv
  refine List.filter_congr fun v hv => ?_
  have hn := (Tpo.lk_node ((mem_near _ _ _).1 hv)).1.2
  by_cases h1 : v ∈ s.o <;> by_cases h2 : v ∈ s.n <;> simp [mem_sel, Rcv, Hrs, h1, h2, hn]
theorem hr_len (s : Ar) (f : Int) : (hr s f).length ≤ 251 := rcv_len _ _ _
theorem rcv_hr (s : Ar) (f t : Int) (h : t ≠ 255) : rcv s f t = if t ∈ hr s f then [t] else [] := by
  refine Tpo.asc_one _ _ (rcv_asc _ _ _) (by split; exact List.pairwise_singleton _ _; exact List.Pairwise.nil) fun v => ?_
  rw [mem_rcv]
  by_cases hm : t ∈ hr s f
  · rw [if_pos hm, List.mem_singleton]
    have hm' := (mem_hr s f t).1 hm
    constructor
    · rintro ⟨_, _, q | q⟩
      · exact absurd q h
      · exact q.symm
    · rintro rfl
      exact ⟨hm'.1, hm'.2, Or.inr rfl⟩
  · rw [if_neg hm]
    constructor
    · rintro ⟨q1, q2, q | q⟩
      · exact absurd q h
      · subst q
        exact absurd ((mem_hr s f t).2 ⟨q1, q2⟩) hm
    · intro q; cases q
theorem del_hr (a : Ar) (f t : Int) : del a f t = if f ∈ (sane a).o then ([], false) else if t = 255 then (hr (sane a) f, true) else if t ∈ hr (sane a) f then ([t], !decide (f ∈ (sane a).n)) else ([], false) := by
  unfold del
  by_cases h1 : f ∈ (sane a).o
  · rw [if_pos h1, if_pos h1]
  rw [if_neg h1, if_neg h1]
  by_cases h2 : t = 255
  · rw [if_pos h2, if_pos h2, h2]; rfl
  rw [if_neg h2, if_neg h2, rcv_hr _ _ _ h2]
  by_cases h3 : t ∈ hr (sane a) f
  · rw [if_pos h3, if_pos h3]; simp
  · rw [if_neg h3, if_neg h3]; simp
set_option maxRecDepth 100000 in
set_option maxHeartbeats 2000000 in
theorem phear_any (x : Hd) (a : Ar) (f : Int) (w : World) (hl : Fit a) (h : AirS w x a) :
    Calls Try.prog 36 #[airV x a, .int .i64 f] w fun e w' => ∃ A c, e = .returned (.slice A (hr a f).length c) ∧ SlS fI w' A c (hr a f) ∧ Below w.heap.size w w' := by
  have HI := Lib.hid (hr_is a f)
  obtain ⟨F, hF⟩ : ∃ F, hr a f = F := ⟨_, rfl⟩
  rw [hF] at HI ⊢
  clear hF
  obtain ⟨A1, c1, A2, c2, A3, c3⟩ := x
  obtain ⟨E, O, N⟩ := a
  obtain ⟨l1, l2, l3⟩ := hl
  simp only at l1 l2 l3 HI
  dsimp only [airV]
  have b0 : Below w.heap.size w (w.alloc (.cells #[.slice A1 E.length c1, .slice A2 O.length c2, .slice A3 N.length c3] 25)) := alloc_below w _
  have b1 : Below w.heap.size w ((w.alloc (.cells #[.slice A1 E.length c1, .slice A2 O.length c2, .slice A3 N.length c3] 25)).alloc (.cells #[.slice A2 O.length c2, .slice A3 N.length c3] 23)) := b0.trans ((alloc_below _ _).mono b0.size)
  have hz : ((w.alloc (.cells #[.slice A1 E.length c1, .slice A2 O.length c2, .slice A3 N.length c3] 25)).alloc (.cells #[.slice A2 O.length c2, .slice A3 N.length c3] 23)).heap.size = w.heap.size + 2 := by simp
  have X1 := Lib.hid (show ((w.alloc (.cells #[.slice A1 E.length c1, .slice A2 O.length c2, .slice A3 N.length c3] 25)).alloc (.cells #[.slice A2 O.length c2, .slice A3 N.length c3] 23)).heap[w.heap.size]? = some (.cells #[.slice A1 E.length c1, .slice A2 O.length c2, .slice A3 N.length c3] 25 (0, 0)) from blk_alloc (blk_new w _) _)
  have X2 : ((w.alloc (.cells #[.slice A1 E.length c1, .slice A2 O.length c2, .slice A3 N.length c3] 25)).alloc (.cells #[.slice A2 O.length c2, .slice A3 N.length c3] 23)).heap[w.heap.size + 1]? = some (.cells #[.slice A2 O.length c2, .slice A3 N.length c3] 23 (0, 0)) := by
    have := blk_new (w.alloc (.cells #[.slice A1 E.length c1, .slice A2 O.length c2, .slice A3 N.length c3] 25)) (.cells #[.slice A2 O.length c2, .slice A3 N.length c3] 23)
    simpa using this
  have H1 := h.next b1
  have KJ := Lib.hid (pjoin_any (w.heap.size + 1) 23 A2 c2 O A3 c3 N _ X2 l2 l3 H1.2.1.1 H1.2.2.1)
  have HE := Lib.hid H1.1
  have B1 := Lib.hid b1
  have HZ := Lib.hid hz
  have KN := Lib.hid (fun w h => Tpo.pnear_any A1 c1 E f w l1 h)
  have NL := Tpo.sel_len (fun v => Tpo.Lk E f v)
  have NL : (near E f).length ≤ 251 := near_len E f
  have SL := Tpo.sel_len (fun v => v ∈ O ∨ v ∈ N)
  unfold OutN at KJ KN
  have SI := Lib.hid (fun v (h : v ∈ sel fun v => v ∈ O ∨ v ∈ N) => h)
  clear h b0 b1 X2 H1 hz SI
  generalize (sel fun v => v ∈ O ∨ v ∈ N) = D at *
  generalize near E f = M at *
  go_enter Try.func36, Try.ntmps36
  go_wp2_with fail
  refine KJ.out.mono ?_
  rintro _ w2 ⟨v2, rfl, ho, hb⟩
  obtain ⟨A4, c4, rfl, _⟩ := ho.form
  have hs2 := hb.size
  rw [HZ.out] at hs2
  have Y1 := blk_below X1.out hb (by rw [HZ.out]; omega)
  obtain ⟨g0, _, _⟩ := air_block Y1
  obtain ⟨g1, _, _⟩ := air_block (blk_alloc Y1 (.cells #[.slice A4 D.length c4] 23))
  have B2 := Lib.hid (B1.out.trans (hb.mono B1.out.size))
  have b3 := alloc_below w2 (.cells #[.slice A4 D.length c4] 23)
  have B3 := Lib.hid (B2.out.trans (b3.mono B2.out.size))
  have E3 := Lib.hid ((HE.out.next hb).next b3)
  have O3 := Lib.hid ((ho.below b3).down (B' := 0) (Nat.zero_le _))
  have X3 := Lib.hid (blk_new w2 (.cells #[.slice A4 D.length c4] 23))
  have OL := Lib.hid (show ∀ k, (Value.slice A4 D.length c4).ownBlock = some k → k < w2.heap.size from fun k hk => (ho.lt k hk).2)
  have hz3 : (w2.alloc (.cells #[.slice A4 D.length c4] 23)).heap.size = w2.heap.size + 1 := by simp
  have HZ3 := Lib.hid hz3
  clear hb ho KJ X1 B1 B2 HE HZ Y1 b3 hz3
  go_wp2_with fail
  refine (KN.out _ E3.out.1).mono ?_
  rintro _ w4 ⟨v4, rfl, ho, hb⟩
  obtain ⟨A5, c5, rfl, _⟩ := ho.form
  have B4 := Lib.hid (B3.out.trans (hb.mono B3.out.size))
  have X4 := Lib.hid (blk_below X3.out hb (by rw [HZ3.out]; omega))
  have O4 := Lib.hid (O3.out.below hb)
  have OB := Lib.hid (show ∀ k, (Value.slice A5 M.length c5).ownBlock = some k → w2.heap.size + 1 ≤ k from fun k hk => by have := (ho.lt k hk).1; rw [HZ3.out] at this; exact this)
  have eg : ∀ args w, (callFunc 56 args).run Try.prog w = .ok (.enter 56 args) w := enters_of Try.func56 (by kernel_rfl) rfl
  have KD := Lib.hid (pdfunc_any 56 #[.pointer (some ⟨w2.heap.size, 0, none⟩)] (fun n => decide (n ∈ D)) A5 c5 M _ w4 (by omega) ho eg (fun x wr hg =>
    pdeaf_any x A4 c4 D w2.heap.size wr (by omega) (blk_grown X4.out hg (fun e => by have := OB.out _ e.symm; omega))
      (own_slS (O4.out.kept hg (by
        cases hq : (Value.slice A4 D.length c4).ownBlock with
        | none => exact Or.inl rfl
        | some k => exact Or.inr (fun e => by have h1 := OL.out k hq; have h2 := OB.out k e.symm; omega)))).2.1))
  rw [HI.out] at KD
  have S4 := Lib.hid (show w.heap.size ≤ w4.heap.size from B4.out.size)
  clear hb ho eg KN E3 O3 X3 O4 X4 B3 HZ3 OL HI
  go_wp2_with fail
  refine KD.out.mono ?_
  rintro _ w5 ⟨A6, c6, rfl, hs, hg⟩
  have S5 := Lib.hid hs
  have B5 := Lib.hid (B4.out.trans (gr_below hg (B := w.heap.size) (fun g e => by have := OB.out g e; omega) S4.out))
  clear hs hg KD
  go_wp2_with fail
  go_ret
  exact ⟨A6, c6, rfl, S5.out, B5.out⟩
end Go.Proofs.Ytcnmknhjmflinaa.Rdo
