/- Payloads: Seal and Open as functions; the reference's Seal. -/
import Derived.Test.YticlcjabhemdiaaYB
import Derived.Test.YticlcjabhemdiaaWJ
import Derived.Test.YticlcjabhemdiaaWSp
import Derived.Test.YticlcjabhemdiaaGF
set_option linter.unusedVariables false
namespace Go.Proofs.Yticlcjabhemdiaa.Rpl
open Go.RowKit

/-- The payload. -/
def pay (node n : Int) (s : ByteArray) : ByteArray := Wire.bs (Wire.enI node) ++ Wire.bs (Wire.enI n) ++ Wire.bs (Wire.enT s)
theorem app_size (a b : ByteArray) : (a ++ b).size = a.size + b.size := by simp
theorem enI_size (n : Int) : (Wire.bs (Wire.enI n)).size ≤ 10 := by rw [Wire.bs_size]; exact Wire.enI_length _
theorem enT_size (s : ByteArray) : (Wire.bs (Wire.enT s)).size ≤ 10 + s.size := by
  rw [← Wire.enT_str, app_size]
  have := enI_size (s.size : Int)
  omega
theorem pay_size (node n : Int) (s : ByteArray) : (pay node n s).size ≤ s.size + 30 := by
  unfold pay
  rw [app_size, app_size]
  have h1 := enI_size node
  have h2 := enI_size n
  have h3 := enT_size s
  omega
def sl (k : Nat) (node n : Int) (s : ByteArray) : ByteArray × Int :=
  if node < 0 ∨ 250 < node ∨ n < 0 ∨ 1099511627776 < n then (⟨#[]⟩, 2) else if 1000 < s.size then (⟨#[]⟩, 3) else (Digest.bs (Digest.seald k (pay node n s).data.toList), 0)
def OutSl (W : World) (r : ByteArray × Int) (e : Ending) (W' : World) : Prop := e = .returned (.tuple #[.string r.1, .int .i64 r.2]) ∧ Below W.heap.size W W'
theorem outSl {W W' : World} {r : ByteArray × Int} {s : ByteArray} {n : Int} (h : r = (s, n)) (hb : Below W.heap.size W W') : OutSl W r (.returned (.tuple #[.string s, .int .i64 n])) W' := by subst h; exact ⟨rfl, hb⟩
/-- What the Reader reads of a payload: node, number, text, error. -/
def rdP (p : ByteArray) : Int × Int × ByteArray × Int :=
  if (Wire.fInt p).2.2 ≠ 0 then (0, 0, ByteArray.empty, (Wire.fInt p).2.2)
  else if (Wire.fInt (Wire.fInt p).2.1).2.2 ≠ 0 then (0, 0, ByteArray.empty, (Wire.fInt (Wire.fInt p).2.1).2.2)
  else if (Wire.fText 1000 (Wire.fInt (Wire.fInt p).2.1).2.1).2.2 ≠ 0 then (0, 0, ByteArray.empty, (Wire.fText 1000 (Wire.fInt (Wire.fInt p).2.1).2.1).2.2)
  else ((Wire.fInt p).1, (Wire.fInt (Wire.fInt p).2.1).1, (Wire.fText 1000 (Wire.fInt (Wire.fInt p).2.1).2.1).1, if (Wire.fText 1000 (Wire.fInt (Wire.fInt p).2.1).2.1).2.1.size = 0 then 0 else 23)
/-- Open. -/
def op (k : Nat) (node : Int) (w : Wi) (b : ByteArray) : ByteArray × Wi × Int :=
  if (Digest.opn k b.data.toList).2 ≠ 0 then (⟨#[]⟩, w, (Digest.opn k b.data.toList).2)
  else match rdP (Digest.bs (Digest.opn k b.data.toList).1) with
    | (to, n, s, e) => if e ≠ 0 then (⟨#[]⟩, w, e) else if to ≠ node ∨ to < 0 ∨ 250 < to ∨ n < 0 ∨ 1099511627776 < n then (⟨#[]⟩, w, 2)
      else if (acc w n).2 = false then (⟨#[]⟩, w, 18) else (s, (acc w n).1, 0)
theorem rdP_pay (node n : Int) (s : ByteArray) (h1 : I64 node) (h2 : I64 n) (hs : s.size ≤ 1000) : rdP (pay node n s) = (node, n, s, 0) := by
  have e1 : pay node n s = Wire.bs (Wire.enI node ++ (Wire.enI n ++ (Wire.enT s ++ []))) := by
    unfold pay
    rw [Wire.bs_append, Wire.bs_append, List.append_nil, List.append_assoc]
  have f1 := Wire.fInt_back node (Wire.enI n ++ (Wire.enT s ++ [])) h1
  have f2 := Wire.fInt_back n (Wire.enT s ++ []) h2
  have f3 : Wire.fText 1000 (Wire.bs (Wire.enT s ++ [])) = (s, Wire.bs [], 0) := by
    have c : Wire.fCount 1000 (Wire.bs (Wire.enT s ++ [])) = ((s.size : Int), Wire.bs (s.data.toList ++ []), 0) := by
      have := Wire.fCount_back 1000 s.size (s.data.toList ++ []) (Wire.nat_i64 _ (by omega)) (by omega) (by omega)
      unfold Wire.enT
      rw [List.append_assoc]
      exact this
    rw [Wire.ftext_eq, c]
    dsimp only
    rw [if_neg (by decide), Int.toNat_natCast]
    exact Wire.fTake_back s []
  unfold rdP
  rw [e1, f1]
  dsimp only
  rw [f2]
  dsimp only
  rw [f3]
  dsimp only
  rw [if_neg (by decide), if_neg (by decide), if_neg (by decide), if_pos (by rw [Wire.bs_size]; rfl)]
/-- What was sealed is opened. -/
theorem op_sl (k : Nat) (node to n : Int) (w : Wi) (s : ByteArray) (h1 : 0 ≤ node ∧ node ≤ 250) (h2 : In n) (hs : s.size ≤ 1000) :
    op k to w (Digest.bs (Digest.seald k (pay node n s).data.toList)) = if node ≠ to then (⟨#[]⟩, w, 2) else if (acc w n).2 = false then (⟨#[]⟩, w, 18) else (s, (acc w n).1, 0) := by
  have hn := h2
  unfold In at hn
  have e : Digest.bs (pay node n s).data.toList = pay node n s := by apply Digest.of_data; rw [Digest.bs_data]
  unfold op
  rw [Digest.bs_data, Digest.opn_seald]
  dsimp only
  rw [if_neg (by decide), e, rdP_pay node n s (by unfold I64; omega) (by unfold I64; omega) hs]
  dsimp only
  rw [if_neg (by decide)]
  by_cases h : node = to
  · subst h
    rw [if_neg (show ¬ (node ≠ node ∨ node < 0 ∨ 250 < node ∨ n < 0 ∨ 1099511627776 < n) by omega), if_neg (show ¬ (node ≠ node) from fun h => h rfl)]
  · rw [if_pos (Or.inl h), if_pos h]
set_option maxRecDepth 100000 in
set_option maxHeartbeats 2000000 in
theorem rseal_any (k : Nat) (node n : Int) (s : ByteArray) (W : World) (hk : k < 18446744073709551616) (h1 : I64 node) (h2 : I64 n) (hs : s.size ≤ 20000) :
    Calls Try.prog 15 #[.int .u64 (k : Int), .int .i64 node, .int .i64 n, .string s] W (OutSl W (sl k node n s)) := by
  by_cases c1 : node < 0
  · have d1 := dt c1
    have R := Lib.hid (show sl k node n s = _ from if_pos (Or.inl c1))
    go_enter Try.func15, Try.ntmps15
    go_wp2_with fail
    go_ret2
    exact outSl R.out (Below.refl _ _)
  have d1 := df c1
  by_cases c2 : 250 < node
  · have d2 := dt c2
    have R := Lib.hid (show sl k node n s = _ from if_pos (Or.inr (Or.inl c2)))
    go_enter Try.func15, Try.ntmps15
    go_wp2_with fail
    go_ret2
    exact outSl R.out (Below.refl _ _)
  have d2 := df c2
  by_cases c3 : n < 0
  · have d3 := dt c3
    have R := Lib.hid (show sl k node n s = _ from if_pos (Or.inr (Or.inr (Or.inl c3))))
    go_enter Try.func15, Try.ntmps15
    go_wp2_with fail
    go_ret2
    exact outSl R.out (Below.refl _ _)
  have d3 := df c3
  by_cases c4 : 1099511627776 < n
  · have d4 := dt c4
    have R := Lib.hid (show sl k node n s = _ from if_pos (Or.inr (Or.inr (Or.inr c4))))
    go_enter Try.func15, Try.ntmps15
    go_wp2_with fail
    go_ret2
    exact outSl R.out (Below.refl _ _)
  have d4 := df c4
  have e0 : sl k node n s = if 1000 < s.size then (⟨#[]⟩, 3) else (Digest.bs (Digest.seald k (pay node n s).data.toList), 0) := if_neg (by omega)
  by_cases c5 : 1000 < s.size
  · have d5 : decide ((1000 : Int) < (s.size : Int)) = true := dt (by omega)
    have R := Lib.hid (e0.trans (if_pos c5))
    clear e0
    go_enter Try.func15, Try.ntmps15
    go_wp2_with fail
    go_ret2
    exact outSl R.out (Below.refl _ _)
  have d5 : decide ((1000 : Int) < (s.size : Int)) = false := df (by omega)
  have R := Lib.hid (e0.trans (if_neg c5))
  have KI := Lib.hid (fun W => Wire.rint_any node W h1)
  have KN := Lib.hid (fun W => Wire.rint_any n W h2)
  have KT := Lib.hid (fun W => Wire.rtext_any s W (by omega))
  have KS := Lib.hid (fun W => Digest.rseal_any k (pay node n s) W hk (by have := pay_size node n s; omega))
  have z1 := enI_size node
  have z2 := enI_size n
  have z3 := enT_size s
  clear e0
  generalize Digest.bs (Digest.seald k (pay node n s).data.toList) = r at *
  unfold pay at KS
  unfold Wire.OutS at KI KN KT
  generalize Wire.bs (Wire.enI node) = a1 at *
  generalize Wire.bs (Wire.enI n) = a2 at *
  generalize Wire.bs (Wire.enT s) = a3 at *
  go_enter Try.func15, Try.ntmps15
  go_wp2_with fail
  refine (KI.out _).mono ?_
  rintro _ w1 ⟨rfl, hb⟩
  have B1 := Lib.hid hb
  clear hb
  go_wp2_with fail
  refine (KN.out _).mono ?_
  rintro _ w2 ⟨rfl, hb⟩
  have B2 := Lib.hid (B1.out.trans (hb.mono B1.out.size))
  clear hb
  go_wp2_with fail
  refine (KT.out _).mono ?_
  rintro _ w3 ⟨rfl, hb⟩
  have B3 := Lib.hid (B2.out.trans (hb.mono B2.out.size))
  clear hb
  go_wp2_with fail
  refine (KS.out _).mono ?_
  rintro _ w4 ⟨rfl, hb⟩
  have B4 := Lib.hid (B3.out.trans (hb.mono B3.out.size))
  clear hb
  go_wp2_with fail
  go_ret2
  exact outSl R.out B4.out
end Go.Proofs.Yticlcjabhemdiaa.Rpl
