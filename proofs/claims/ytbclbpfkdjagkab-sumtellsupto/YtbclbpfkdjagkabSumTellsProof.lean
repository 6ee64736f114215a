/-
  Proved: for every sum and every text, the two together of bulk at most 1048576, SumTells answers true: Of and More answer just what the document says. Condition: that bulk (the document's own answer lays out eight truth values a byte, so a text beyond 2^45 bytes would not fit).
-/
import Derived.Test.YtbclbpfkdjagkabSumOf
import Derived.JoinedCond
namespace Go.Proofs.Ytbclbpfkdjagkab.sumTellsProof
open Go.ChangeShapes Go.WideShapes Go.ChangeAt Go.RowKit
open Go.ChangeMaps (open_string shut_string)
set_option linter.unusedVariables false

theorem sumOf_named (ci : Int) (c : Nat) (s : ByteArray) (v : Nat) (w : World) (hci : ci = (c : Int)) (hc : c < 4294967296) (hs : s.size ≤ 1048576) (hv : SM.more c s.data.toList = v) :
    Calls Try.prog 16 #[.int .u32 ci, .string s] w fun e w' => e = .returned (.int .u32 (v : Int)) ∧ Fr w w' := by
  subst hci; subst hv; exact sumOf_any c s w hc hs

set_option maxRecDepth 100000 in
set_option maxHeartbeats 1000000 in
theorem core (c : Nat) (s : ByteArray) (A B : Nat) (w : World) (hc : c < 4294967296) (hs : s.size ≤ 1048576)
    (e1 : Hid (SM.more c s.data.toList = A)) (e2 : Hid (SM.more 0 s.data.toList = B)) :
    Calls Try.prog 5 #[.int .u32 (c : Int), .string s] w fun e w' => e = .returned (.bool true) ∧ Fr w w' := by
  have HS : Hid (s.size ≤ maxLen) := by unfold Hid maxLen; omega
  go_enter Try.func5, Try.ntmps5
  go_wp2_with fail
  refine (sumBegun_any _).mono ?_
  rintro e w' ⟨rfl, rfl⟩
  go_wp2_with fail
  refine (more_named _ _ _ _ hc HS.out e1.out).mono ?_
  rintro e w' ⟨rfl, rfl⟩
  go_wp2_with fail
  refine (sumOf_named _ c _ _ _ rfl hc hs e1.out).mono ?_
  rintro e w2 ⟨rfl, hb⟩
  go_wp2_with fail
  refine (of_named _ _ _ HS.out e2.out).mono ?_
  rintro e w' ⟨rfl, rfl⟩
  go_wp2_with fail
  refine (sumOf_named _ 0 _ _ _ rfl (by omega) hs e2.out).mono ?_
  rintro e w3 ⟨rfl, hb2⟩
  go_wp2_with fail
  go_ret
  exact ⟨rfl, Fr.trans hb hb2⟩

theorem walk (a : Int) (s : ByteArray) (w : World) (ha : 0 ≤ a ∧ a ≤ 4294967295) (hs : s.size ≤ 1048576) :
    Calls Try.prog 5 #[.int .u32 a, .string s] w fun e w' => e = .returned (.bool true) ∧ Fr w w' := by
  obtain ⟨c, rfl⟩ := Int.eq_ofNat_of_zero_le ha.1
  exact core c s _ _ w (by omega) hs rfl rfl

theorem contract (H : Type) (enc : TypeId × Value → H) (W : World) (base : Nat) (args : Array Value) (ds gs : List (DataW H)) (before : List MemPlace)
    (hval : ∀ (j : Nat) t v, Try.f5.params[j]? = some t → args[j]? = some v → Value.okWide Try.prog W .any base t v)
    (hW : DataW.Whole enc Try.prog Try.f5.params.toList Rows.sumTellsSpec.vars false W args.toList ds gs before) (hk : Rows.uptoSmall H (ds ++ gs) = true) :
    Calls Try.prog 5 args W fun e W' => ∃ v, e = .returned v ∧ Rows.sumTellsSpec.post enc Try.prog Try.f5 false true false false W args v W' := by
  have hW' := hW
  obtain ⟨p, q, hA0, hV, rfl, hfz, hnd⟩ := hW
  have hA : DataW.TrodAll enc Try.prog W 0 (fun _ => true) true Try.f5.params.toList args.toList ds p := hA0
  rw [Try.params5] at hA hval
  obtain ⟨v0, vs0, d0, ds0, p0, q0, hargs, rfl, rfl, h0, r0⟩ := trodAll_cons hA
  obtain ⟨v1, vs1, d1, ds1, p1, q1, rfl, rfl, rfl, h1, r1⟩ := trodAll_cons r0
  obtain ⟨rfl, rfl, rfl⟩ := trodAll_nil r1
  obtain rfl : args = #[v0, v1] := by cases args; simp_all
  obtain ⟨rfl, rfl⟩ := trodVars_none hV
  obtain ⟨a0, rfl, rfl, rfl, w0⟩ := open_int Try.underlying32 (hval 0 32 v0 rfl rfl) h0
  obtain ⟨a1, rfl, rfl, rfl, w1⟩ := open_string Try.underlying9 (hval 1 9 v1 rfl rfl) h1
  have hbulk : Rows.uptoBulkAll (H := H) [.lit (.int .u32 a0), .lit (.string a1.data.toList)] ≤ 1048576 := of_decide_eq_true hk
  simp only [Rows.uptoBulkAll, Rows.uptoBulk] at hbulk
  have b1 : a1.size ≤ 1048576 := by
    have e : a1.data.toList.length = a1.size := by rw [Array.length_toList]; rfl
    omega
  clear hA0
  simp only [List.append_nil] at hW'
  refine (walk a0 a1 W (wf_u32 w0) b1).mono fun e W' ⟨he, bel⟩ => ?_
  subst he
  exact ⟨_, rfl, _, _, _, [], _, [], hW', trodAll_mk1 (shut_bool Try.underlying4 _), (trodAll_cons_mk (shut_int Try.underlying32 w0) (trodAll_cons_mk (shut_string Try.underlying9 w1) trodAll_mk0)), rfl, Below.frame bel _, fun h => by cases h⟩

set_option maxRecDepth 100000 in
theorem lifted (os : Os) (started : os.Started) (H : Type) (enc : TypeId × Value → H) (F : Stop.Interp) :
    ReturnsInHanded {} Try.checked os 5 .any ((Rows.OpenSpec.upto Rows.sumTellsSpec).pre6 enc Try.prog Try.f5 Rows.sumTellsUptoRow.domain false) (((Rows.OpenSpec.upto Rows.sumTellsSpec).at F).post enc Try.prog Try.f5 false true false false) := by
  refine returnsInHanded_of_cond (C := Try.checked) (s := Rows.OpenSpec.upto Rows.sumTellsSpec) (k := Rows.uptoSmall) rfl own started (by kernel_rfl) Try.func5
    (OpenSpec.witness (enc := enc) (C := Try.checked) (s := Rows.OpenSpec.upto Rows.sumTellsSpec) (k := Rows.uptoSmall) rfl false ⟨#[], #[.int .u32 0, .string ByteArray.empty], []⟩ 8 (by kernel_rfl) (by kernel_rfl) (by kernel_rfl)
      (x := ([.lit (.int .u32 0), .lit (.string [])], [], [])) (by kernel_rfl) rfl (by kernel_rfl)) ?_
  intro W base args ds gs before hval hW _ hk _
  exact contract H enc W base args ds gs before hval hW hk

theorem over : Rows.sumTellsUptoRow.holds Try.pinned (Rows.OpenSpec.upto Rows.sumTellsSpec) :=
  OpenClaim.holds_of_cond 5 Try.f5 rfl rfl rfl rfl rfl rfl rfl ⟨rfl, rfl, rfl, rfl, rfl⟩ rfl rfl rfl rfl rfl (by kernel_rfl) Try.func5 (by kernel_rfl)
    (of_decide_eq_true (by kernel_rfl)) (by unfold Func.isWrapper; first | (rw [if_pos (by decide +kernel)]; kernel_rfl) | (rw [if_neg (by decide +kernel)]; exact ⟨rfl, rfl⟩))
    (fun os started H enc _ F => lifted os started H enc F)

end Go.Proofs.Ytbclbpfkdjagkab.sumTellsProof
namespace Go.Proofs.Ytbclbpfkdjagkab
theorem sumTellsUpto_holds : Rows.SumTellsUptoSaid := sumTellsProof.over
#print axioms sumTellsUpto_holds
end Go.Proofs.Ytbclbpfkdjagkab
