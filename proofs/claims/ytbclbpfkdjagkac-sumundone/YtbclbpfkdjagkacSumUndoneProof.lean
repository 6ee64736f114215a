/-
  Proved: for every sum, byte and text SumUndone answers true: what one byte did is undone by that byte, and the other way round. No condition but the form's own reach.
-/
import Derived.Test.YtbclbpfkdjagkacByteText
namespace Go.Proofs.Ytbclbpfkdjagkac.sumUndoneProof
open Go.ChangeShapes Go.WideShapes Go.ChangeAt Go.RowKit
open Go.ChangeMaps (open_string shut_string)
set_option linter.unusedVariables false

set_option maxRecDepth 100000 in
set_option maxHeartbeats 1000000 in
theorem core (c : Nat) (b : UInt8) (s : ByteArray) (A L B S : Nat) (w : World) (hs : s.size ≤ 140737488351232) (hc : c < 4294967296) (hA : A < 4294967296) (hL : L < 4294967296) (hB : B < 4294967296)
    (h1 : Hid (SM.more c (⟨[b].toArray⟩ : ByteArray).data.toList = A)) (h2 : Hid (SM.less A b = c)) (h3 : Hid (SM.less c b = L)) (h4 : Hid (SM.more L (⟨[b].toArray⟩ : ByteArray).data.toList = c))
    (h5 : Hid (SM.more 0 (s ++ (⟨[b].toArray⟩ : ByteArray)).data.toList = B)) (h6 : Hid (SM.less B b = S)) (h7 : Hid (SM.more 0 s.data.toList = S)) :
    Calls Try.prog 3 #[.int .u32 (c : Int), .int .u8 (b.toNat : Int), .string s] w fun e w' => e = .returned (.bool true) ∧ Fr w w' := by
  have HS : Hid (s.size ≤ maxLen) := by unfold Hid maxLen; omega
  have HST : Hid ((s ++ (⟨[b].toArray⟩ : ByteArray)).size ≤ maxLen) := by
    unfold Hid maxLen
    rw [ByteArray.size_append]
    have : (⟨[b].toArray⟩ : ByteArray).size = 1 := rfl
    omega
  have HO : Hid ((⟨[b].toArray⟩ : ByteArray).size ≤ maxLen) := by unfold Hid maxLen; exact (show 1 ≤ 2 ^ 63 - 1 by decide)
  go_enter Try.func3, Try.ntmps3
  go_wp2_with fail
  refine (byteText_any _ _).mono ?_
  rintro e w1 ⟨rfl, hb⟩
  go_wp2_with fail
  refine (sumBegun_any _).mono ?_
  rintro e w' ⟨rfl, rfl⟩
  go_wp2_with fail
  refine (more_named _ _ _ _ hc HO.out h1.out).mono ?_
  rintro e w' ⟨rfl, rfl⟩
  go_wp2_with fail
  refine (less_named _ _ _ _ hA h2.out).mono ?_
  rintro e w' ⟨rfl, rfl⟩
  go_wp2_with fail
  refine (less_named _ _ _ _ hc h3.out).mono ?_
  rintro e w' ⟨rfl, rfl⟩
  go_wp2_with fail
  refine (more_named _ _ _ _ hL HO.out h4.out).mono ?_
  rintro e w' ⟨rfl, rfl⟩
  go_wp2_with fail
  refine (of_named _ _ _ HST.out h5.out).mono ?_
  rintro e w' ⟨rfl, rfl⟩
  go_wp2_with fail
  refine (less_named _ _ _ _ hB h6.out).mono ?_
  rintro e w' ⟨rfl, rfl⟩
  go_wp2_with fail
  refine (of_named _ _ _ HS.out h7.out).mono ?_
  rintro e w' ⟨rfl, rfl⟩
  go_wp2_with fail
  go_ret
  exact ⟨rfl, hb⟩

theorem walk (a b : Int) (s : ByteArray) (w : World) (ha : 0 ≤ a ∧ a ≤ 4294967295) (hb : 0 ≤ b ∧ b ≤ 255) (hs : s.size ≤ 140737488351232) :
    Calls Try.prog 3 #[.int .u32 a, .int .u8 b, .string s] w fun e w' => e = .returned (.bool true) ∧ Fr w w' := by
  obtain ⟨c, rfl⟩ := Int.eq_ofNat_of_zero_le ha.1
  obtain ⟨u, rfl⟩ := byte_of hb
  have hc : c < 4294967296 := by omega
  have h0 : (0 : Nat) < 4294967296 := by omega
  have hS := SM.more_lt h0 s.data.toList
  have e5 : SM.more 0 (s ++ (⟨[u].toArray⟩ : ByteArray)).data.toList = SM.more (SM.more 0 s.data.toList) [u] := by
    rw [SM.more_append, show (s ++ (⟨[u].toArray⟩ : ByteArray)).data.toList = s.data.toList ++ [u] by simp]
  exact core c u s (SM.more c [u]) (SM.less c u) (SM.more (SM.more 0 s.data.toList) [u]) (SM.more 0 s.data.toList) w hs hc (SM.more_lt hc _) (SM.less_lt hc u) (SM.more_lt hS _)
    rfl (SM.less_more hc u) rfl (SM.more_less hc u) e5 (SM.less_more hS u) rfl

set_option maxRecDepth 100000 in
theorem lifted (os : Os) (started : os.Started) (H : Type) (enc : TypeId × Value → H) :
    ReturnsInHanded {} Try.checked os 3 .any (Rows.sumUndoneSpec.pre6 enc Try.prog Try.f3 Rows.sumUndoneRow.domain false) (Rows.sumUndoneSpec.post enc Try.prog Try.f3 false true false false) := by
  refine returnsInHanded_of_change_sized (C := Try.checked) own started (by kernel_rfl) Try.func3
    (ChangeSpec.witness6 (enc := enc) (C := Try.checked) false ⟨#[], #[.int .u32 0, .int .u8 0, .string ByteArray.empty], []⟩ 8 (by kernel_rfl) (by kernel_rfl) (by kernel_rfl) (by kernel_rfl)) ?_
  intro W base args ds gs before hval0 hW hcnd hsz0 _
  have hval : ∀ (j : Nat) t v, Try.f3.params[j]? = some t → args[j]? = some v → Value.okWide Try.prog W .any base t v := hval0
  have hsz : (DataW.weightsEach Try.prog (Try.f3.params.toList ++ Rows.sumUndoneSpec.plain.varTypes Try.prog) (ds ++ gs)).all (· ≤ reachBytes) = true := hsz0
  have hW' := hW
  obtain ⟨p, q, hA0, hV, rfl, hfz, hnd⟩ := hW
  have hA : DataW.TrodAll enc Try.prog W 0 (fun _ => true) true Try.f3.params.toList args.toList ds p := hA0
  rw [Try.params3] at hA hval hsz
  obtain ⟨v0, vs0, d0, ds0, p0, q0, hargs, rfl, rfl, h0, r0⟩ := trodAll_cons hA
  obtain ⟨v1, vs1, d1, ds1, p1, q1, rfl, rfl, rfl, h1, r1⟩ := trodAll_cons r0
  obtain ⟨v2, vs2, d2, ds2, p2, q2, rfl, rfl, rfl, h2, r2⟩ := trodAll_cons r1
  obtain ⟨rfl, rfl, rfl⟩ := trodAll_nil r2
  obtain rfl : args = #[v0, v1, v2] := by cases args; simp_all
  obtain ⟨rfl, rfl⟩ := trodVars_none hV
  obtain ⟨a0, rfl, rfl, rfl, w0⟩ := open_int Try.underlying22 (hval 0 22 v0 rfl rfl) h0
  obtain ⟨a1, rfl, rfl, rfl, w1⟩ := open_int Try.underlying5 (hval 1 5 v1 rfl rfl) h1
  obtain ⟨a2, rfl, rfl, rfl, w2⟩ := open_string Try.underlying9 (hval 2 9 v2 rfl rfl) h2
  have b2 : a2.size ≤ 140737488351232 := by
    have h := sized_string hsz (j := 2) (t := 9) rfl rfl
    simpa [reachBytes] using h
  clear hA0 hval0 hsz0
  refine (walk a0 a1 a2 W (wf_u32 w0) (wf_u8 w1) b2).mono fun e W' ⟨he, bel⟩ => ?_
  subst he
  exact ⟨_, rfl, _, _, _, [], _, [], hW', trodAll_mk1 (shut_bool Try.underlying4 _), (trodAll_cons_mk (shut_int Try.underlying22 w0) (trodAll_cons_mk (shut_int Try.underlying5 w1) (trodAll_cons_mk (shut_string Try.underlying9 w2) trodAll_mk0))), rfl, Below.frame bel _, fun h => by cases h⟩

theorem over : Rows.sumUndoneRow.holds Try.pinned (OpenSpec.ofChange Rows.sumUndoneSpec) :=
  OpenClaim.holds_of_wide 3 Try.f3 rfl rfl rfl rfl rfl rfl rfl ⟨rfl, rfl, rfl, rfl, rfl⟩ rfl rfl rfl rfl rfl (by kernel_rfl) Try.func3 (by kernel_rfl)
    (of_decide_eq_true (by kernel_rfl)) (by unfold Func.isWrapper; first | (rw [if_pos (by decide +kernel)]; kernel_rfl) | (rw [if_neg (by decide +kernel)]; exact ⟨rfl, rfl⟩))
    (fun os started H enc _ => lifted os started H enc)

end Go.Proofs.Ytbclbpfkdjagkac.sumUndoneProof
namespace Go.Proofs.Ytbclbpfkdjagkac
theorem sumUndone_holds : Rows.SumUndoneSaid := sumUndoneProof.over
#print axioms sumUndone_holds
end Go.Proofs.Ytbclbpfkdjagkac
