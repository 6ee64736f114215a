/-
  Proved: for every text LeafOnly answers true: what is unpacked is packed as it stood. No condition but the form's own reach.
-/
import Derived.Test.YthpcdhnaibpjnaaLfBh
import Derived.Test.YthpcdhnaibpjnaaOpen
namespace Go.Proofs.Ythpcdhnaibpjnaa.LeafOnly
open Go.ChangeShapes Go.WideShapes Go.ChangeAt Go.RowKit
open Go.ChangeMaps (open_string shut_string)
set_option linter.unusedVariables false
set_option linter.unusedSimpArgs false
set_option maxRecDepth 100000

set_option maxHeartbeats 2000000 in
theorem walk (s : ByteArray) (w : World) (hs : s.size ≤ 140737488351232) :
    Calls Try.prog 5 #[.string s] w fun e w' => e = .returned (.bool true) ∧ Fr w w' := by
  have hu := unpack_any s w (by omega)
  unfold UnpAs at hu
  match hx : LF.unp s.data.toList with
  | .error c =>
    rw [hx] at hu
    simp only at hu
    have hne := LF.unp_err hx
    have q1 : ((c : Int) != 0) = true := by simp; omega
    have q2 : ¬ ((c : Int) = 0) := by omega
    clear hx
    go_enter Try.func5, Try.ntmps5
    go_wp2_with fail
    refine hu.mono ?_
    rintro _ w1 ⟨rfl, f1⟩
    have F1 := hideP f1
    clear hu f1
    go_wp2_with fail
    refine (begun_any _).mono ?_
    rintro _ w2 ⟨rfl, f2⟩
    have F2 := hideP (Fr.trans F1.out f2)
    clear f2 F1
    go_wp2_with fail
    go_ret
    exact ⟨rfl, F2.out⟩
  | .ok xs =>
    rw [hx] at hu
    simp only at hu
    obtain ⟨h1, h2, h3, h4⟩ := LF.unp_only hx
    have h40 := (LF.chk_ok h1).1
    have hrow := LF.chkE_ok (LF.chk_ok h1).2
    have hwd : ∀ e ∈ xs, LF.wideE e ∧ e.2.length ≤ 9223372036854775807 := fun e he => ⟨h2 e he, by have := (WM.chkRow_ok (hrow e he).2).1; omega⟩
    have hE : LF.pkE xs = 0 := by unfold LF.pkE; rw [if_pos h1, if_neg (by rw [← h3]; omega)]
    have hS : (⟨(LF.pkS xs).toArray⟩ : ByteArray) = s := by
      unfold LF.pkS
      rw [if_pos hE, ← h3]
    have hpk := fun v W (h : IsEn W v xs) => pack_any v xs W h (by omega) hwd
    rw [hE, hS] at hpk
    clear hx h1 h2 h3 h4 hrow hwd hE hS
    go_enter Try.func5, Try.ntmps5
    go_wp2_with fail
    refine hu.mono ?_
    rintro _ w1 ⟨⟨v, es, rfl, ho, hm⟩, f1⟩
    have hen := ho.en
    rw [hm] at hen
    have HEN := hideP hen
    have F1 := hideP f1
    obtain ⟨av, cv, rfl, _⟩ := hen
    clear hu f1 ho hm
    go_wp2_with fail
    refine (begun_any _).mono ?_
    rintro _ w2 ⟨rfl, f2⟩
    have F2 := hideP (Fr.trans F1.out f2)
    have hp2 := hpk _ w2 (IsEn.fr HEN.out f2)
    clear f2 F1 hpk
    go_wp2_with fail
    refine hp2.mono ?_
    rintro _ w3 ⟨rfl, f3⟩
    have F3 := hideP (Fr.trans F2.out f3)
    clear f3 F2 hp2
    go_wp2_with fail
    go_ret
    exact ⟨rfl, F3.out⟩

set_option maxRecDepth 100000 in
theorem lifted (os : Go.Os) (started : os.Started) (H : Type) (enc : TypeId × Value → H) :
    ReturnsInHanded {} Try.checked os 5 .any (Rows.leafOnlySpec.pre6 enc Try.prog Try.f5 Rows.leafOnlyRow.domain false) (Rows.leafOnlySpec.post enc Try.prog Try.f5 false true false false) := by
  refine returnsInHanded_of_change_sized (C := Try.checked) own started (by kernel_rfl) Try.func5
    (ChangeSpec.witness6 (enc := enc) (C := Try.checked) false ⟨#[], #[.string ByteArray.empty], []⟩ 8 (by kernel_rfl) (by kernel_rfl) (by kernel_rfl) (by kernel_rfl)) ?_
  intro W base args ds gs before hval0 hW hcnd hsz0 _
  have hval : ∀ (j : Nat) t v, Try.f5.params[j]? = some t → args[j]? = some v → Value.okWide Try.prog W .any base t v := hval0
  have hsz : (DataW.weightsEach Try.prog (Try.f5.params.toList ++ Rows.leafOnlySpec.plain.varTypes Try.prog) (ds ++ gs)).all (· ≤ reachBytes) = true := hsz0
  have hW' := hW
  obtain ⟨p, q, hA0, hV, rfl, hfz, hnd⟩ := hW
  have hA : DataW.TrodAll enc Try.prog W 0 (fun _ => true) true Try.f5.params.toList args.toList ds p := hA0
  rw [Try.params5] at hA hval hsz
  obtain ⟨v0, vs0, d0, ds0, p0, q0, hargs, rfl, rfl, h0, r0⟩ := trodAll_cons hA
  obtain ⟨rfl, rfl, rfl⟩ := trodAll_nil r0
  obtain rfl : args = #[v0] := by cases args; simp_all
  obtain ⟨rfl, rfl⟩ := trodVars_none hV
  obtain ⟨a0, rfl, rfl, rfl, w0⟩ := open_string Try.underlying9 (hval 0 9 v0 rfl rfl) h0
  have b0 : a0.size ≤ 140737488351232 := by
    have h := sized_string hsz (j := 0) (t := 9) rfl rfl
    simpa [reachBytes] using h
  clear hA0 hval0 hsz0
  refine (walk a0 W b0).mono fun e W' ⟨he, bel⟩ => ?_
  subst he
  exact ⟨_, rfl, _, _, _, [], _, [], hW', trodAll_mk1 (shut_bool Try.underlying4 _), (trodAll_cons_mk (shut_string Try.underlying9 w0) trodAll_mk0), rfl, Below.frame bel _, fun h => by cases h⟩

theorem over : Rows.leafOnlyRow.holds Try.pinned (OpenSpec.ofChange Rows.leafOnlySpec) :=
  OpenClaim.holds_of_wide 5 Try.f5 rfl rfl rfl rfl rfl rfl rfl ⟨rfl, rfl, rfl, rfl, rfl⟩ rfl rfl rfl rfl rfl (by kernel_rfl) Try.func5 (by kernel_rfl)
    (of_decide_eq_true (by kernel_rfl)) (by unfold Func.isWrapper; first | (rw [if_pos (by decide +kernel)]; kernel_rfl) | (rw [if_neg (by decide +kernel)]; exact ⟨rfl, rfl⟩))
    (fun os started H enc _ => lifted os started H enc)

end Go.Proofs.Ythpcdhnaibpjnaa.LeafOnly
namespace Go.Proofs.Ythpcdhnaibpjnaa
theorem leafOnly_holds : Rows.LeafOnlySaid := LeafOnly.over
#print axioms leafOnly_holds
end Go.Proofs.Ythpcdhnaibpjnaa
