/-
  Proved: for every tree, key and Id TreeUndone answers true: what is inserted and deleted leaves the pairs as they were. No condition but the form's own reach.
-/
import Derived.Test.YtmemapfboefngaaGtM
namespace Go.Proofs.Ytmemapfboefngaa.treeUndoneProof
open Go.ChangeShapes Go.WideShapes Go.ChangeAt Go.RowKit
open Go.ChangeMaps (open_string shut_string)
set_option linter.unusedVariables false
set_option linter.unusedSimpArgs false
set_option maxRecDepth 100000
set_option maxHeartbeats 4000000
theorem walk (p0 q0 : Value) (L0 : List (List TK.Pr)) (U0 : List (List Int)) (a1 : ByteArray) (a2 : Int) (w : World) (h0 : IsT w p0 q0 L0 U0) (b0 : BT L0 U0) (b1 : a1.size ≤ 140737488351232) (b2 : -9223372036854775808 ≤ a2 ∧ a2 ≤ 9223372036854775807) :
    Calls Try.prog 8 #[.agg #[p0, q0], .string a1, .int .i64 a2] w fun e w' => e = .returned (.bool true) ∧ Fr w w' := by
  have hbt := b0
  have hL := b0.l; have hR := b0.r; have hS := b0.s; have hU := b0.u; have hUr := b0.ur
  obtain ⟨aT, dT, rfl⟩ := h0.l.slice
  obtain ⟨eT, hT, rfl⟩ := h0.u.slice
  obtain ⟨nT, NT⟩ : ∃ n, L0.length = n := ⟨_, rfl⟩
  obtain ⟨mT, MT⟩ : ∃ n, U0.length = n := ⟨_, rfl⟩
  rw [NT, MT] at h0 ⊢
  have VT := hideP (TV.new h0)
  have HF : Hid (Fr w (w.alloc (.cells #[.slice aT nT dT, .slice eT mT hT] 25))) := hideP ((Fr.refl w).alloc _)
  have HBt := hideP hbt
  clear h0 b0 hbt
  by_cases hi : TK.insE a1 L0 U0 = 0
  · obtain ⟨Un, rfl, _⟩ := TK.right_of (TK.insE_zero hi).1
    obtain ⟨c0, c1, _⟩ := TK.ins_all (n := a2) hi
    obtain ⟨c2, c3⟩ := TK.undone (n := a2) hi
    have c4 := (TK.del_all c2).2.1
    have c5 := (TK.chk_facts c0).2.2.2
    obtain ⟨⟨LA, UA⟩, hTA⟩ : ∃ r, TK.insT a1 a2 L0 Un = r := ⟨_, rfl⟩
    rw [hTA] at c1 c2 c3 c4
    dsimp only at c1 c2 c3 c4
    obtain ⟨nA, NA⟩ : ∃ n, LA.length = n := ⟨_, rfl⟩
    obtain ⟨mA, MA⟩ : ∃ n, UA.length = n := ⟨_, rfl⟩
    have HTA := hideP hTA
    have HNA := hideP NA
    have HMA := hideP MA
    clear NA MA
    obtain ⟨⟨LB, UB⟩, hTB⟩ : ∃ r, TK.delT a1 LA UA = r := ⟨_, rfl⟩
    rw [hTB] at c3 c4
    dsimp only at c3 c4
    obtain ⟨nB, NB⟩ : ∃ n, LB.length = n := ⟨_, rfl⟩
    obtain ⟨mB, MB⟩ : ∃ n, UB.length = n := ⟨_, rfl⟩
    have HTB := hideP hTB
    have HNB := hideP NB
    have HMB := hideP MB
    clear NB MB
    obtain ⟨nF, NF⟩ : ∃ n, L0.flatten.length = n := ⟨_, rfl⟩
    rw [NF] at c5
    have HNF := hideP NF
    have C0 := hideP c0
    have C2 := hideP c2
    have C3 := hideP c3
    have C4 := hideP c4
    have C5 := hideP c5
    have HI := hideP hi
    clear hTA hTB c0 c1 c2 c3 c4 c5 NF NT MT hL hR hS hU hUr hi
    go_enter Try.func8, Try.ntmps8
    have kT0 := VT.out.b.cell 0 (u := .slice aT nT dT) rfl
    have kT1 := VT.out.b.cell 1 (u := .slice eT mT hT) rfl
    have c21 := insert_ok a1 a2 VT.out.s HI.out
    rw [HTA.out] at c21
    dsimp only at c21
    rw [HNA.out, HMA.out] at c21
    go_wp2_with fail
    refine c21.mono ?_
    rintro _ w21 ⟨⟨aA, dA, eA, hA, rfl, oA⟩, f21⟩
    clear c21
    clear kT0 kT1
    have NV := TV.new oA.isT
    have g21 : Fr (w.alloc (.cells #[.slice aT nT dT, .slice eT mT hT] 25)) (w21.alloc (.cells #[.slice aA nA dA, .slice eA mA hA] 25)) := f21.alloc _
    replace VT := hideP (VT.out.fr g21)
    replace HF := hideP (HF.out.trans g21)
    have VA := hideP NV
    clear NV g21 f21
    clear oA
    have c22 := treeBegun_any (w21.alloc (.cells #[.slice aA nA dA, .slice eA mA hA] 25))
    go_wp2_with fail
    refine c22.mono ?_
    rintro _ w22 ⟨rfl, f22⟩
    clear c22
    replace VT := hideP (VT.out.fr f22)
    replace VA := hideP (VA.out.fr f22)
    replace HF := hideP (HF.out.trans f22)
    clear f22
    have kA0 := VA.out.b.cell 0 (u := .slice aA nA dA) rfl
    have kA1 := VA.out.b.cell 1 (u := .slice eA mA hA) rfl
    have c23 := delete_ok a1 VA.out.s C2.out
    rw [HTB.out] at c23
    dsimp only at c23
    rw [HNB.out, HMB.out] at c23
    go_wp2_with fail
    refine c23.mono ?_
    rintro _ w23 ⟨⟨aB, dB, eB, hB, rfl, oB⟩, f23⟩
    clear c23
    clear kA0 kA1
    have NV := TV.new oB.isT
    have g23 : Fr w22 (w23.alloc (.cells #[.slice aB nB dB, .slice eB mB hB] 25)) := f23.alloc _
    replace VT := hideP (VT.out.fr g23)
    replace VA := hideP (VA.out.fr g23)
    replace HF := hideP (HF.out.trans g23)
    have VB := hideP NV
    clear NV g23 f23
    clear oB
    have kT0 := VT.out.b.cell 0 (u := .slice aT nT dT) rfl
    have kT1 := VT.out.b.cell 1 (u := .slice eT mT hT) rfl
    have c24 := list_ok VT.out.s C0.out
    rw [HNF.out] at c24
    go_wp2_with fail
    refine c24.mono ?_
    rintro _ w24 ⟨⟨aP, dP, rfl, oP⟩, f24⟩
    clear c24
    clear kT0 kT1
    replace VT := hideP (VT.out.fr f24)
    replace VA := hideP (VA.out.fr f24)
    replace VB := hideP (VB.out.fr f24)
    replace HF := hideP (HF.out.trans f24)
    have LP := hideP oP
    clear oP f24
    have kB0 := VB.out.b.cell 0 (u := .slice aB nB dB) rfl
    have kB1 := VB.out.b.cell 1 (u := .slice eB mB hB) rfl
    have c25 := list_ok VB.out.s C4.out
    rw [C3.out, HNF.out] at c25
    go_wp2_with fail
    refine c25.mono ?_
    rintro _ w25 ⟨⟨aQ, dQ, rfl, oQ⟩, f25⟩
    clear c25
    clear kB0 kB1
    replace VT := hideP (VT.out.fr f25)
    replace VA := hideP (VA.out.fr f25)
    replace VB := hideP (VB.out.fr f25)
    replace LP := hideP (LP.out.fr f25)
    replace HF := hideP (HF.out.trans f25)
    have LQ := hideP oQ
    clear oQ f25
    have c26 := samePairs_eq _ _ _ w25 LP.out LQ.out (by have := C5.out; have := HNF.out; omega)
    go_wp2_with fail
    refine c26.mono ?_
    rintro _ w26 ⟨rfl, f26⟩
    clear c26
    replace VT := hideP (VT.out.fr f26)
    replace VA := hideP (VA.out.fr f26)
    replace VB := hideP (VB.out.fr f26)
    replace LP := hideP (LP.out.fr f26)
    replace LQ := hideP (LQ.out.fr f26)
    replace HF := hideP (HF.out.trans f26)
    clear f26
    go_wp2_with fail
    go_ret
    exact ⟨rfl, HF.out⟩
  · obtain ⟨z, hz⟩ : ∃ z, TK.insE a1 L0 U0 = z := ⟨_, rfl⟩
    have g1 : ((z : Int) != 0) = true := by rw [← hz]; simp; omega
    have g2 : ¬ ((z : Int) = 0) := by rw [← hz]; omega
    have g3 : ((z : Int) == 0) = false := by rw [← hz]; simp; omega
    have HI := hideP hi
    have HZ := hideP hz
    clear hi hz NT MT hL hR hS hU hUr
    go_enter Try.func8, Try.ntmps8
    have kT0 := VT.out.b.cell 0 (u := .slice aT nT dT) rfl
    have kT1 := VT.out.b.cell 1 (u := .slice eT mT hT) rfl
    have c21 := ins_err a1 a2 VT.out.s HBt.out (by omega) HI.out
    rw [HZ.out] at c21
    go_wp2_with fail
    refine c21.mono ?_
    rintro _ w21 ⟨rfl, f21⟩
    clear c21
    clear kT0 kT1
    have g21 : Fr (w.alloc (.cells #[.slice aT nT dT, .slice eT mT hT] 25)) (w21.alloc (.cells #[.slice none 0 0, .slice none 0 0] 25)) := f21.alloc _
    have NB := hideP (Blk.new w21 #[.slice none 0 0, .slice none 0 0] 25)
    replace VT := hideP (VT.out.fr g21)
    replace HF := hideP (HF.out.trans g21)
    have BN := NB
    clear NB g21 f21
    have c22 := treeBegun_any (w21.alloc (.cells #[.slice none 0 0, .slice none 0 0] 25))
    go_wp2_with fail
    refine c22.mono ?_
    rintro _ w22 ⟨rfl, f22⟩
    clear c22
    replace VT := hideP (VT.out.fr f22)
    replace BN := hideP (BN.out.fr f22)
    replace HF := hideP (HF.out.trans f22)
    clear f22
    go_wp2_with fail
    go_ret
    exact ⟨rfl, HF.out⟩


set_option maxRecDepth 100000 in
theorem lifted (os : Go.Os) (started : os.Started) (H : Type) (enc : TypeId × Value → H) :
    ReturnsInHanded {} Try.checked os 8 .any (Rows.treeUndoneSpec.pre6 enc Try.prog Try.f8 Rows.treeUndoneRow.domain false) (Rows.treeUndoneSpec.post enc Try.prog Try.f8 false true false false) := by
  refine returnsInHanded_of_change_sized (C := Try.checked) own started (by kernel_rfl) Try.func8
    (ChangeSpec.witness6 (enc := enc) (C := Try.checked) false ⟨#[], #[.agg #[.slice none 0 0, .slice none 0 0], .string ByteArray.empty, .int .i64 0], []⟩ 8 (by kernel_rfl) (by kernel_rfl) (by kernel_rfl) (by kernel_rfl)) ?_
  intro W base args ds gs before hval0 hW hcnd hsz0 _
  have hval : ∀ (j : Nat) t v, Try.f8.params[j]? = some t → args[j]? = some v → Value.okWide Try.prog W .any base t v := hval0
  have hsz : (DataW.weightsEach Try.prog (Try.f8.params.toList ++ Rows.treeUndoneSpec.plain.varTypes Try.prog) (ds ++ gs)).all (· ≤ reachBytes) = true := hsz0
  have hW' := hW
  obtain ⟨p, q, hA0, hV, rfl, hfz, hnd⟩ := hW
  have hA : DataW.TrodAll enc Try.prog W 0 (fun _ => true) true Try.f8.params.toList args.toList ds p := hA0
  rw [Try.params8] at hA hval hsz
  obtain ⟨v0, vs0, d0, ds0, p0, q0, hargs, rfl, rfl, h0, r0⟩ := trodAll_cons hA
  obtain ⟨v1, vs1, d1, ds1, p1, q1, rfl, rfl, rfl, h1, r1⟩ := trodAll_cons r0
  obtain ⟨v2, vs2, d2, ds2, p2, q2, rfl, rfl, rfl, h2, r2⟩ := trodAll_cons r1
  obtain ⟨rfl, rfl, rfl⟩ := trodAll_nil r2
  obtain rfl : args = #[v0, v1, v2] := by cases args; simp_all
  obtain ⟨rfl, rfl⟩ := trodVars_none hV
  obtain ⟨x0, y0, l0, u0, rfl, rw0, b0⟩ := open_tree (hval 0 25 v0 rfl rfl) h0 (sized_at hsz (j := 0) rfl rfl)
  obtain ⟨a1, rfl, rfl, rfl, w1⟩ := open_string Try.underlying9 (hval 1 9 v1 rfl rfl) h1
  obtain ⟨a2, rfl, rfl, rfl, w2⟩ := open_int Try.underlying2 (hval 2 2 v2 rfl rfl) h2
  have b1 : a1.size ≤ 140737488351232 := by
    have h := sized_string hsz (j := 1) (t := 9) rfl rfl
    simpa [reachBytes] using h
  clear hA0 hval0 hsz0
  refine (walk x0 y0 l0 u0 a1 a2 W rw0 b0 b1 (wf_i64 w2)).mono fun e W' ⟨he, bel⟩ => ?_
  subst he
  exact ⟨_, rfl, _, _, _, [], _, [], hW', trodAll_mk1 (shut_bool Try.underlying4 _), (trodAll_cons_mk (shut_tree h0 bel) (trodAll_cons_mk (shut_string Try.underlying9 w1) (trodAll_cons_mk (shut_int Try.underlying2 w2) trodAll_mk0))), rfl, Below.frame bel _, fun h => by cases h⟩

theorem over : Rows.treeUndoneRow.holds Try.pinned (OpenSpec.ofChange Rows.treeUndoneSpec) :=
  OpenClaim.holds_of_wide 8 Try.f8 rfl rfl rfl rfl rfl rfl rfl ⟨rfl, rfl, rfl, rfl, rfl⟩ rfl rfl rfl rfl rfl (by kernel_rfl) Try.func8 (by kernel_rfl)
    (of_decide_eq_true (by kernel_rfl)) (by unfold Func.isWrapper; first | (rw [if_pos (by decide +kernel)]; kernel_rfl) | (rw [if_neg (by decide +kernel)]; exact ⟨rfl, rfl⟩))
    (fun os started H enc _ => lifted os started H enc)

end Go.Proofs.Ytmemapfboefngaa.treeUndoneProof
namespace Go.Proofs.Ytmemapfboefngaa
theorem treeUndone_holds : Rows.TreeUndoneSaid := treeUndoneProof.over
#print axioms treeUndone_holds
end Go.Proofs.Ytmemapfboefngaa
