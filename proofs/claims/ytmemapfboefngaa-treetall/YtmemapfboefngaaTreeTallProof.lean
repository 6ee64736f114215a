/-
  Proved: for every tree TreeTall answers true: all leaves stand equally deep, so a tree of h levels has 2 to the h to 4 to the h pairs. No condition but the form's own reach.
-/
import Derived.Test.YtmemapfboefngaaGtM
namespace Go.Proofs.Ytmemapfboefngaa.treeTallProof
open Go.ChangeShapes Go.WideShapes Go.ChangeAt Go.RowKit
open Go.ChangeMaps (open_string shut_string)
set_option linter.unusedVariables false
set_option linter.unusedSimpArgs false
set_option maxRecDepth 100000
set_option maxHeartbeats 4000000
theorem walk (p0 q0 : Value) (L0 : List (List TK.Pr)) (U0 : List (List Int)) (w : World) (h0 : IsT w p0 q0 L0 U0) (b0 : BT L0 U0) :
    Calls Try.prog 10 #[.agg #[p0, q0]] w fun e w' => e = .returned (.bool true) ∧ Fr w w' := by
  have hbt := b0
  have hL := b0.l; have hR := b0.r; have hS := b0.s; have hU := b0.u; have hUr := b0.ur
  obtain ⟨aT, dT, rfl⟩ := h0.l.slice
  obtain ⟨eT, hT, rfl⟩ := h0.u.slice
  obtain ⟨nT, NT⟩ : ∃ n, L0.length = n := ⟨_, rfl⟩
  obtain ⟨mT, MT⟩ : ∃ n, U0.length = n := ⟨_, rfl⟩
  rw [NT, MT] at h0 ⊢
  have VT := hideP (TV.new h0)
  have HF : Hid (Fr w (w.alloc (.cells #[.slice aT nT dT, .slice eT mT hT] 25))) := hideP ((Fr.refl w).alloc _)
  have HBt := hideP hbt
  clear h0 b0 hbt
  by_cases hc : TK.chk L0 U0 = 0
  · by_cases h00 : L0 = []
    · have hn0 : nT = 0 := by rw [← NT, h00]; rfl
      have hfl : L0.flatten.length = 0 := by rw [h00]; rfl
      have hn3 : ((nT : Int) == 0) = true := by rw [hn0]; rfl
      have hn4 : (nT : Int) = 0 := by rw [hn0]; rfl
      clear hn0
      have C0 := hideP hc
      have HFl := hideP hfl
      clear hc hfl h00 NT MT hL hR hS hU hUr
      go_enter Try.func10, Try.ntmps10
      have kT0 := VT.out.b.cell 0 (u := .slice aT nT dT) rfl
      have kT1 := VT.out.b.cell 1 (u := .slice eT mT hT) rfl
      have c21 := list_ok VT.out.s C0.out
      rw [HFl.out] at c21
      go_wp2_with fail
      refine c21.mono ?_
      rintro _ w21 ⟨⟨aA, dA, rfl, _⟩, f21⟩
      clear c21
      clear kT0 kT1
      replace VT := hideP (VT.out.fr f21)
      replace HF := hideP (HF.out.trans f21)
      clear f21
      have c22 := treeBegun_any w21
      go_wp2_with fail
      refine c22.mono ?_
      rintro _ w22 ⟨rfl, f22⟩
      clear c22
      replace VT := hideP (VT.out.fr f22)
      replace HF := hideP (HF.out.trans f22)
      clear f22
      have kT0 := VT.out.b.cell 0 (u := .slice aT nT dT) rfl
      have kT1 := VT.out.b.cell 1 (u := .slice eT mT hT) rfl
      go_wp2_with fail
      go_ret
      exact ⟨rfl, HF.out⟩
    · have hn0 : nT ≠ 0 := by
        intro e
        rw [e] at NT
        exact h00 (List.length_eq_zero_iff.1 NT)
      have hn1 : ((nT : Int) == 0) = false := by simp; omega
      have hn2 : ¬ ((nT : Int) = 0) := by omega
      obtain ⟨t1, t2, t3⟩ := TK.tall hc h00
      rw [MT] at t1 t2 t3
      have c5 := (TK.chk_facts hc).2.2.2
      obtain ⟨nF, NF⟩ : ∃ n, L0.flatten.length = n := ⟨_, rfl⟩
      rw [NF] at t2 t3 c5
      have HNF := hideP NF
      have T2 := hideP t2
      have T3 := hideP t3
      have C0 := hideP hc
      clear hc h00 NT MT NF hL hR hS hU hUr t2 t3
      go_enter Try.func10, Try.ntmps10
      have kT0 := VT.out.b.cell 0 (u := .slice aT nT dT) rfl
      have kT1 := VT.out.b.cell 1 (u := .slice eT mT hT) rfl
      have c21 := list_ok VT.out.s C0.out
      rw [HNF.out] at c21
      go_wp2_with fail
      refine c21.mono ?_
      rintro _ w21 ⟨⟨aA, dA, rfl, _⟩, f21⟩
      clear c21
      clear kT0 kT1
      replace VT := hideP (VT.out.fr f21)
      replace HF := hideP (HF.out.trans f21)
      clear f21
      have c22 := treeBegun_any w21
      go_wp2_with fail
      refine c22.mono ?_
      rintro _ w22 ⟨rfl, f22⟩
      clear c22
      replace VT := hideP (VT.out.fr f22)
      replace HF := hideP (HF.out.trans f22)
      clear f22
      have kT0 := VT.out.b.cell 0 (u := .slice aT nT dT) rfl
      have kT1 := VT.out.b.cell 1 (u := .slice eT mT hT) rfl
      go_wp2_with fail
      go_loopw [5, 6, 7] (fun lv mv iv wr => ∃ i : Nat, iv = .int .i64 i ∧ i ≤ mT ∧ lv = .int .i64 ((2 * 2 ^ i : Nat) : Int) ∧ mv = .int .i64 ((4 * 4 ^ i : Nat) : Int) ∧ Fr w22 wr) (fun _ _ iv _ => mT - (intOf iv).toNat)
      case atStart => exact ⟨0, rfl, Nat.zero_le _, rfl, rfl, Fr.refl _⟩
      case round =>
        obtain ⟨i, rfl, hi, rfl, rfl, hfr⟩ := hrel
        have q0 := (Below.cell hfr (World.block_lt_of_cell? _ _ kT0)).trans kT0
        have q1 := (Below.cell hfr (World.block_lt_of_cell? _ _ kT1)).trans kT1
        have HF2 := hideP hfr
        clear hfr
        by_cases hlt : i < mT
        · have hlt' : (i : Int) < (mT : Int) := by omega
          obtain ⟨p2, hp2⟩ : ∃ p, 2 ^ i = p := ⟨_, rfl⟩
          obtain ⟨p4, hp4⟩ : ∃ p, 4 ^ i = p := ⟨_, rfl⟩
          have b2 : p2 ≤ 2 ^ 8 := by rw [← hp2]; exact Nat.pow_le_pow_right (by decide) (by omega)
          have b4 : p4 ≤ 4 ^ 8 := by rw [← hp4]; exact Nat.pow_le_pow_right (by decide) (by omega)
          have n2 : (2 ^ (i + 1) : Nat) = 2 * p2 := by rw [Nat.pow_succ, hp2]; omega
          have n4 : (4 ^ (i + 1) : Nat) = 4 * p4 := by rw [Nat.pow_succ, hp4]; omega
          rw [hp2, hp4]
          have N2 := hideP n2
          have N4 := hideP n4
          clear hp2 hp4 n2 n4
          go_wp2_with fail
          go_roundw
          case rel => exact ⟨i + 1, by go_num, by omega, by rw [N2.out]; go_num, by rw [N4.out]; go_num, HF2.out⟩
          case measure => simp [intOf]; omega
        · obtain rfl : i = mT := by omega
          replace HF := hideP (HF.out.trans HF2.out)
          obtain ⟨p2, hp2⟩ : ∃ p, 2 ^ i = p := ⟨_, rfl⟩
          obtain ⟨p4, hp4⟩ : ∃ p, 4 ^ i = p := ⟨_, rfl⟩
          have t2 := T2.out
          have t3 := T3.out
          rw [hp2] at t2
          rw [hp4] at t3
          rw [hp2, hp4]
          have g3 : (nF : Int) ≤ 4 * (p4 : Int) := by omega
          clear T2 T3 t3
          by_cases h8 : i = 0
          · subst h8
            rw [if_pos rfl] at t2
            have g2 : (1 : Int) ≤ (nF : Int) := by omega
            clear hp2 hp4 t2
            go_wp2_with fail
            go_ret
            exact ⟨rfl, HF.out⟩
          · rw [if_neg h8] at t2
            have g2 : 2 * (p2 : Int) ≤ (nF : Int) := by omega
            have e1 : ((i : Int) == 0) = false := by simp; omega
            have e2 : ¬ ((i : Int) = 0) := by omega
            clear hp2 hp4 t2 h8
            go_wp2_with fail
            go_ret
            exact ⟨rfl, HF.out⟩
  · obtain ⟨z, hz⟩ : ∃ z, TK.chk L0 U0 = z := ⟨_, rfl⟩
    have g1 : ((z : Int) != 0) = true := by rw [← hz]; simp; omega
    have g2 : ¬ ((z : Int) = 0) := by rw [← hz]; omega
    have g3 : ((z : Int) == 0) = false := by rw [← hz]; simp; omega
    have HI := hideP hc
    have HZ := hideP hz
    clear hc hz NT MT hL hR hS hU hUr
    go_enter Try.func10, Try.ntmps10
    have kT0 := VT.out.b.cell 0 (u := .slice aT nT dT) rfl
    have kT1 := VT.out.b.cell 1 (u := .slice eT mT hT) rfl
    have c21 := list_err VT.out.s HBt.out HI.out
    rw [HZ.out] at c21
    go_wp2_with fail
    refine c21.mono ?_
    rintro _ w21 ⟨rfl, f21⟩
    clear c21
    clear kT0 kT1
    replace VT := hideP (VT.out.fr f21)
    replace HF := hideP (HF.out.trans f21)
    clear f21
    have c22 := treeBegun_any w21
    go_wp2_with fail
    refine c22.mono ?_
    rintro _ w22 ⟨rfl, f22⟩
    clear c22
    replace VT := hideP (VT.out.fr f22)
    replace HF := hideP (HF.out.trans f22)
    clear f22
    go_wp2_with fail
    go_ret
    exact ⟨rfl, HF.out⟩


set_option maxRecDepth 100000 in
theorem lifted (os : Go.Os) (started : os.Started) (H : Type) (enc : TypeId × Value → H) :
    ReturnsInHanded {} Try.checked os 10 .any (Rows.treeTallSpec.pre6 enc Try.prog Try.f10 Rows.treeTallRow.domain false) (Rows.treeTallSpec.post enc Try.prog Try.f10 false true false false) := by
  refine returnsInHanded_of_change_sized (C := Try.checked) own started (by kernel_rfl) Try.func10
    (ChangeSpec.witness6 (enc := enc) (C := Try.checked) false ⟨#[], #[.agg #[.slice none 0 0, .slice none 0 0]], []⟩ 8 (by kernel_rfl) (by kernel_rfl) (by kernel_rfl) (by kernel_rfl)) ?_
  intro W base args ds gs before hval0 hW hcnd hsz0 _
  have hval : ∀ (j : Nat) t v, Try.f10.params[j]? = some t → args[j]? = some v → Value.okWide Try.prog W .any base t v := hval0
  have hsz : (DataW.weightsEach Try.prog (Try.f10.params.toList ++ Rows.treeTallSpec.plain.varTypes Try.prog) (ds ++ gs)).all (· ≤ reachBytes) = true := hsz0
  have hW' := hW
  obtain ⟨p, q, hA0, hV, rfl, hfz, hnd⟩ := hW
  have hA : DataW.TrodAll enc Try.prog W 0 (fun _ => true) true Try.f10.params.toList args.toList ds p := hA0
  rw [Try.params10] at hA hval hsz
  obtain ⟨v0, vs0, d0, ds0, p0, q0, hargs, rfl, rfl, h0, r0⟩ := trodAll_cons hA
  obtain ⟨rfl, rfl, rfl⟩ := trodAll_nil r0
  obtain rfl : args = #[v0] := by cases args; simp_all
  obtain ⟨rfl, rfl⟩ := trodVars_none hV
  obtain ⟨x0, y0, l0, u0, rfl, rw0, b0⟩ := open_tree (hval 0 25 v0 rfl rfl) h0 (sized_at hsz (j := 0) rfl rfl)
  clear hA0 hval0 hsz0
  refine (walk x0 y0 l0 u0 W rw0 b0).mono fun e W' ⟨he, bel⟩ => ?_
  subst he
  exact ⟨_, rfl, _, _, _, [], _, [], hW', trodAll_mk1 (shut_bool Try.underlying4 _), (trodAll_cons_mk (shut_tree h0 bel) trodAll_mk0), rfl, Below.frame bel _, fun h => by cases h⟩

theorem over : Rows.treeTallRow.holds Try.pinned (OpenSpec.ofChange Rows.treeTallSpec) :=
  OpenClaim.holds_of_wide 10 Try.f10 rfl rfl rfl rfl rfl rfl rfl ⟨rfl, rfl, rfl, rfl, rfl⟩ rfl rfl rfl rfl rfl (by kernel_rfl) Try.func10 (by kernel_rfl)
    (of_decide_eq_true (by kernel_rfl)) (by unfold Func.isWrapper; first | (rw [if_pos (by decide +kernel)]; kernel_rfl) | (rw [if_neg (by decide +kernel)]; exact ⟨rfl, rfl⟩))
    (fun os started H enc _ => lifted os started H enc)

end Go.Proofs.Ytmemapfboefngaa.treeTallProof
namespace Go.Proofs.Ytmemapfboefngaa
theorem treeTall_holds : Rows.TreeTallSaid := treeTallProof.over
#print axioms treeTall_holds
end Go.Proofs.Ytmemapfboefngaa
