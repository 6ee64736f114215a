/-
  Proved: for every tree and all keys TreeSpan answers true: a range has just the pairs of the list that lie in it; cut in two at a key it is both parts, and what is in it is found. No condition but the form's own reach.
-/
import Derived.Test.YtmemapfboefngaaTwI
namespace Go.Proofs.Ytmemapfboefngaa.treeSpanProof
open Go.ChangeShapes Go.WideShapes Go.ChangeAt Go.RowKit
open Go.ChangeMaps (open_string shut_string)
set_option linter.unusedVariables false
set_option linter.unusedSimpArgs false
set_option maxRecDepth 100000
set_option maxHeartbeats 4000000
theorem s3_after {w w' : World} {a b c : Addr} {x y z : Value} (f : Fr w w') (h : w.cell? a = some x ∧ w.cell? b = some y ∧ w.cell? c = some z) : w'.cell? a = some x ∧ w'.cell? b = some y ∧ w'.cell? c = some z :=
  ⟨(Below.cell f (World.block_lt_of_cell? _ _ h.1)).trans h.1, (Below.cell f (World.block_lt_of_cell? _ _ h.2.1)).trans h.2.1, (Below.cell f (World.block_lt_of_cell? _ _ h.2.2)).trans h.2.2⟩
theorem walk (p0 q0 : Value) (L0 : List (List TK.Pr)) (U0 : List (List Int)) (a1 : ByteArray) (a2 : ByteArray) (a3 : ByteArray) (w : World) (h0 : IsT w p0 q0 L0 U0) (b0 : BT L0 U0) (b1 : a1.size ≤ 140737488351232) (b2 : a2.size ≤ 140737488351232) (b3 : a3.size ≤ 140737488351232) :
    Calls Try.prog 11 #[.agg #[p0, q0], .string a1, .string a2, .string a3] w fun e w' => e = .returned (.bool true) ∧ Fr w w' := by
  have hbt := b0
  have hL := b0.l; have hR := b0.r; have hS := b0.s; have hU := b0.u; have hUr := b0.ur
  obtain ⟨aT, dT, rfl⟩ := h0.l.slice
  obtain ⟨eT, hT, rfl⟩ := h0.u.slice
  obtain ⟨nT, NT⟩ : ∃ n, L0.length = n := ⟨_, rfl⟩
  obtain ⟨mT, MT⟩ : ∃ n, U0.length = n := ⟨_, rfl⟩
  rw [NT, MT] at h0 ⊢
  have VT := hideP (TV.new h0)
  have HF : Hid (Fr w (w.alloc (.cells #[.slice aT nT dT, .slice eT mT hT] 25))) := hideP ((Fr.refl w).alloc _)
  have HBt := hideP hbt
  clear h0 b0 hbt
  by_cases hc : TK.chk L0 U0 = 0
  · obtain ⟨f1, f2, f3, f4⟩ := TK.chk_facts hc
    obtain ⟨R1, hR1⟩ : ∃ r, TK.rng a1 a3 L0.flatten = r := ⟨_, rfl⟩
    obtain ⟨nP, NP⟩ : ∃ n, R1.length = n := ⟨_, rfl⟩
    have hl : nP ≤ 64 := by
      have := List.length_filter_le (TK.btw a1 a3) L0.flatten
      have e : (L0.flatten.filter (TK.btw a1 a3)).length = nP := by rw [← NP, ← hR1]; rfl
      omega
    have HMem := hideP (show ∀ p ∈ R1, (TK.findA p.k L0 U0 = ((p.n, true), 0)) ∧ p.k.size ≤ 40 ∧ TK.lt p.k a1 = false ∧ TK.lt a3 p.k = false by
      intro p hp
      rw [← hR1] at hp
      obtain ⟨m1, m2, m3⟩ := TK.rng_mem hp
      exact ⟨TK.find_mem hc m1, f3 p m1, m2, m3⟩)
    have HF1 := hideP f1
    have HR1 := hideP hR1
    have HNP := hideP NP
    have C0 := hideP hc
    clear hc hR1 NP NT MT hL hR hS hU hUr f1 f2 f3 f4
    go_enter Try.func11, Try.ntmps11
    have kT0 := VT.out.b.cell 0 (u := .slice aT nT dT) rfl
    have kT1 := VT.out.b.cell 1 (u := .slice eT mT hT) rfl
    have c21 := range_ok a1 a3 VT.out.s C0.out
    rw [HR1.out, HNP.out] at c21
    go_wp2_with fail
    refine c21.mono ?_
    rintro _ w21 ⟨⟨aP, dP, rfl, oP⟩, f21⟩
    clear c21
    clear kT0 kT1
    replace VT := hideP (VT.out.fr f21)
    replace HF := hideP (HF.out.trans f21)
    have LP := hideP oP
    clear oP f21
    have c22 := treeBegun_any w21
    go_wp2_with fail
    refine c22.mono ?_
    rintro _ w22 ⟨rfl, f22⟩
    clear c22
    replace VT := hideP (VT.out.fr f22)
    replace LP := hideP (LP.out.fr f22)
    replace HF := hideP (HF.out.trans f22)
    clear f22
    go_wp2_with fail
    go_loopw [11, 12, 13, 14] (fun iv _ _ _ wr => ∃ i : Nat, iv = .int .i64 i ∧ i ≤ nP ∧ Fr w22 wr) (fun iv _ _ _ _ => nP - (intOf iv).toNat)
    case atStart => exact ⟨0, rfl, Nat.zero_le _, Fr.refl _⟩
    case round =>
      obtain ⟨i, rfl, hi, hfr⟩ := hrel
      have VT2 := hideP (VT.out.fr hfr)
      have kT0 := VT2.out.b.cell 0 (u := .slice aT nT dT) rfl
      have kT1 := VT2.out.b.cell 1 (u := .slice eT mT hT) rfl
      by_cases hlt : i < nP
      · have hltR : i < R1.length := by rw [HNP.out]; exact hlt
        have hlt' : (i : Int) < (nP : Int) := by omega
        obtain ⟨xa, xc, xe, _, xat⟩ := LP.out
        simp only [Value.slice.injEq] at xe
        obtain ⟨rfl, hxn, rfl⟩ := xe
        obtain ⟨gb, go, rfl, hgb, hat⟩ : ∃ b o, aP = some ⟨b, o, none⟩ ∧ b < w22.heap.size ∧ At cdPr w22 b o R1 := by
          rcases xat with h | h
          · subst h; simp at hltR
          · exact h
        obtain ⟨c0, c1⟩ := hat.p2 i hltR
        have hm := HMem.out _ (List.getElem_mem hltR)
        generalize R1[i] = x at *
        obtain ⟨xk, xn⟩ := x
        simp only at c0 c1 hm
        obtain ⟨m1, m2, m3, m4⟩ := hm
        have HC01 := hideP (show _ ∧ _ from ⟨c0, c1⟩)
        have d0 := (Below.cell hfr (World.block_lt_of_cell? _ _ c0)).trans c0
        have d1 := (Below.cell hfr (World.block_lt_of_cell? _ _ c1)).trans c1
        have HFd := hideP (fun W (f : Fr wr W) => by
          have c := find_bt xk (VT2.out.s.fr f) HBt.out (by omega)
          rw [m1] at c
          dsimp only at c
          exact c)
        have HS := hideP (show _ ∧ _ ∧ _ from ⟨kT0, kT1, d0⟩)
        have HFr := hideP hfr
        have hz : Fr wr wr.drew := Fr.drew (Fr.refl wr)
        have b1 : Op.bytesLess xk.toList a1.toList = false := m3
        have m5 : TK.lt xk a3 = true ∨ xk = a3 := by
          cases e : TK.lt xk a3 with
          | true => exact .inl rfl
          | false => exact .inr (TK.lt_tot e m4)
        clear hat xat hxn c0 c1 m1 m3 m4 hfr hgb
        go_wp2_with fail
        go_region_held3 (fun W => W.cell? ⟨w.heap.size, 0, none⟩ = some (.slice aT nT dT) ∧ W.cell? ⟨w.heap.size, 1, none⟩ = some (.slice eT mT hT) ∧ W.cell? ⟨gb, go + i * 2, none⟩ = some (.string xk)) (first | exact HS.out | exact s3_after hz HS.out | exact s3_after hf9 HS.out) (first
          | (go_at_call 15; refine (HFd.out _ hz).mono ?_; rintro _ w3 ⟨rfl, f3⟩; have hf9 := hz.trans f3; clear f3))
        all_goals (
          have F9 := hideP (HFr.out.trans hf9)
          clear hf9 hz HS kT0 kT1 d0 d1
          have d0 := (Below.cell F9.out (World.block_lt_of_cell? _ _ HC01.out.1)).trans HC01.out.1
          have d1 := (Below.cell F9.out (World.block_lt_of_cell? _ _ HC01.out.2)).trans HC01.out.2
          rcases m5 with m5 | rfl)
        all_goals first
          | (have b2 : Op.bytesLess xk.toList a3.toList = true := m5
             clear m5
             go_wp2_with fail
             go_roundw
             case rel => exact ⟨i + 1, by go_num, by omega, F9.out⟩
             case measure => simp [intOf]; omega)
          | (have b2 : (xk.toList == xk.toList) = true := by simp
             go_wp2_with fail
             go_roundw
             case rel => exact ⟨i + 1, by go_num, by omega, F9.out⟩
             case measure => simp [intOf]; omega)
      · obtain rfl : i = nP := by omega
        replace VT := hideP (VT.out.fr hfr)
        replace LP := hideP (LP.out.fr hfr)
        replace HF := hideP (HF.out.trans hfr)
        obtain ⟨i0, hi0, hz0, hz1, hz2⟩ := info_parts Try.infoPr
        obtain ⟨RA, hRA⟩ : ∃ r, TK.rng a1 a2 L0.flatten = r := ⟨_, rfl⟩
        obtain ⟨RB, hRB⟩ : ∃ r, TK.rng (TK.nx a2) a3 L0.flatten = r := ⟨_, rfl⟩
        obtain ⟨nA, NA⟩ : ∃ n, RA.length = n := ⟨_, rfl⟩
        obtain ⟨nB, NB⟩ : ∃ n, RB.length = n := ⟨_, rfl⟩
        have hbl : L0.flatten.length ≤ 64 := (TK.chk_facts C0.out).2.2.2
        have hla : nA ≤ 64 := by
          have := List.length_filter_le (TK.btw a1 a2) L0.flatten
          have e : (L0.flatten.filter (TK.btw a1 a2)).length = nA := by rw [← NA, ← hRA]; rfl
          omega
        have hlb : nB ≤ 64 := by
          have := List.length_filter_le (TK.btw (TK.nx a2) a3) L0.flatten
          have e : (L0.flatten.filter (TK.btw (TK.nx a2) a3)).length = nB := by rw [← NB, ← hRB]; rfl
          omega
        have HPt := hideP (fun (h1 : TK.lt a2 a1 = false) (h2 : TK.lt a3 a2 = false) => show RA ++ RB = R1 by rw [← hRA, ← hRB, ← HR1.out]; exact TK.rng_parts HF1.out h1 h2)
        have HRA := hideP hRA
        have HRB := hideP hRB
        have HNA := hideP NA
        have HNB := hideP NB
        have hcs : ((9223372036854775807 : Int) < (a2.size : Int) + 1) = False := by simp; omega
        clear hRA hRB NA NB hbl hfr HMem
        have kT0 := VT.out.b.cell 0 (u := .slice aT nT dT) rfl
        have kT1 := VT.out.b.cell 1 (u := .slice eT mT hT) rfl
        have c21 := range_ok a1 a2 VT.out.s C0.out
        rw [HRA.out, HNA.out] at c21
        go_wp2_with fail
        refine c21.mono ?_
        rintro _ w21 ⟨⟨aA, dA, rfl, oA⟩, f21⟩
        clear c21
        clear kT0 kT1
        replace VT := hideP (VT.out.fr f21)
        replace LP := hideP (LP.out.fr f21)
        replace HF := hideP (HF.out.trans f21)
        have LA := hideP oA
        clear oA f21
        have kT0 := VT.out.b.cell 0 (u := .slice aT nT dT) rfl
        have kT1 := VT.out.b.cell 1 (u := .slice eT mT hT) rfl
        have c22 := range_ok (TK.nx a2) a3 VT.out.s C0.out
        rw [HRB.out, HNB.out] at c22
        unfold TK.nx at c22
        go_wp2_with fail
        refine c22.mono ?_
        rintro _ w22 ⟨⟨aB, dB, rfl, oB⟩, f22⟩
        clear c22
        clear kT0 kT1
        replace VT := hideP (VT.out.fr f22)
        replace LP := hideP (LP.out.fr f22)
        replace LA := hideP (LA.out.fr f22)
        replace HF := hideP (HF.out.trans f22)
        have LB := hideP oB
        clear oB f22
        cases e1 : TK.lt a2 a1 with
        | true =>
          have b1 : Op.bytesLess a2.toList a1.toList = true := e1
          clear e1
          go_wp2_with fail
          go_ret
          exact ⟨rfl, HF.out⟩
        | false =>
          have b1 : Op.bytesLess a2.toList a1.toList = false := e1
          cases e2 : TK.lt a3 a2 with
          | true =>
            have b2 : Op.bytesLess a2.toList a3.toList = false := TK.lt_asym e2
            have b3 : (a2.toList == a3.toList) = false := TK.toList_ne (fun e => by rw [e, TK.lt_irr] at e2; cases e2)
            clear e1 e2
            go_wp2_with fail
            go_ret
            exact ⟨rfl, HF.out⟩
          | false =>
            have HP2 := hideP (HPt.out e1 e2)
            have m5 : Op.bytesLess a2.toList a3.toList = true ∨ (Op.bytesLess a2.toList a3.toList = false ∧ (a2.toList == a3.toList) = true) := by
              cases e : TK.lt a2 a3 with
              | true => exact .inl e
              | false => exact .inr ⟨e, by rw [TK.lt_tot e e2]; simp⟩
            clear e1 e2
            have HO0 := hideP (own_lit0 cdPr w22 38 w22.heap.size (Nat.le_refl _))
            have HF1' := hideP ((Fr.refl w22).alloc (.cells #[] 38))
            have HLA := hideP (LA.out.fr HF1'.out)
            rcases m5 with b2 | ⟨b2, b3⟩
            all_goals (
              go_wp2_with (at_builtin; refine wpList_append_Lg cdPr rfl _ _ 28 38 i0 _ 24 rfl Try.underlying28 hi0 hz0 hz1 hz2 rfl w22.heap.size _ 0 [] rfl HO0.out (.slice aA nA dA) RA rfl HLA.out ?c3 ?c4 ?c5 ?_)
              case c3 => unfold maxLen; rw [HNA.out]; omega
              case c4 => rw [HNA.out]; omega
              case c5 => exact HF1'.out.size
              intro v2 wB own2 gr2
              try simp only [List.nil_append, Nat.zero_add] at own2
              rw [HNA.out] at own2
              have FB := hideP (show Fr w22 wB from Below.grown HF1'.out gr2 HF1'.out.size (own_base HO0.out))
              have HO2 := hideP own2
              have HLB := hideP (LB.out.fr FB.out)
              clear own2 gr2
              go_wp2_with (at_builtin; refine wpList_append_Lg cdPr rfl _ _ 28 38 i0 _ 24 rfl Try.underlying28 hi0 hz0 hz1 hz2 rfl w22.heap.size _ nA RA rfl HO2.out (.slice aB nB dB) RB rfl HLB.out ?c3 ?c4 ?c5 ?_)
              case c3 => unfold maxLen; rw [HNB.out]; omega
              case c4 => rw [HNB.out]; omega
              case c5 => exact FB.out.size
              intro v3 wC own3 gr3
              have FC := hideP (show Fr w22 wC from Below.grown FB.out gr3 FB.out.size (own_base HO2.out))
              rw [HP2.out] at own3
              have hNP : nA + RB.length = R1.length := by rw [← HP2.out, List.length_append, HNA.out]
              rw [hNP] at own3
              have HO3 := hideP (isL_own own3)
              have HC := hideP (samePairs_eq _ _ R1 wC HO3.out (LP.out.fr FC.out) (by rw [HNP.out]; omega))
              clear own3 gr3 hNP
              go_wp2_with fail
              refine HC.out.mono ?_
              rintro _ w9 ⟨rfl, f9⟩
              go_wp2_with fail
              go_ret
              exact ⟨rfl, HF.out.trans (FC.out.trans f9)⟩)
  · obtain ⟨z, hz⟩ : ∃ z, TK.chk L0 U0 = z := ⟨_, rfl⟩
    have g1 : ((z : Int) != 0) = true := by rw [← hz]; simp; omega
    have g2 : ¬ ((z : Int) = 0) := by rw [← hz]; omega
    have g3 : ((z : Int) == 0) = false := by rw [← hz]; simp; omega
    have HI := hideP hc
    have HZ := hideP hz
    clear hc hz NT MT hL hR hS hU hUr
    go_enter Try.func11, Try.ntmps11
    have kT0 := VT.out.b.cell 0 (u := .slice aT nT dT) rfl
    have kT1 := VT.out.b.cell 1 (u := .slice eT mT hT) rfl
    have c21 := range_err a1 a3 VT.out.s HBt.out HI.out
    rw [HZ.out] at c21
    go_wp2_with fail
    refine c21.mono ?_
    rintro _ w21 ⟨rfl, f21⟩
    clear c21
    clear kT0 kT1
    replace VT := hideP (VT.out.fr f21)
    replace HF := hideP (HF.out.trans f21)
    clear f21
    have c22 := treeBegun_any w21
    go_wp2_with fail
    refine c22.mono ?_
    rintro _ w22 ⟨rfl, f22⟩
    clear c22
    replace VT := hideP (VT.out.fr f22)
    replace HF := hideP (HF.out.trans f22)
    clear f22
    go_wp2_with fail
    go_ret
    exact ⟨rfl, HF.out⟩


set_option maxRecDepth 100000 in
theorem lifted (os : Go.Os) (started : os.Started) (H : Type) (enc : TypeId × Value → H) :
    ReturnsInHanded {} Try.checked os 11 .any (Rows.treeSpanSpec.pre6 enc Try.prog Try.f11 Rows.treeSpanRow.domain false) (Rows.treeSpanSpec.post enc Try.prog Try.f11 false true false false) := by
  refine returnsInHanded_of_change_sized (C := Try.checked) own started (by kernel_rfl) Try.func11
    (ChangeSpec.witness6 (enc := enc) (C := Try.checked) false ⟨#[], #[.agg #[.slice none 0 0, .slice none 0 0], .string ByteArray.empty, .string ByteArray.empty, .string ByteArray.empty], []⟩ 8 (by kernel_rfl) (by kernel_rfl) (by kernel_rfl) (by kernel_rfl)) ?_
  intro W base args ds gs before hval0 hW hcnd hsz0 _
  have hval : ∀ (j : Nat) t v, Try.f11.params[j]? = some t → args[j]? = some v → Value.okWide Try.prog W .any base t v := hval0
  have hsz : (DataW.weightsEach Try.prog (Try.f11.params.toList ++ Rows.treeSpanSpec.plain.varTypes Try.prog) (ds ++ gs)).all (· ≤ reachBytes) = true := hsz0
  have hW' := hW
  obtain ⟨p, q, hA0, hV, rfl, hfz, hnd⟩ := hW
  have hA : DataW.TrodAll enc Try.prog W 0 (fun _ => true) true Try.f11.params.toList args.toList ds p := hA0
  rw [Try.params11] at hA hval hsz
  obtain ⟨v0, vs0, d0, ds0, p0, q0, hargs, rfl, rfl, h0, r0⟩ := trodAll_cons hA
  obtain ⟨v1, vs1, d1, ds1, p1, q1, rfl, rfl, rfl, h1, r1⟩ := trodAll_cons r0
  obtain ⟨v2, vs2, d2, ds2, p2, q2, rfl, rfl, rfl, h2, r2⟩ := trodAll_cons r1
  obtain ⟨v3, vs3, d3, ds3, p3, q3, rfl, rfl, rfl, h3, r3⟩ := trodAll_cons r2
  obtain ⟨rfl, rfl, rfl⟩ := trodAll_nil r3
  obtain rfl : args = #[v0, v1, v2, v3] := by cases args; simp_all
  obtain ⟨rfl, rfl⟩ := trodVars_none hV
  obtain ⟨x0, y0, l0, u0, rfl, rw0, b0⟩ := open_tree (hval 0 25 v0 rfl rfl) h0 (sized_at hsz (j := 0) rfl rfl)
  obtain ⟨a1, rfl, rfl, rfl, w1⟩ := open_string Try.underlying9 (hval 1 9 v1 rfl rfl) h1
  obtain ⟨a2, rfl, rfl, rfl, w2⟩ := open_string Try.underlying9 (hval 2 9 v2 rfl rfl) h2
  obtain ⟨a3, rfl, rfl, rfl, w3⟩ := open_string Try.underlying9 (hval 3 9 v3 rfl rfl) h3
  have b1 : a1.size ≤ 140737488351232 := by
    have h := sized_string hsz (j := 1) (t := 9) rfl rfl
    simpa [reachBytes] using h
  have b2 : a2.size ≤ 140737488351232 := by
    have h := sized_string hsz (j := 2) (t := 9) rfl rfl
    simpa [reachBytes] using h
  have b3 : a3.size ≤ 140737488351232 := by
    have h := sized_string hsz (j := 3) (t := 9) rfl rfl
    simpa [reachBytes] using h
  clear hA0 hval0 hsz0
  refine (walk x0 y0 l0 u0 a1 a2 a3 W rw0 b0 b1 b2 b3).mono fun e W' ⟨he, bel⟩ => ?_
  subst he
  exact ⟨_, rfl, _, _, _, [], _, [], hW', trodAll_mk1 (shut_bool Try.underlying4 _), (trodAll_cons_mk (shut_tree h0 bel) (trodAll_cons_mk (shut_string Try.underlying9 w1) (trodAll_cons_mk (shut_string Try.underlying9 w2) (trodAll_cons_mk (shut_string Try.underlying9 w3) trodAll_mk0)))), rfl, Below.frame bel _, fun h => by cases h⟩

theorem over : Rows.treeSpanRow.holds Try.pinned (OpenSpec.ofChange Rows.treeSpanSpec) :=
  OpenClaim.holds_of_wide 11 Try.f11 rfl rfl rfl rfl rfl rfl rfl ⟨rfl, rfl, rfl, rfl, rfl⟩ rfl rfl rfl rfl rfl (by kernel_rfl) Try.func11 (by kernel_rfl)
    (of_decide_eq_true (by kernel_rfl)) (by unfold Func.isWrapper; first | (rw [if_pos (by decide +kernel)]; kernel_rfl) | (rw [if_neg (by decide +kernel)]; exact ⟨rfl, rfl⟩))
    (fun os started H enc _ => lifted os started H enc)

end Go.Proofs.Ytmemapfboefngaa.treeSpanProof
namespace Go.Proofs.Ytmemapfboefngaa
theorem treeSpan_holds : Rows.TreeSpanSaid := treeSpanProof.over
#print axioms treeSpan_holds
end Go.Proofs.Ytmemapfboefngaa
