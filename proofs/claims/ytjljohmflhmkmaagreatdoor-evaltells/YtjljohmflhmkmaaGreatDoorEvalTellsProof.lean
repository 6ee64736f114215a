/-
  Proved: for every expression, names and values EvalTells answers true: Eval answers just what the document says, errors too. No condition but the form's own reach.
-/
import Derived.Test.YtjljohmflhmkmaaGreatDoorGpL
import Derived.Test.YtjljohmflhmkmaaGreatDoorEwG
import Derived.Test.YtjljohmflhmkmaaGreatDoorGpN
namespace Go.Proofs.YtjljohmflhmkmaaGreatDoor.evalTellsProof
open Go.ChangeShapes Go.WideShapes Go.ChangeAt Go.RowKit
open Go.ChangeMaps (open_string shut_string)
set_option linter.unusedVariables false
set_option linter.unusedSimpArgs false
set_option maxRecDepth 100000
set_option maxHeartbeats 2000000
theorem walk (v0 : Value) (e : List EX.Nd) (v1 : Value) (cs : List ByteArray) (v2 : Value) (l : List VM.Vl) (w : World) (hT : Tt w)
    (h0 : IsL cdN w v0 e) (k0 : ∀ y ∈ e, EV.okN y ∧ (-9223372036854775808 ≤ y.op ∧ y.op ≤ 9223372036854775807) ∧ (-9223372036854775808 ≤ y.kids ∧ y.kids ≤ 9223372036854775807)) (b0 : e.length * 64 ≤ 140737488351232)
    (h1 : IsL cdB w v1 cs) (k1 : ∀ y ∈ cs, y.size ≤ 140737488351232) (b1 : cs.length * 16 ≤ 140737488351232)
    (h2 : IsL cdV w v2 l) (k2 : ∀ y ∈ l, EV.gd y ∧ y.s.size ≤ 140737488351232) (b2 : l.length * 32 ≤ 140737488351232) :
    Calls Tryz.prog 3 #[v0, v1, v2] w fun e w' => e = .returned (.bool true) ∧ Fr w w' := by
  have HE := hideP (eval_any v0 v1 v2 e cs l w h0 h1 h2 (fun n hn => (k0 n hn).1.1) (by omega) (fun c hc => by have := k1 c hc; omega) hT.tn hT.tb (fun n hn => (k0 n hn).1.2) (fun x hx => (k2 x hx).1))
  have HD := hideP (fun W (g : Fr w W) => evalOf_any v0 v1 v2 e cs l W (h0.fr g) (h1.fr g) (h2.fr g) (fun n hn => (k0 n hn).1.1) (by omega) (by omega) (by omega) (fun n hn => (k0 n hn).1.2) (fun x hx => (k2 x hx).1))
  have HBg := hideP (fun W (g : Fr w W) => evalBegun_any W (hT.tn.fr g) (hT.tb.fr g))
  obtain ⟨a1, n1, c1, rfl⟩ : ∃ a n c, v0 = .slice a n c := by obtain ⟨a, c, h, _⟩ := h0; exact ⟨a, _, c, h⟩
  obtain ⟨a2, n2, c2, rfl⟩ : ∃ a n c, v1 = .slice a n c := by obtain ⟨a, c, h, _⟩ := h1; exact ⟨a, _, c, h⟩
  obtain ⟨a3, n3, c3, rfl⟩ : ∃ a n c, v2 = .slice a n c := by obtain ⟨a, c, h, _⟩ := h2; exact ⟨a, _, c, h⟩
  clear h0 h1 h2 k0 k1 k2 b0 b1 b2 hT
  obtain ⟨rk, rn, rs, rc, hR⟩ := exV_form (EV.ev e cs l)
  rw [hR] at HE HD
  clear hR
  go_enter Tryz.func3, Tryz.ntmps3
  go_wp2_with fail
  refine HE.out.mono ?_
  rintro _ w1 ⟨rfl, f1⟩
  have HB1 := hideP (Blk.new w1 #[.int .i64 rk, .int .i64 rn, .string rs] 26)
  have F1 := hideP (f1.alloc (.cells #[.int .i64 rk, .int .i64 rn, .string rs] 26))
  clear f1
  go_wp2_with fail
  generalize w1.alloc (.cells #[.int .i64 rk, .int .i64 rn, .string rs] 26) = w1' at *
  generalize w1.heap.size = B1 at *
  refine (HD.out _ F1.out).mono ?_
  rintro _ w2 ⟨rfl, f2⟩
  have HB2 := hideP (Blk.new w2 #[.int .i64 rk, .int .i64 rn, .string rs] 26)
  have f2' := f2.alloc (.cells #[.int .i64 rk, .int .i64 rn, .string rs] 26)
  replace HB1 := hideP (HB1.out.fr f2')
  have F2 := hideP (F1.out.trans f2')
  clear f2 f2'
  go_wp2_with fail
  generalize w2.alloc (.cells #[.int .i64 rk, .int .i64 rn, .string rs] 26) = w2' at *
  generalize w2.heap.size = B2 at *
  refine (HBg.out _ F2.out).mono ?_
  rintro _ w3 ⟨rfl, f3⟩
  have HB3 := hideP (HB1.out.fr f3)
  have HB4 := hideP (HB2.out.fr f3)
  have F3 := hideP (F2.out.trans f3)
  clear f3
  have p0 := HB3.out.cell 0 rfl
  have p1 := HB3.out.cell 1 rfl
  have p2 := HB3.out.cell 2 rfl
  have s0 := HB4.out.cell 0 rfl
  have s1 := HB4.out.cell 1 rfl
  have s2 := HB4.out.cell 2 rfl
  go_wp2_with fail
  go_ret
  exact ⟨rfl, F3.out⟩

set_option maxRecDepth 100000 in
theorem lifted (os : Go.Os) (started : os.Started) (H : Type) (enc : TypeId × Value → H) :
    ReturnsInHanded {} Tryz.checked os 3 .any (fun w args => (Rows.evalTellsSpec.pre enc Tryz.prog Tryz.f3 [] false w args ∧ laidMetH Tryz.prog Rows.evalTellsRow.laid w) ∧ sizedMet enc Tryz.prog Tryz.f3 (OpenSpec.ofChange Rows.evalTellsSpec) false w args)
      (Rows.evalTellsSpec.post enc Tryz.prog Tryz.f3 false true false false) := by
  refine returnsInHanded_of_change_and (C := Tryz.checked) (X := fun w _ => laidMetH Tryz.prog Rows.evalTellsRow.laid w) (fun _ _ _ hh h => h.of_heap hh) own started (by kernel_rfl) Tryz.func3
    (ChangeSpec.witness_shaped (enc := enc) (C := Tryz.checked) (os := os) (X := fun w _ => laidMetH Tryz.prog Rows.evalTellsRow.laid w) false (World.laidAll Tryz.prog os Rows.evalTellsRow.laid) #[.slice none 0 0, .slice none 0 0, .slice none 0 0] 8 (World.laidAll_os _ _ _)
      (World.shaped_of_ZipB (by kernel_rfl) (by kernel_rfl)) (by kernel_rfl) (by kernel_rfl) (by kernel_rfl)
      (by rw [MakeChecks.laidMetH_plain _ _ _ (by kernel_rfl)]; exact laidMet_laidAll _ (by kernel_rfl) (by kernel_rfl))) ?_
  intro W base args ds gs before hval0 hW hcnd hsz0 hL _
  have hT : Tt W := tabs_of_laid hL
  have hval : ∀ (j : Nat) t v, Tryz.f3.params[j]? = some t → args[j]? = some v → Value.okWide Tryz.prog W .any base t v := hval0
  have hsz : (DataW.weightsEach Tryz.prog (Tryz.f3.params.toList ++ Rows.evalTellsSpec.plain.varTypes Tryz.prog) (ds ++ gs)).all (· ≤ reachBytes) = true := hsz0
  have hW' := hW
  obtain ⟨p, q, hA0, hV, rfl, hfz, hnd⟩ := hW
  have hA : DataW.TrodAll enc Tryz.prog W 0 (fun _ => true) true Tryz.f3.params.toList args.toList ds p := hA0
  rw [Tryz.params3] at hA hval hsz
  obtain ⟨v0, vs0, d0, ds0, p0, q0, hargs, rfl, rfl, h0, r0⟩ := trodAll_cons hA
  obtain ⟨v1, vs1, d1, ds1, p1, q1, rfl, rfl, rfl, h1, r1⟩ := trodAll_cons r0
  obtain ⟨v2, vs2, d2, ds2, p2, q2, rfl, rfl, rfl, h2, r2⟩ := trodAll_cons r1
  obtain ⟨rfl, rfl, rfl⟩ := trodAll_nil r2
  obtain rfl : args = #[v0, v1, v2] := by cases args; simp_all
  obtain ⟨rfl, rfl⟩ := trodVars_none hV
  obtain ⟨l0, rw0, ok0, b0⟩ := open_nds (hval 0 22 v0 rfl rfl) h0 (sized_at hsz (j := 0) rfl rfl)
  obtain ⟨l1, rw1, ok1, b1⟩ := open_cls (hval 1 23 v1 rfl rfl) h1 (sized_at hsz (j := 1) rfl rfl)
  obtain ⟨l2, rw2, ok2, b2⟩ := open_vrw (hval 2 24 v2 rfl rfl) h2 (sized_at hsz (j := 2) rfl rfl)
  clear hA0 hval0 hsz0
  refine (walk v0 l0 v1 l1 v2 l2 W hT rw0 ok0 b0 rw1 ok1 b1 rw2 ok2 b2).mono fun e W' ⟨he, bel⟩ => ?_
  subst he
  exact ⟨_, rfl, _, _, _, [], _, [], hW', trodAll_mk1 (shut_bool Tryz.underlying4 _), (trodAll_cons_mk (shut_nds h0 bel) (trodAll_cons_mk (shut_cls h1 bel) (trodAll_cons_mk (shut_vrw h2 bel) trodAll_mk0))), rfl, Below.frame bel _, fun h => by cases h⟩

theorem over : Rows.evalTellsRow.holds Tryz.pinned (OpenSpec.ofChange Rows.evalTellsSpec) :=
  OpenClaim.holds_of_wide 3 Tryz.f3 rfl rfl rfl rfl rfl rfl rfl ⟨rfl, rfl, rfl, rfl, rfl⟩ rfl rfl rfl rfl rfl (by kernel_rfl) Tryz.func3 (by kernel_rfl)
    (of_decide_eq_true (by kernel_rfl)) (by unfold Func.isWrapper; first | (rw [if_pos (by decide +kernel)]; kernel_rfl) | (rw [if_neg (by decide +kernel)]; exact ⟨rfl, rfl⟩))
    (fun os started H enc _ => lifted os started H enc)

theorem card : Rows.EvalTellsCardSaid :=
  Claim7.holds_tied_plain_at .later [] [.data, .data, .data, .data, .data, .data, .pinned] true (true, "96cea82cc36b5cf1a3380f7b37f60b58bdddc176841e44ac2e27ea7ff724803d") false
    over (fun _ h => by cases h) (by kernel_rfl) (fun _ h => by cases h) evalTells_row_tie rfl ⟨rfl, rfl⟩ (by kernel_rfl) rfl
    (fun f fn hf hfn => by
      obtain rfl : f = 3 := Option.some.inj ((show Tryz.prog.funcNamed "starling/starlinglaw.EvalTells" = some 3 by kernel_rfl).symm.trans hf) |>.symm
      obtain rfl : fn = Tryz.f3 := (Option.some.inj (Tryz.func3.symm.trans hfn)).symm
      exact ⟨by kernel_rfl, fun j t ht => by
        rw [Tryz.params3] at ht
        have hm : t ∈ [22, 23, 24] := by simpa using Array.mem_of_getElem? ht
        have hall : ([22, 23, 24].all fun u => !Tryz.prog.wantsStandIn u) = true := by kernel_rfl
        exact (show Tryz.prog.wantsStandIn t = false by simpa using List.all_eq_true.1 hall t hm)⟩)
    (by kernel_rfl)

end Go.Proofs.YtjljohmflhmkmaaGreatDoor.evalTellsProof
namespace Go.Proofs.YtjljohmflhmkmaaGreatDoor
theorem evalTells_holds : Rows.EvalTellsCardSaid := evalTellsProof.card
#print axioms evalTells_holds
end Go.Proofs.YtjljohmflhmkmaaGreatDoor
