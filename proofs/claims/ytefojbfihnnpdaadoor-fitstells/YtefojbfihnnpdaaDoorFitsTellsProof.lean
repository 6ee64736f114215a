/-
  Proved: for every table's form and every row FitsTells answers true: Fits answers just what the document says, errors too. No condition but the form's own reach.
-/
import Derived.Test.YtefojbfihnnpdaaDoorCtYf
import Derived.Test.YtefojbfihnnpdaaDoorOpenS
import Derived.Test.YtefojbfihnnpdaaDoorTabs
namespace Go.Proofs.YtefojbfihnnpdaaDoor.fitsTellsProof
open Go.ChangeShapes Go.WideShapes Go.ChangeAt Go.RowKit
open Go.ChangeMaps (open_string shut_string)
set_option linter.unusedVariables false
set_option linter.unusedSimpArgs false
set_option maxRecDepth 100000

set_option maxHeartbeats 2000000 in
theorem walk (u : Value) (s : CT.Sc) (v : Value) (r : List VM.Vl) (w : World) (hT : Tb w) (hu : IsL cdC w u s.c) (hw : WS [s]) (hb : s.c.length * 32 ≤ 140737488351232) (hv : IsL cdV w v r) (hr : r.length * 32 ≤ 140737488351232) :
    Calls Tryd.prog 6 #[.agg #[.int .i64 s.id, .string s.n, u], v] w fun e w' => e = .returned (.bool true) ∧ Fr w w' := by
  have hrow := isL_row hv
  have c1 := fun W (f : Fr w W) => fits_any s u v r W (hu.fr f) (hrow.fr f) hw (by omega)
  have c2 := fun W (f : Fr w W) => fitsOf_any s u v r W (hu.fr f) (hrow.fr f) hw (by omega)
  obtain ⟨ua, uc, rfl, _⟩ := hu
  obtain ⟨va, vc, rfl, _⟩ := hv
  have HB := hideP (Blk.new w #[.int .i64 s.id, .string s.n, .slice ua s.c.length uc] 39)
  have F0 := hideP ((Fr.refl w).alloc (.cells #[.int .i64 s.id, .string s.n, .slice ua s.c.length uc] 39))
  generalize CT.fits s r = z at c1 c2
  generalize s.id = id at *
  generalize s.n = nm at *
  have C1 := hideP c1
  have C2 := hideP c2
  clear c1 c2 hrow hw hT hb
  have hS : ∀ W, Fr (w.alloc (.cells #[.int .i64 id, .string nm, .slice ua s.c.length uc] 39)) W → W.cell? ⟨w.heap.size, 0, none⟩ = some (.int .i64 id) ∧ W.cell? ⟨w.heap.size, 1, none⟩ = some (.string nm) ∧ W.cell? ⟨w.heap.size, 2, none⟩ = some (.slice ua s.c.length uc) := fun W f => ⟨(HB.out.fr f).cell 0 rfl, (HB.out.fr f).cell 1 rfl, (HB.out.fr f).cell 2 rfl⟩
  have HS := hideP hS
  clear hS
  have HS0 := hideP (HS.out _ (Fr.refl _))
  go_enter Tryd.func6, Tryd.ntmps6
  go_wp2_with fail
  have hz := hideP (Fr.drew (Fr.refl (w.alloc (.cells #[.int .i64 id, .string nm, .slice ua s.c.length uc] 39))))
  generalize w.alloc (.cells #[.int .i64 id, .string nm, .slice ua s.c.length uc] 39) = W0 at *
  go_region_held3 (fun W => W.cell? ⟨w.heap.size, 0, none⟩ = some (.int .i64 id) ∧ W.cell? ⟨w.heap.size, 1, none⟩ = some (.string nm) ∧ W.cell? ⟨w.heap.size, 2, none⟩ = some (.slice ua s.c.length uc)) (first | exact HS0.out | exact HS.out _ hz.out) (first
    | (go_at_call 13; refine (catalogBegun_any _).mono ?_; rintro _ w1 ⟨rfl, f1⟩; replace hz := hideP (hz.out.trans f1); clear f1)
    | (go_at_call 17; refine (C1.out _ (F0.out.trans hz.out)).mono ?_; rintro _ w1 ⟨rfl, f1⟩; replace hz := hideP (hz.out.trans f1); clear f1)
    | (go_at_call 18; refine (C2.out _ (F0.out.trans hz.out)).mono ?_; rintro _ w1 ⟨rfl, f1⟩; replace hz := hideP (hz.out.trans f1); clear f1))
  all_goals go_wp2_with fail
  all_goals go_ret
  all_goals exact ⟨by simp, F0.out.trans hz.out⟩

set_option maxRecDepth 100000 in
theorem lifted (os : Go.Os) (started : os.Started) (H : Type) (enc : TypeId × Value → H) :
    ReturnsInHanded {} Tryd.checked os 6 .any (fun w args => (Rows.fitsTellsSpec.pre enc Tryd.prog Tryd.f6 [] false w args ∧ laidMetH Tryd.prog Rows.fitsTellsRow.laid w) ∧ sizedMet enc Tryd.prog Tryd.f6 (OpenSpec.ofChange Rows.fitsTellsSpec) false w args)
      (Rows.fitsTellsSpec.post enc Tryd.prog Tryd.f6 false true false false) := by
  refine returnsInHanded_of_change_and (C := Tryd.checked) (X := fun w _ => laidMetH Tryd.prog Rows.fitsTellsRow.laid w) (fun _ _ _ hh h => h.of_heap hh) own started (by kernel_rfl) Tryd.func6
    (ChangeSpec.witness_shaped (enc := enc) (C := Tryd.checked) (os := os) (X := fun w _ => laidMetH Tryd.prog Rows.fitsTellsRow.laid w) false (World.laidAll Tryd.prog os Rows.fitsTellsRow.laid) #[.agg #[.int .i64 0, .string ByteArray.empty, .slice none 0 0], .slice none 0 0] 8 (World.laidAll_os _ _ _)
      (World.shaped_of_ZipB (by kernel_rfl) (by kernel_rfl)) (by kernel_rfl) (by kernel_rfl) (by kernel_rfl)
      (by rw [MakeChecks.laidMetH_plain _ _ _ (by kernel_rfl)]; exact laidMet_laidAll _ (by kernel_rfl) (by kernel_rfl))) ?_
  intro W base args ds gs before hval0 hW hcnd hsz0 hL _
  have hT : Tb W := tabs_of_laid hL
  have hval : ∀ (j : Nat) t v, Tryd.f6.params[j]? = some t → args[j]? = some v → Value.okWide Tryd.prog W .any base t v := hval0
  have hsz : (DataW.weightsEach Tryd.prog (Tryd.f6.params.toList ++ Rows.fitsTellsSpec.plain.varTypes Tryd.prog) (ds ++ gs)).all (· ≤ reachBytes) = true := hsz0
  have hW' := hW
  obtain ⟨p, q, hA0, hV, rfl, hfz, hnd⟩ := hW
  have hA : DataW.TrodAll enc Tryd.prog W 0 (fun _ => true) true Tryd.f6.params.toList args.toList ds p := hA0
  rw [Tryd.params6] at hA hval hsz
  obtain ⟨v0, vs0, d0, ds0, p0, q0, hargs, rfl, rfl, h0, r0⟩ := trodAll_cons hA
  obtain ⟨v1, vs1, d1, ds1, p1, q1, rfl, rfl, rfl, h1, r1⟩ := trodAll_cons r0
  obtain ⟨rfl, rfl, rfl⟩ := trodAll_nil r1
  obtain rfl : args = #[v0, v1] := by cases args; simp_all
  obtain ⟨rfl, rfl⟩ := trodVars_none hV
  obtain ⟨u0, s0, rfl, rw0, ws0, b0⟩ := open_sch (hval 0 39 v0 rfl rfl) h0 (sized_at hsz (j := 0) rfl rfl)
  obtain ⟨l1, rw1, b1⟩ := open_vrow (hval 1 40 v1 rfl rfl) h1 (sized_at hsz (j := 1) rfl rfl)
  clear hA0 hval0 hsz0
  refine (walk u0 s0 v1 l1 W hT rw0 ws0 b0 rw1 b1).mono fun e W' ⟨he, bel⟩ => ?_
  subst he
  exact ⟨_, rfl, _, _, _, [], _, [], hW', trodAll_mk1 (shut_bool Tryd.underlying4 _), (trodAll_cons_mk (shut_sch h0 bel) (trodAll_cons_mk (shut_vrow h1 bel) trodAll_mk0)), rfl, Below.frame bel _, fun h => by cases h⟩

theorem over : Rows.fitsTellsRow.holds Tryd.pinned (OpenSpec.ofChange Rows.fitsTellsSpec) :=
  OpenClaim.holds_of_wide 6 Tryd.f6 rfl rfl rfl rfl rfl rfl rfl ⟨rfl, rfl, rfl, rfl, rfl⟩ rfl rfl rfl rfl rfl (by kernel_rfl) Tryd.func6 (by kernel_rfl)
    (of_decide_eq_true (by kernel_rfl)) (by unfold Func.isWrapper; first | (rw [if_pos (by decide +kernel)]; kernel_rfl) | (rw [if_neg (by decide +kernel)]; exact ⟨rfl, rfl⟩))
    (fun os started H enc _ => lifted os started H enc)

theorem card : Rows.FitsTellsCardSaid :=
  Claim7.holds_tied_plain_at .later [] [.data, .data, .data, .data] true (true, "8d2211ed6a6007b92743360380d9896df7fc12362be6d37a3ec93f2599f819d1") false
    over (fun _ h => by cases h) (by kernel_rfl) (fun _ h => by cases h) fitsTells_row_tie rfl ⟨rfl, rfl⟩ (by kernel_rfl) rfl
    (fun f fn hf hfn => by
      obtain rfl : f = 6 := Option.some.inj ((show Tryd.prog.funcNamed "starling/starlinglaw.FitsTells" = some 6 by kernel_rfl).symm.trans hf) |>.symm
      obtain rfl : fn = Tryd.f6 := (Option.some.inj (Tryd.func6.symm.trans hfn)).symm
      exact ⟨by kernel_rfl, fun j t ht => by
        rw [Tryd.params6] at ht
        have hm : t ∈ [39, 40] := by simpa using Array.mem_of_getElem? ht
        have hall : ([39, 40].all fun u => !Tryd.prog.wantsStandIn u) = true := by kernel_rfl
        exact (show Tryd.prog.wantsStandIn t = false by simpa using List.all_eq_true.1 hall t hm)⟩)
    (by kernel_rfl)

end Go.Proofs.YtefojbfihnnpdaaDoor.fitsTellsProof
namespace Go.Proofs.YtefojbfihnnpdaaDoor
theorem fitsTells_holds : Rows.FitsTellsCardSaid := fitsTellsProof.card
#print axioms fitsTells_holds
end Go.Proofs.YtefojbfihnnpdaaDoor
