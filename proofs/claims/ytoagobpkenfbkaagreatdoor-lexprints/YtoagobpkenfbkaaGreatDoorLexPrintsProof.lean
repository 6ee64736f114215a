/-
  Proved: for every list of tokens and every text LexPrints answers true: Print answers what the document's own PrintedOf does, and Reserved what the document's own list of words says. No condition but the form's own reach.
-/
import Derived.Test.YtoagobpkenfbkaaGreatDoorLzJ
import Derived.Test.YtoagobpkenfbkaaGreatDoorLzD
namespace Go.Proofs.YtoagobpkenfbkaaGreatDoor.lexPrintsProof
open Go.ChangeShapes Go.WideShapes Go.ChangeAt Go.RowKit
open Go.ChangeMaps (open_string shut_string)
set_option linter.unusedVariables false
set_option linter.unusedSimpArgs false
set_option maxRecDepth 100000

set_option maxHeartbeats 4000000 in
theorem core (v : Value) (s : ByteArray) (w : World) (hT : Tb w) (S : ByteArray) (c : Nat) (b : Bool)
    (c1 : Calls Tryz.prog 13 #[v] w fun r w' => r = .returned (.tuple #[.string S, .int .i64 c]) ∧ Fr w w')
    (c2 : ∀ W, Fr w W → Calls Tryz.prog 14 #[v] W fun r w' => r = .returned (.tuple #[.string S, .int .i64 c]) ∧ Fr W w')
    (c3 : ∀ W, Calls Tryz.prog 15 #[.string s] W fun r w' => r = .returned (.bool b) ∧ w' = W)
    (c4 : ∀ W, Calls Tryz.prog 16 #[.string s] W fun r w' => r = .returned (.bool b) ∧ Fr W w') :
    Calls Tryz.prog 4 #[v, .string s] w fun r w' => r = .returned (.bool true) ∧ Fr w w' := by
  have HT : Hid _ := hT
  clear hT
  go_enter Tryz.func4, Tryz.ntmps4
  go_wp2_with fail
  refine c1.mono ?_
  rintro _ w1 ⟨rfl, f1⟩
  have c2' := c2 w1 f1
  have F1 : Hid (Fr w w1) := f1
  clear c1 c2 f1
  go_wp2_with fail
  refine c2'.mono ?_
  rintro _ w2 ⟨rfl, f2⟩
  have F2 : Hid (Fr w w2) := Fr.trans F1.out f2
  clear c2' f2 F1
  go_wp2_with fail
  refine (begun_any _ (HT.out.fr F2.out)).mono ?_
  rintro _ w3 ⟨rfl, f3⟩
  have F3 : Hid (Fr w w3) := Fr.trans F2.out f3
  clear f3 F2
  go_wp2_with fail
  refine (c3 _).mono ?_
  rintro _ w4 ⟨rfl, rfl⟩
  clear c3
  go_wp2_with fail
  refine (c4 _).mono ?_
  rintro _ w5 ⟨rfl, f5⟩
  have F5 : Hid (Fr w w5) := by first | exact Fr.trans F3.out f5 | exact Fr.trans (Fr.drew F3.out) f5
  clear c4 f5 F3
  cases b
  all_goals
    go_wp2_with fail
    go_ret
    exact ⟨rfl, F5.out⟩

theorem walk (v : Value) (l : List (Int × LX.Tk)) (s : ByteArray) (w : World) (hT : Tb w) (hv : IsTk w v l) (hw : WideT l) (hl : l.length * 40 ≤ 140737488351232) (hs : s.size ≤ 140737488351232) :
    Calls Tryz.prog 4 #[v, .string s] w fun r w' => r = .returned (.bool true) ∧ Fr w w' := by
  have c1 := print_any v l w hv (by omega) hw hT
  have c2 := fun W (f : Fr w W) => printedOf_any v l W (hv.fr f) (by omega) hw
  exact core v s w hT _ _ _ c1 c2 (fun W => reserved_any s W) (fun W => resWord_any s W (by omega))

set_option maxRecDepth 100000 in
theorem lifted (os : Go.Os) (started : os.Started) (H : Type) (enc : TypeId × Value → H) :
    ReturnsInHanded {} Tryz.checked os 4 .any (fun w args => (Rows.lexPrintsSpec.pre enc Tryz.prog Tryz.f4 [] false w args ∧ laidMetH Tryz.prog Rows.lexPrintsRow.laid w) ∧ sizedMet enc Tryz.prog Tryz.f4 (OpenSpec.ofChange Rows.lexPrintsSpec) false w args)
      (Rows.lexPrintsSpec.post enc Tryz.prog Tryz.f4 false true false false) := by
  refine returnsInHanded_of_change_and (C := Tryz.checked) (X := fun w _ => laidMetH Tryz.prog Rows.lexPrintsRow.laid w) (fun _ _ _ hh h => h.of_heap hh) own started (by kernel_rfl) Tryz.func4
    (ChangeSpec.witness_shaped (enc := enc) (C := Tryz.checked) (os := os) (X := fun w _ => laidMetH Tryz.prog Rows.lexPrintsRow.laid w) false (World.laidAll Tryz.prog os Rows.lexPrintsRow.laid) #[.slice none 0 0, .string ByteArray.empty] 8 (World.laidAll_os _ _ _)
      (World.shaped_of_ZipB (by kernel_rfl) (by kernel_rfl)) (by kernel_rfl) (by kernel_rfl) (by kernel_rfl)
      (by rw [MakeChecks.laidMetH_plain _ _ _ (by kernel_rfl)]; exact laidMet_laidAll _ (by kernel_rfl) (by kernel_rfl))) ?_
  intro W base args ds gs before hval0 hW hcnd hsz0 hL _
  have hT : Tb W := tabs_of_laid hL
  have hval : ∀ (j : Nat) t v, Tryz.f4.params[j]? = some t → args[j]? = some v → Value.okWide Tryz.prog W .any base t v := hval0
  have hsz : (DataW.weightsEach Tryz.prog (Tryz.f4.params.toList ++ Rows.lexPrintsSpec.plain.varTypes Tryz.prog) (ds ++ gs)).all (· ≤ reachBytes) = true := hsz0
  have hW' := hW
  obtain ⟨p, q, hA0, hV, rfl, hfz, hnd⟩ := hW
  have hA : DataW.TrodAll enc Tryz.prog W 0 (fun _ => true) true Tryz.f4.params.toList args.toList ds p := hA0
  rw [Tryz.params4] at hA hval hsz
  obtain ⟨v0, vs0, d0, ds0, p0, q0, hargs, rfl, rfl, h0, r0⟩ := trodAll_cons hA
  obtain ⟨v1, vs1, d1, ds1, p1, q1, rfl, rfl, rfl, h1, r1⟩ := trodAll_cons r0
  obtain ⟨rfl, rfl, rfl⟩ := trodAll_nil r1
  obtain rfl : args = #[v0, v1] := by cases args; simp_all
  obtain ⟨rfl, rfl⟩ := trodVars_none hV
  obtain ⟨l0, rw0, wd0, ln0, dd0⟩ := open_toks (hval 0 22 v0 rfl rfl) h0
  obtain ⟨a1, rfl, rfl, rfl, w1⟩ := open_string Tryz.underlying9 (hval 1 9 v1 rfl rfl) h1
  have b1 : a1.size ≤ 140737488351232 := by
    have h := sized_string hsz (j := 1) (t := 9) rfl rfl
    simpa [reachBytes] using h
  have b0 : l0.length * 40 ≤ 140737488351232 := by
    rcases dd0 with ⟨_, rfl⟩ | ⟨es, sp, hd, hl⟩
    · simp
    · have h := sized_slice hsz (j := 0) (t := 22) rfl (by rw [hd]; rfl) Tryz.underlying22
      rw [Tryz.bytesTok] at h
      unfold reachBytes at h
      omega
  clear hA0 hval0 hsz0
  refine (walk v0 l0 a1 W hT rw0 wd0 b0 b1).mono fun e W' ⟨he, bel⟩ => ?_
  subst he
  exact ⟨_, rfl, _, _, _, [], _, [], hW', trodAll_mk1 (shut_bool Tryz.underlying4 _), (trodAll_cons_mk (shut_toks h0 bel) (trodAll_cons_mk (shut_string Tryz.underlying9 w1) trodAll_mk0)), rfl, Below.frame bel _, fun h => by cases h⟩

theorem over : Rows.lexPrintsRow.holds Tryz.pinned (OpenSpec.ofChange Rows.lexPrintsSpec) :=
  OpenClaim.holds_of_wide 4 Tryz.f4 rfl rfl rfl rfl rfl rfl rfl ⟨rfl, rfl, rfl, rfl, rfl⟩ rfl rfl rfl rfl rfl (by kernel_rfl) Tryz.func4 (by kernel_rfl)
    (of_decide_eq_true (by kernel_rfl)) (by unfold Func.isWrapper; first | (rw [if_pos (by decide +kernel)]; kernel_rfl) | (rw [if_neg (by decide +kernel)]; exact ⟨rfl, rfl⟩))
    (fun os started H enc _ => lifted os started H enc)

theorem card : Rows.LexPrintsCardSaid :=
  Claim7.holds_tied_plain_at .later [] [.data, .data, .data, .data, .sentinel, .sentinel, .data, .pinned, .pinned] true (true, "62c4b41291f1d41b5f601ce3e7ea6ddf8f9ef4a9837f15d44a81d122d6571cc0") true
    over (fun _ h => by cases h) (by kernel_rfl) (fun _ h => by cases h) lexPrints_row_tie rfl ⟨rfl, rfl⟩ (by kernel_rfl) rfl
    (fun f fn hf hfn => by
      obtain rfl : f = 4 := Option.some.inj ((show Tryz.prog.funcNamed "starling/starlinglaw.LexPrints" = some 4 by kernel_rfl).symm.trans hf) |>.symm
      obtain rfl : fn = Tryz.f4 := (Option.some.inj (Tryz.func4.symm.trans hfn)).symm
      exact ⟨by kernel_rfl, fun j t ht => by
        rw [Tryz.params4] at ht
        have hm : t ∈ [22, 9] := by simpa using Array.mem_of_getElem? ht
        have hall : ([22, 9].all fun u => !Tryz.prog.wantsStandIn u) = true := by kernel_rfl
        exact (show Tryz.prog.wantsStandIn t = false by simpa using List.all_eq_true.1 hall t hm)⟩)
    (by kernel_rfl)

end Go.Proofs.YtoagobpkenfbkaaGreatDoor.lexPrintsProof
namespace Go.Proofs.YtoagobpkenfbkaaGreatDoor
theorem lexPrints_holds : Rows.LexPrintsCardSaid := lexPrintsProof.card
#print axioms lexPrints_holds
end Go.Proofs.YtoagobpkenfbkaaGreatDoor
