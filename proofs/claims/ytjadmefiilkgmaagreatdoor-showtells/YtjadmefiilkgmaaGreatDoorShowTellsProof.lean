/-
  Proved: for every value and every text ShowTells answers true: Show and Of answer just what the document says, errors too. No condition but the form's own reach.
-/
import Derived.Test.YtjadmefiilkgmaaGreatDoorLtF
import Derived.Test.YtjadmefiilkgmaaGreatDoorOpenW
namespace Go.Proofs.YtjadmefiilkgmaaGreatDoor.showTellsProof
open Go.ChangeShapes Go.WideShapes Go.ChangeAt Go.RowKit
open Go.ChangeMaps (open_string shut_string)
set_option linter.unusedVariables false
set_option linter.unusedSimpArgs false
set_option maxRecDepth 100000

set_option maxHeartbeats 4000000 in
theorem core (ak an k n : Int) (sa S T z : ByteArray) (e d : Nat) (w : World) (hT : Tb w)
    (c1 : ∀ W, Tb W → Calls Tryz.prog 18 #[.agg #[.int .i64 ak, .int .i64 an, .string sa]] W fun r w' => r = .returned (.tuple #[.string T, .int .i64 e]) ∧ Fr W w')
    (c2 : ∀ W, Tb W → Calls Tryz.prog 19 #[.string S] W fun r w' => r = .returned (.tuple #[.agg #[.int .i64 k, .int .i64 n, .string z], .int .i64 d]) ∧ Fr W w')
    (c3 : ∀ W, Calls Tryz.prog 17 #[.agg #[.int .i64 ak, .int .i64 an, .string sa]] W fun r w' => r = .returned (.int .i64 e) ∧ Fr W w')
    (c4 : (e = 0 ∧ ∀ W, Calls Tryz.prog 20 #[.agg #[.int .i64 ak, .int .i64 an, .string sa]] W fun r w' => r = .returned (.string T) ∧ Fr W w') ∨ (e ≠ 0 ∧ T = ⟨#[]⟩))
    (c5 : ∀ W, Calls Tryz.prog 21 #[.string S] W fun r w' => r = .returned (.tuple #[.agg #[.int .i64 k, .int .i64 n, .string z], .int .i64 d]) ∧ Fr W w') :
    Calls Tryz.prog 5 #[.agg #[.int .i64 ak, .int .i64 an, .string sa], .string S] w fun r w' => r = .returned (.bool true) ∧ Fr w w' := by
  obtain ⟨W0, hW0⟩ : ∃ W0, w.alloc (.cells #[.int .i64 ak, .int .i64 an, .string sa] 23) = W0 := ⟨_, rfl⟩
  have f0 : Fr w W0 := by rw [← hW0]; exact (Fr.refl w).alloc _
  have A0 : Bx W0 w.heap.size ak an sa := by rw [← hW0]; exact Bx.new _ _ _ _
  have HW : Hid _ := hW0
  have C4 : Hid _ := c4
  clear hW0 c4
  go_enter Tryz.func5, Tryz.ntmps5
  go_wp2_with fail
  rw [HW.out]
  refine (c1 _ (hT.fr f0)).mono ?_
  rintro _ w1 ⟨rfl, f1⟩
  have F1 : Hid (Fr w w1) := Fr.trans f0 f1
  have A1 := A0.fr f1
  have c2' := c2 w1 (hT.fr F1.out)
  clear f1 f0 A0 c1 c2 HW
  go_wp2_with fail
  refine c2'.mono ?_
  rintro _ w2 ⟨rfl, f2⟩
  have F2 : Hid (Fr w w2) := Fr.trans F1.out f2
  have A2 := A1.fr f2
  clear f2 A1 c2' F1
  obtain ⟨W3, hW3⟩ : ∃ W3, w2.alloc (.cells #[.int .i64 k, .int .i64 n, .string z] 23) = W3 := ⟨_, rfl⟩
  have g3 : Fr w2 W3 := by rw [← hW3]; exact (Fr.refl w2).alloc _
  have F3 : Hid (Fr w W3) := Fr.trans F2.out g3
  have A3 := A2.fr g3
  obtain ⟨g2, hg2⟩ : ∃ g2, w2.heap.size = g2 := ⟨_, rfl⟩
  have B3 : Bx W3 g2 k n z := by rw [← hW3, ← hg2]; exact Bx.new _ _ _ _
  have HW3 : Hid _ := hW3
  have HG2 : Hid _ := hg2
  have a0 := A3.c0
  have a1 := A3.c1
  have a2 := A3.c2
  rw [← hW3] at a0 a1 a2
  have A3' : Hid _ := A3
  clear hW3 hg2 g3 A2 A3 F2
  go_wp2_with fail
  rw [HW3.out, HG2.out]
  refine (c3 _).mono ?_
  rintro _ w4 ⟨rfl, f4⟩
  have F4 : Hid (Fr w w4) := Fr.trans F3.out f4
  have A4 := Bx.fr A3'.out f4
  have B4 := B3.fr f4
  clear f4 F3 A3' B3 c3 a0 a1 a2 HW3 HG2
  have c4 := C4.out
  clear C4
  rcases c4 with ⟨rfl, c4⟩ | ⟨he, rfl⟩
  · have a0 := A4.c0
    have a1 := A4.c1
    have a2 := A4.c2
    clear A4
    go_wp2_with fail
    refine (c4 _).mono ?_
    rintro _ w4' ⟨rfl, f4⟩
    have F4' : Hid (Fr w w4') := Fr.trans F4.out f4
    have B2 := B4.fr f4
    clear f4 F4 B4 c4 a0 a1 a2
    go_wp2_with fail
    refine (c5 _).mono ?_
    rintro _ w5 ⟨rfl, f5⟩
    have B5 : Bx w5 g2 k n z := B2.fr f5
    have F5 : Hid (Fr w w5) := Fr.trans F4'.out f5
    have B5' : Hid _ := B5
    have c6 := begun_any (w5.alloc (.cells #[.int .i64 k, .int .i64 n, .string z] 23)) (hT.fr (Fr.alloc F5.out _))
    clear f5 c5 B2 F4' B5
    go_wp2_with fail
    refine c6.mono ?_
    rintro _ w6 ⟨rfl, f6⟩
    have F6 : Hid (Fr w w6) := Fr.trans (Fr.alloc F5.out _) f6
    have B6 := Bx.fr (Bx.fr B5'.out ((Fr.refl w5).alloc _)) f6
    have N6 := Bx.fr (Bx.new w5 k n z) f6
    have a0 := B6.c0
    have a1 := B6.c1
    have a2 := B6.c2
    have b0 := N6.c0
    have b1 := N6.c1
    have b2 := N6.c2
    clear f6 c6 B5' F5 B6 N6
    go_wp2_with fail
    go_ret
    exact ⟨rfl, F6.out⟩
  · have q1 : ((e : Int) == 0) = false := by rw [beq_eq_false_iff_ne]; omega
    have q2 : ¬ ((e : Int) = 0) := by omega
    have B2 := B4
    clear he A4 B4
    go_wp2_with fail
    refine (c5 _).mono ?_
    rintro _ w5 ⟨rfl, f5⟩
    have B5 : Bx w5 g2 k n z := B2.fr f5
    have F5 : Hid (Fr w w5) := Fr.trans F4.out f5
    have B5' : Hid _ := B5
    have c6 := begun_any (w5.alloc (.cells #[.int .i64 k, .int .i64 n, .string z] 23)) (hT.fr (Fr.alloc F5.out _))
    clear f5 c5 B2 F4 B5
    go_wp2_with fail
    refine c6.mono ?_
    rintro _ w6 ⟨rfl, f6⟩
    have F6 : Hid (Fr w w6) := Fr.trans (Fr.alloc F5.out _) f6
    have B6 := Bx.fr (Bx.fr B5'.out ((Fr.refl w5).alloc _)) f6
    have N6 := Bx.fr (Bx.new w5 k n z) f6
    have a0 := B6.c0
    have a1 := B6.c1
    have a2 := B6.c2
    have b0 := N6.c0
    have b1 := N6.c1
    have b2 := N6.c2
    clear f6 c6 B5' F5 B6 N6
    go_wp2_with fail
    go_ret
    exact ⟨rfl, F6.out⟩

theorem walk (x : VM.Vl) (S : ByteArray) (w : World) (hT : Tb w) (hx : -9223372036854775808 ≤ x.n ∧ x.n ≤ 9223372036854775807) (hs : S.size ≤ 140737488351232) :
    Calls Tryz.prog 5 #[x.val, .string S] w fun e w' => e = .returned (.bool true) ∧ Fr w w' := by
  have c5 := fun W => literalOf_any S W (by omega)
  rw [VS.lit_rd] at c5
  have c4 : (VM.chk x = 0 ∧ ∀ W, Calls Tryz.prog 20 #[x.val] W fun r w' => r = .returned (.string ⟨(shn x).toArray⟩) ∧ Fr W w') ∨ (VM.chk x ≠ 0 ∧ (⟨(shn x).toArray⟩ : ByteArray) = ⟨#[]⟩) := by
    by_cases hc : VM.chk x = 0
    · exact Or.inl ⟨hc, fun W => shownOf_any x W hc hx.1 hx.2⟩
    · refine Or.inr ⟨hc, ?_⟩
      unfold shn
      rw [if_neg hc]
  exact core x.k x.n _ _ x.s S _ _ (VM.chk x) _ w hT (fun W h => show_any x hx.1 hx.2 W h) (fun W h => of_any S W (by omega) h) (fun W => rcheck_any x.k x.n x.s W) c4 c5

set_option maxRecDepth 100000 in
theorem lifted (os : Os) (started : os.Started) (H : Type) (enc : TypeId × Value → H) :
    ReturnsInHanded {} Tryz.checked os 5 .any (fun w args => (Rows.showTellsSpec.pre enc Tryz.prog Tryz.f5 [] false w args ∧ laidMetH Tryz.prog Rows.showTellsRow.laid w) ∧ sizedMet enc Tryz.prog Tryz.f5 (OpenSpec.ofChange Rows.showTellsSpec) false w args)
      (Rows.showTellsSpec.post enc Tryz.prog Tryz.f5 false true false false) := by
  refine returnsInHanded_of_change_and (C := Tryz.checked) (X := fun w _ => laidMetH Tryz.prog Rows.showTellsRow.laid w) (fun _ _ _ hh h => h.of_heap hh) own started (by kernel_rfl) Tryz.func5
    (ChangeSpec.witness_shaped (enc := enc) (C := Tryz.checked) (os := os) (X := fun w _ => laidMetH Tryz.prog Rows.showTellsRow.laid w) false (World.laidAll Tryz.prog os Rows.showTellsRow.laid) #[.agg #[.int .i64 0, .int .i64 0, .string ByteArray.empty], .string ByteArray.empty] 8 (World.laidAll_os _ _ _)
      (World.shaped_of_ZipB (by kernel_rfl) (by kernel_rfl)) (by kernel_rfl) (by kernel_rfl) (by kernel_rfl)
      (by rw [MakeChecks.laidMetH_plain _ _ _ (by kernel_rfl)]; exact laidMet_laidAll _ (by kernel_rfl) (by kernel_rfl))) ?_
  intro W base args ds gs before hval0 hW hcnd hsz0 hL _
  have hT : Tb W := tabs_of_laid hL
  have hval : ∀ (j : Nat) t v, Tryz.f5.params[j]? = some t → args[j]? = some v → Value.okWide Tryz.prog W .any base t v := hval0
  have hsz : (DataW.weightsEach Tryz.prog (Tryz.f5.params.toList ++ Rows.showTellsSpec.plain.varTypes Tryz.prog) (ds ++ gs)).all (· ≤ reachBytes) = true := hsz0
  have hW' := hW
  obtain ⟨p, q, hA0, hV, rfl, hfz, hnd⟩ := hW
  have hA : DataW.TrodAll enc Tryz.prog W 0 (fun _ => true) true Tryz.f5.params.toList args.toList ds p := hA0
  rw [Tryz.params5] at hA hval hsz
  obtain ⟨v0, vs0, d0, ds0, p0, q0, hargs, rfl, rfl, h0, r0⟩ := trodAll_cons hA
  obtain ⟨v1, vs1, d1, ds1, p1, q1, rfl, rfl, rfl, h1, r1⟩ := trodAll_cons r0
  obtain ⟨rfl, rfl, rfl⟩ := trodAll_nil r1
  obtain rfl : args = #[v0, v1] := by cases args; simp_all
  obtain ⟨rfl, rfl⟩ := trodVars_none hV
  obtain ⟨a0, rfl, wd0⟩ := open_valw (hval 0 23 v0 rfl rfl) h0
  obtain ⟨a1, rfl, rfl, rfl, w1⟩ := open_string Tryz.underlying9 (hval 1 9 v1 rfl rfl) h1
  have b1 : a1.size ≤ 140737488351232 := by
    have h := sized_string hsz (j := 1) (t := 9) rfl rfl
    simpa [reachBytes] using h
  clear hA0 hval0 hsz0
  refine (walk a0 a1 W hT wd0 b1).mono fun e W' ⟨he, bel⟩ => ?_
  subst he
  exact ⟨_, rfl, _, _, _, [], _, [], hW', trodAll_mk1 (shut_bool Tryz.underlying4 _), (trodAll_cons_mk (shut_val h0 bel) (trodAll_cons_mk (shut_string Tryz.underlying9 w1) trodAll_mk0)), rfl, Below.frame bel _, fun h => by cases h⟩

theorem over : Rows.showTellsRow.holds Tryz.pinned (OpenSpec.ofChange Rows.showTellsSpec) :=
  OpenClaim.holds_of_wide 5 Tryz.f5 rfl rfl rfl rfl rfl rfl rfl ⟨rfl, rfl, rfl, rfl, rfl⟩ rfl rfl rfl rfl rfl (by kernel_rfl) Tryz.func5 (by kernel_rfl)
    (of_decide_eq_true (by kernel_rfl)) (by unfold Func.isWrapper; first | (rw [if_pos (by decide +kernel)]; kernel_rfl) | (rw [if_neg (by decide +kernel)]; exact ⟨rfl, rfl⟩))
    (fun os started H enc _ => lifted os started H enc)

theorem card : Rows.ShowTellsCardSaid :=
  Claim7.holds_tied_plain_at .later [] [.data, .data, .data, .sentinel, .sentinel] true (true, "096a2825e3b49c34390402dbfe12fba8205c45b11441fe7016cc1e7c1d5b3e22") true
    over (fun _ h => by cases h) (by kernel_rfl) (fun _ h => by cases h) showTells_row_tie rfl ⟨rfl, rfl⟩ (by kernel_rfl) rfl
    (fun f fn hf hfn => by
      obtain rfl : f = 5 := Option.some.inj ((show Tryz.prog.funcNamed "starling/starlinglaw.ShowTells" = some 5 by kernel_rfl).symm.trans hf) |>.symm
      obtain rfl : fn = Tryz.f5 := (Option.some.inj (Tryz.func5.symm.trans hfn)).symm
      exact ⟨by kernel_rfl, fun j t ht => by
        rw [Tryz.params5] at ht
        have hm : t ∈ [23, 9] := by simpa using Array.mem_of_getElem? ht
        have hall : ([23, 9].all fun u => !Tryz.prog.wantsStandIn u) = true := by kernel_rfl
        exact (show Tryz.prog.wantsStandIn t = false by simpa using List.all_eq_true.1 hall t hm)⟩)
    (by kernel_rfl)

end Go.Proofs.YtjadmefiilkgmaaGreatDoor.showTellsProof
namespace Go.Proofs.YtjadmefiilkgmaaGreatDoor
theorem showTells_holds : Rows.ShowTellsCardSaid := showTellsProof.card
#print axioms showTells_holds
end Go.Proofs.YtjadmefiilkgmaaGreatDoor
