/-
  Proved: for every list RestValues answers true: a list that is sorted stays what it was, the room behind it too; the answer shares nothing with it. No condition but the form's own reach.
-/
import Derived.Test.YtjadmefiilkgmaaGreatDoorRvD
namespace Go.Proofs.YtjadmefiilkgmaaGreatDoor.restValuesProof
open Go.ChangeShapes Go.WideShapes Go.ChangeAt Go.RowKit
set_option linter.unusedVariables false
set_option linter.unusedSimpArgs false
set_option maxRecDepth 100000

theorem Tryz.bytesVal : Tryz.prog.bytesOf 23 = 32 := by kernel_rfl
theorem open_nilrow {H : Type} {enc : TypeId × Value → H} {W : World} {base : Nat} {r : Reach} {v : Value} {d : DataW H} {p : List MemPlace} (hval : Value.okWide Tryz.prog W r base 28 v)
    (h : DataW.Trod enc Tryz.prog W 0 (fun _ => true) true 28 v d p) : NilOrRow v := by
  obtain ⟨a0, len0, cap0, rfl⟩ := okWide_slice Tryz.underlying28 hval
  obtain ⟨fuel, hf⟩ := h
  rcases Deep.open_slice Tryz.underlying28 hf with ⟨hcs, hx⟩ | ⟨a, len, cap, m, n, D, Pl, hcs, _⟩
  · simp only [Value.cells] at hcs
    simp at hcs
    obtain ⟨rfl, rfl, rfl⟩ := hcs
    exact Or.inl rfl
  · simp only [Value.cells] at hcs
    simp at hcs
    obtain ⟨rfl, rfl, rfl⟩ := hcs
    exact Or.inr ⟨a, _, _, rfl⟩
theorem cellNew (w : World) (v : Value) (t : TypeId) : (w.alloc (.cells #[v] t)).cell? ⟨w.heap.size, 0, none⟩ = some v := by simp [go_sem]

set_option maxHeartbeats 4000000 in
theorem walk (v : Value) (l : List VM.Vl) (w : World) (hT : Tb w) (hr : IsRow w v l) (_ : ∀ y ∈ l, y.s.size ≤ maxLen) (hl : l.length * 32 ≤ 140737488351232) (hn : NilOrRow v) :
    Calls Tryz.prog 11 #[v] w fun e w' => e = .returned (.bool true) ∧ Fr w w' := by
  have hr' := hr
  obtain ⟨a, cap, rfl, _⟩ := hr'
  obtain ⟨W0, hW0⟩ : ∃ W0, w.alloc (.cells #[.slice a l.length cap] 28) = W0 := ⟨_, rfl⟩
  have f0 : Fr w W0 := by rw [← hW0]; exact (Fr.refl w).alloc _
  have b0 : W0.cell? ⟨w.heap.size, 0, none⟩ = some (.slice a l.length cap) := by rw [← hW0]; exact cellNew _ _ _
  have ct := twin_one w.heap.size a cap l W0 b0 (hr.fr f0) hn hl
  have HW := hideP hW0
  have F0 := hideP f0
  have HR := hideP hr
  clear hW0 f0 b0 hr hn
  go_enter Tryz.func11, Tryz.ntmps11
  go_wp2_with fail
  rw [HW.out]
  refine (rowsOf_id _ _).mono ?_
  rintro _ w1 ⟨rfl, rfl⟩
  go_wp2_with fail
  refine ct.mono ?_
  rintro _ w2 ⟨G, C, g, c, h, ch, rfl, f2, tw⟩
  have F2 : Hid (Fr w w2) := Fr.trans F0.out f2
  obtain ⟨t0, _⟩ := tw.cells
  obtain ⟨hrow, _, _, _⟩ := tw.rowAt
  have cs := sort_fresh g 0 l.length c l w2 hrow (by omega)
  have TW := hideP tw
  clear f2 tw hrow ct HW F0
  go_wp2_with fail
  refine cs.mono ?_
  rintro _ w3 ⟨m, rfl, f3, hm⟩
  have F3 : Hid (Fr w w3) := Fr.trans F2.out f3
  have f3' := hideP f3
  have HM := hideP hm
  have hs3 : w2.heap.size ≤ w3.heap.size := Fr.size f3
  clear f3 hm cs t0
  go_wp2_with fail
  refine (begun_any _ (hT.fr F3.out)).mono ?_
  rintro _ w4 ⟨rfl, f4⟩
  have F4 : Hid (Fr w w4) := Fr.trans F3.out f4
  have f24 : Hid (Fr w2 w4) := Fr.trans f3'.out f4
  have f4' := hideP f4
  clear f4 F3
  have hm := HM.out
  clear HM
  rcases hm with rfl | ⟨he, g', cap', rfl, hg', hk'⟩
  · obtain ⟨W5, hW5⟩ : ∃ W5, w4.alloc (.cells #[.slice none 0 0] 28) = W5 := ⟨_, rfl⟩
    have g5 : Fr w4 W5 := by rw [← hW5]; exact (Fr.refl w4).alloc _
    have b5 : W5.cell? ⟨w4.heap.size, 0, none⟩ = some (.slice none 0 0) := by rw [← hW5]; exact cellNew _ _ _
    have c5 := scratch_nil w4.heap.size W5 b5
    have F6 : Hid (Fr w W5) := Fr.trans F4.out g5
    have f26 : Hid (Fr w2 W5) := Fr.trans f24.out g5
    have HW5 := hideP hW5
    clear hW5 g5 b5 F4 f24
    go_wp2_with fail
    rw [HW5.out]
    refine (rowsOf_id _ _).mono ?_
    rintro _ w5 ⟨rfl, rfl⟩
    go_wp2_with fail
    refine c5.mono ?_
    rintro _ w6 ⟨rfl, rfl⟩
    clear c5 HW5
    generalize sErr l = e at *
    obtain ⟨W6, hW6⟩ : ∃ W6, w6.alloc (.cells #[.slice a l.length cap] 28) = W6 := ⟨_, rfl⟩
    have g6 : Fr w6 W6 := by rw [← hW6]; exact (Fr.refl w6).alloc _
    have b6 : W6.cell? ⟨w6.heap.size, 0, none⟩ = some (.slice a l.length cap) := by rw [← hW6]; exact cellNew _ _ _
    have cu := untouched_one w6.heap.size a cap _ G C g c h ch l W6 b6 (IsRow.fr HR.out (Fr.trans F6.out g6)) (Tw.fr TW.out (Fr.trans f26.out g6)) hl
    have F6' : Hid (Fr w W6) := Fr.trans F6.out g6
    have HW6 := hideP hW6
    clear hW6 g6 b6 F6 f26
    go_wp2_with fail
    rw [HW6.out]
    refine (rowsOf_id _ _).mono ?_
    rintro _ w7 ⟨rfl, rfl⟩
    go_wp2_with fail
    refine cu.mono ?_
    rintro _ w8 ⟨rfl, f8⟩
    have F8 : Hid (Fr w w8) := Fr.trans F6'.out f8
    clear f8 cu F6' HW6
    by_cases he : e = 0
    · subst he
      go_wp2_with fail
      go_ret
      exact ⟨rfl, F8.out⟩
    · have q1 : ((e : Int) == 0) = false := by rw [beq_eq_false_iff_ne]; omega
      have q2 : ¬ ((e : Int) = 0) := by omega
      clear he
      go_wp2_with fail
      go_ret
      exact ⟨rfl, F8.out⟩
  · have h40 : l.length ≤ 40 := by
      unfold sErr at he
      split at he
      · cases he
      · omega
    obtain ⟨W5, hW5⟩ : ∃ W5, w4.alloc (.cells #[.slice (some ⟨g', 0, none⟩) l.length cap'] 28) = W5 := ⟨_, rfl⟩
    have g5 : Fr w4 W5 := by rw [← hW5]; exact (Fr.refl w4).alloc _
    have b5 : W5.cell? ⟨w4.heap.size, 0, none⟩ = some (.slice (some ⟨g', 0, none⟩) l.length cap') := by rw [← hW5]; exact cellNew _ _ _
    have k4 := Blk.fr hk' f4'.out
    have f25 : Hid (Fr w2 W5) := Fr.trans f24.out g5
    have c5 := scratch_one w4.heap.size g' l.length cap' w2.heap.size W5 b5 (k4.fr g5) (by have := k4.lt; omega) hg' (Fr.size f25.out) h40
    have HW5 := hideP hW5
    rw [he]
    clear hW5 g5 b5 f24 k4 hk' hg' he
    go_wp2_with fail
    rw [HW5.out]
    refine (rowsOf_id _ _).mono ?_
    rintro _ w5 ⟨rfl, rfl⟩
    go_wp2_with fail
    refine c5.mono ?_
    rintro _ w6 ⟨rfl, hb6⟩
    have f26 : Hid (Fr w2 w6) := Below.trans f25.out hb6
    have F6 : Hid (Fr w w6) := Fr.trans F2.out f26.out
    clear c5 HW5 hb6 f25 F4
    obtain ⟨W6, hW6⟩ : ∃ W6, w6.alloc (.cells #[.slice a l.length cap] 28) = W6 := ⟨_, rfl⟩
    have g6 : Fr w6 W6 := by rw [← hW6]; exact (Fr.refl w6).alloc _
    have b6 : W6.cell? ⟨w6.heap.size, 0, none⟩ = some (.slice a l.length cap) := by rw [← hW6]; exact cellNew _ _ _
    have cu := untouched_one w6.heap.size a cap _ G C g c h ch l W6 b6 (IsRow.fr HR.out (Fr.trans F6.out g6)) (Tw.fr TW.out (Fr.trans f26.out g6)) hl
    have F6' : Hid (Fr w W6) := Fr.trans F6.out g6
    have HW6 := hideP hW6
    clear hW6 g6 b6 F6 f26
    go_wp2_with fail
    rw [HW6.out]
    refine (rowsOf_id _ _).mono ?_
    rintro _ w7 ⟨rfl, rfl⟩
    go_wp2_with fail
    refine cu.mono ?_
    rintro _ w8 ⟨rfl, f8⟩
    have F8 : Hid (Fr w w8) := Fr.trans F6'.out f8
    clear f8 cu F6' HW6
    go_wp2_with fail
    go_ret
    exact ⟨rfl, F8.out⟩

set_option maxRecDepth 100000 in
theorem lifted (os : Os) (started : os.Started) (H : Type) (enc : TypeId × Value → H) :
    ReturnsInHanded {} Tryz.checked os 11 .any (fun w args => (Rows.restValuesSpec.pre enc Tryz.prog Tryz.f11 [] false w args ∧ laidMetH Tryz.prog Rows.restValuesRow.laid w) ∧ sizedMet enc Tryz.prog Tryz.f11 (OpenSpec.ofChange Rows.restValuesSpec) false w args)
      (Rows.restValuesSpec.post enc Tryz.prog Tryz.f11 false true false false) := by
  refine returnsInHanded_of_change_and (C := Tryz.checked) (X := fun w _ => laidMetH Tryz.prog Rows.restValuesRow.laid w) (fun _ _ _ hh h => h.of_heap hh) own started (by kernel_rfl) Tryz.func11
    (ChangeSpec.witness_shaped (enc := enc) (C := Tryz.checked) (os := os) (X := fun w _ => laidMetH Tryz.prog Rows.restValuesRow.laid w) false (World.laidAll Tryz.prog os Rows.restValuesRow.laid) #[.slice none 0 0] 8 (World.laidAll_os _ _ _)
      (World.shaped_of_ZipB (by kernel_rfl) (by kernel_rfl)) (by kernel_rfl) (by kernel_rfl) (by kernel_rfl)
      (by rw [MakeChecks.laidMetH_plain _ _ _ (by kernel_rfl)]; exact laidMet_laidAll _ (by kernel_rfl) (by kernel_rfl))) ?_
  intro W base args ds gs before hval0 hW hcnd hsz0 hL _
  have hT : Tb W := tabs_of_laid hL
  have hval : ∀ (j : Nat) t v, Tryz.f11.params[j]? = some t → args[j]? = some v → Value.okWide Tryz.prog W .any base t v := hval0
  have hsz : (DataW.weightsEach Tryz.prog (Tryz.f11.params.toList ++ Rows.restValuesSpec.plain.varTypes Tryz.prog) (ds ++ gs)).all (· ≤ reachBytes) = true := hsz0
  have hW' := hW
  obtain ⟨p, q, hA0, hV, rfl, hfz, hnd⟩ := hW
  have hA : DataW.TrodAll enc Tryz.prog W 0 (fun _ => true) true Tryz.f11.params.toList args.toList ds p := hA0
  rw [Tryz.params11] at hA hval hsz
  obtain ⟨v0, vs0, d0, ds0, p0, q0, hargs, rfl, rfl, h0, r0⟩ := trodAll_cons hA
  obtain ⟨rfl, rfl, rfl⟩ := trodAll_nil r0
  obtain rfl : args = #[v0] := by cases args; simp_all
  obtain ⟨rfl, rfl⟩ := trodVars_none hV
  obtain ⟨l0, rw0, wd0, ln0, sl0, dd0⟩ := open_row (hval 0 28 v0 rfl rfl) h0
  have b0 : l0.length * 32 ≤ 140737488351232 := by
    rcases dd0 with ⟨_, rfl⟩ | ⟨es, sp, hd, hl⟩
    · simp
    · have h := sized_slice hsz (j := 0) (t := 28) rfl (by rw [hd]; rfl) Tryz.underlying28
      rw [Tryz.bytesVal] at h
      unfold reachBytes at h
      omega
  clear hA0 hval0 hsz0
  refine (walk v0 l0 W hT rw0 sl0 b0 (open_nilrow (hval 0 28 v0 rfl rfl) h0)).mono fun e W' ⟨he, bel⟩ => ?_
  subst he
  exact ⟨_, rfl, _, _, _, [], _, [], hW', trodAll_mk1 (shut_bool Tryz.underlying4 _), (trodAll_cons_mk (shut_row h0 bel) trodAll_mk0), rfl, Below.frame bel _, fun h => by cases h⟩

theorem over : Rows.restValuesRow.holds Tryz.pinned (OpenSpec.ofChange Rows.restValuesSpec) :=
  OpenClaim.holds_of_wide 11 Tryz.f11 rfl rfl rfl rfl rfl rfl rfl ⟨rfl, rfl, rfl, rfl, rfl⟩ rfl rfl rfl rfl rfl (by kernel_rfl) Tryz.func11 (by kernel_rfl)
    (of_decide_eq_true (by kernel_rfl)) (by unfold Func.isWrapper; first | (rw [if_pos (by decide +kernel)]; kernel_rfl) | (rw [if_neg (by decide +kernel)]; exact ⟨rfl, rfl⟩))
    (fun os started H enc _ => lifted os started H enc)

theorem card : Rows.RestValuesCardSaid :=
  Claim7.holds_tied_plain_at .later [] [.data, .data, .data, .sentinel, .sentinel] true (true, "096a2825e3b49c34390402dbfe12fba8205c45b11441fe7016cc1e7c1d5b3e22") true
    over (fun _ h => by cases h) (by kernel_rfl) (fun _ h => by cases h) restValues_row_tie rfl ⟨rfl, rfl⟩ (by kernel_rfl) rfl
    (fun f fn hf hfn => by
      obtain rfl : f = 11 := Option.some.inj ((show Tryz.prog.funcNamed "starling/starlinglaw.RestValues" = some 11 by kernel_rfl).symm.trans hf) |>.symm
      obtain rfl : fn = Tryz.f11 := (Option.some.inj (Tryz.func11.symm.trans hfn)).symm
      exact ⟨by kernel_rfl, fun j t ht => by
        rw [Tryz.params11] at ht
        have hm : t ∈ [28] := by simpa using Array.mem_of_getElem? ht
        have hall : ([28].all fun u => !Tryz.prog.wantsStandIn u) = true := by kernel_rfl
        exact (show Tryz.prog.wantsStandIn t = false by simpa using List.all_eq_true.1 hall t hm)⟩)
    (by kernel_rfl)

end Go.Proofs.YtjadmefiilkgmaaGreatDoor.restValuesProof
namespace Go.Proofs.YtjadmefiilkgmaaGreatDoor
theorem restValues_holds : Rows.RestValuesCardSaid := restValuesProof.card
#print axioms restValues_holds
end Go.Proofs.YtjadmefiilkgmaaGreatDoor
