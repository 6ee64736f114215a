/-
  Proved: for all texts, an escaped text stands for that text and for no other one, and it is its Prefix, whole. (LikeSelf; the two tables of Go's decoder are as its text lays them.)
-/
import Derived.Test.YtgjgmaadogkjfaaDoorTabs
import Derived.Test.YtgjgmaadogkjfaaDoorLkEsc
namespace Go.Proofs.YtgjgmaadogkjfaaDoor
namespace likeSelfProof
open Go.ChangeShapes Go.WideShapes Go.ChangeAt Go.RowKit
open Go.ChangeMaps (open_string shut_string)
set_option linter.unusedVariables false

set_option maxHeartbeats 1000000 in
theorem core (s t p fs : ByteArray) (ok whole : Bool) (e f g : Nat) (W : World) (b1 : t.size ≤ 9223372036854775807)
    (he : Calls Tryd.prog 16 #[.string s] W fun r W' => r = .returned (.tuple #[.string p, .int .i64 e]) ∧ Fr W W')
    (hm : ∀ W1, Fr W W1 → e = 0 → Calls Tryd.prog 10 #[.string p, .string t] W1 fun r W' => r = .returned (.tuple #[.bool ok, .int .i64 f]) ∧ Fr W1 W')
    (hp : ∀ W1, Fr W W1 → e = 0 → Calls Tryd.prog 15 #[.string p] W1 fun r W' => r = .returned (.tuple #[.string fs, .bool whole, .int .i64 g]) ∧ Fr W1 W')
    (hb : ∀ W1, Fr W W1 → Calls Tryd.prog 12 #[] W1 fun r W' => r = .returned (.bool true) ∧ Fr W1 W')
    (fit : (e = 2 ∧ p = ⟨#[]⟩) ∨ (e = 0 ∧ g = 0 ∧ whole = true ∧ fs = s ∧ ((f = 0 ∧ t.size ≤ 16 ∧ ok = (s.toList == t.toList)) ∨ (f = 2 ∧ ¬ t.size ≤ 16 ∧ ok = false)))) :
    Calls Tryd.prog 6 #[.string s, .string t] W fun r W' => r = .returned (.bool true) ∧ Fr W W' := by
  have HB : Hid _ := hb
  clear hb
  rcases fit with ⟨rfl, rfl⟩ | ⟨rfl, rfl, rfl, rfl, fit⟩
  · clear hm hp
    go_enter Tryd.func6, Tryd.ntmps6
    go_wp2_with fail
    refine he.mono ?_
    rintro _ w1 ⟨rfl, f1⟩
    have c2 := HB.out w1 f1
    clear he
    go_wp2_with fail
    refine c2.mono ?_
    rintro _ w2 ⟨rfl, f2⟩
    clear c2
    go_wp2
    go_ret
    exact ⟨rfl, f1.trans f2⟩
  · have HFit : Hid _ := fit
    have HM : Hid _ := fun W1 f1 => hm W1 f1 rfl
    have HP : Hid _ := fun W1 f1 => hp W1 f1 rfl
    clear fit hm hp
    go_enter Tryd.func6, Tryd.ntmps6
    go_wp2_with fail
    refine he.mono ?_
    rintro _ w1 ⟨rfl, f1⟩
    have c2 := HB.out w1 f1
    clear he
    go_wp2_with fail
    refine c2.mono ?_
    rintro _ w2 ⟨rfl, f2⟩
    have c3 := HM.out w2 (f1.trans f2)
    clear c2
    go_wp2_with fail
    refine c3.mono ?_
    rintro _ w3 ⟨rfl, f3⟩
    have c4 := HP.out w3 ((f1.trans f2).trans f3)
    clear c3
    go_wp2_with fail
    refine c4.mono ?_
    rintro _ w4 ⟨rfl, f4⟩
    clear c4
    have ff := ((f1.trans f2).trans f3).trans f4
    rcases HFit.out with ⟨rfl, h2, rfl⟩ | ⟨rfl, h2, rfl⟩
    · have q2 : (t.size : Int) ≤ 16 := by omega
      cases hq : (fs.toList == t.toList) with
      | true =>
        go_wp2
        go_ret
        exact ⟨rfl, ff⟩
      | false =>
        go_wp2
        go_ret
        exact ⟨rfl, ff⟩
    · have q2 : ¬ (t.size : Int) ≤ 16 := by omega
      have q3 : decide ((t.size : Int) ≤ 16) = false := by simp [q2]
      go_wp2
      go_ret
      exact ⟨rfl, ff⟩

theorem mk_list (s : ByteArray) : (⟨s.data.toList.toArray⟩ : ByteArray) = s := by cases s; simp

theorem walk (a0 a1 : ByteArray) (W : World) (hT : Tb W) (b0 : a0.size ≤ 140737488351232) (b1 : a1.size ≤ 140737488351232) :
    Calls Tryd.prog 6 #[.string a0, .string a1] W fun r W' => r = .returned (.bool true) ∧ Fr W W' := by
  have hes := escape_any a0 W (by omega) hT
  by_cases h16 : 16 < a0.size
  · rw [if_pos h16] at hes
    have hp0 : escd a0 = [] := by unfold escd; rw [if_pos h16]
    rw [hp0] at hes
    exact core a0 a1 ⟨#[]⟩ ⟨#[]⟩ true true 2 0 0 W (by omega) hes (fun _ _ h => by cases h) (fun _ _ h => by cases h) (fun W1 f => begun_any W1 (hT.fr f)) (Or.inl ⟨rfl, rfl⟩)
  · rw [if_neg h16] at hes
    have hp0 : escd a0 = LK.esc (LK.pc a0.data.toList) := by unfold escd; rw [if_neg h16]
    obtain ⟨p, hp⟩ : ∃ p : ByteArray, p = ⟨(escd a0).toArray⟩ := ⟨_, rfl⟩
    rw [← hp] at hes
    have hpl : p.data.toList = LK.esc (LK.pc a0.data.toList) := by rw [hp, hp0]
    have hps : p.size ≤ 32 := by
      have h1 := LK.esc_two a0.data.toList
      have h2 : a0.data.toList.length = a0.size := by rw [Array.length_toList]; rfl
      have h3 : p.data.toList.length = p.size := by rw [Array.length_toList]; rfl
      rw [hpl] at h3
      omega
    have hrun : LK.run (LK.pc p.data.toList) = (false, (LK.pc a0.data.toList).map fun x => ((97 : Int), x)) := by rw [LK.run_eq, hpl, LK.pc_esc, LK.prs_esc]
    have hpe : perr p = 0 := by unfold perr; rw [if_neg (by omega), if_neg (by rw [hrun]; exact Bool.false_ne_true)]
    have hpr : prts p = (LK.pc a0.data.toList).map fun x => ((97 : Int), x) := by unfold prts; rw [hrun]
    have hpf : pfx p = a0.data.toList := by unfold pfx; rw [if_pos hpe, hpr, (LK.pre_plain _).1, LK.pc_flat]
    have hwh : whl p = true := by unfold whl; rw [hpe, hpr, (LK.pre_plain _).2]; rfl
    refine core a0 a1 p ⟨(pfx p).toArray⟩ (decide (merr p a1 = 0) && mtc p a1) (whl p) 0 (merr p a1) (perr p) W (by omega) hes (fun W1 f _ => match_any p a1 W1 (by omega) (by omega) (hT.fr f)) (fun W1 f _ => prefix_any p W1 (by omega) (hT.fr f)) (fun W1 f => begun_any W1 (hT.fr f)) (Or.inr ⟨rfl, hpe, hwh, by rw [hpf, mk_list], ?_⟩)
    by_cases ht : a1.size ≤ 16
    · have hme : merr p a1 = 0 := by unfold merr; rw [if_neg (by rw [hpe]; decide), if_neg (by omega)]
      refine Or.inl ⟨hme, ht, ?_⟩
      rw [hme]
      show mtc p a1 = _
      unfold mtc
      rw [hpr, LK.mt_plain, Lib.toList_data, Lib.toList_data]
      by_cases hq : a0.data.toList = a1.data.toList
      · rw [hq, beq_self_eq_true, beq_self_eq_true]
      · rw [beq_false_of_ne hq, beq_false_of_ne (fun h => hq (LK.pc_inj h))]
    · have hme : merr p a1 = 2 := by unfold merr; rw [if_neg (by rw [hpe]; decide), if_pos (by omega)]
      exact Or.inr ⟨hme, ht, by rw [hme]; rfl⟩

set_option maxRecDepth 100000 in
theorem lifted (os : Os) (started : os.Started) (H : Type) (enc : TypeId × Value → H) :
    ReturnsInHanded {} Tryd.checked os 6 .any (fun w args => (Rows.likeSelfSpec.pre enc Tryd.prog Tryd.f6 [] false w args ∧ laidMetH Tryd.prog Rows.likeSelfRow.laid w) ∧ sizedMet enc Tryd.prog Tryd.f6 (OpenSpec.ofChange Rows.likeSelfSpec) false w args)
      (Rows.likeSelfSpec.post enc Tryd.prog Tryd.f6 false true false false) := by
  refine returnsInHanded_of_change_and (C := Tryd.checked) (X := fun w _ => laidMetH Tryd.prog Rows.likeSelfRow.laid w) (fun _ _ _ hh h => h.of_heap hh) own started (by kernel_rfl) Tryd.func6
    (ChangeSpec.witness_shaped (enc := enc) (C := Tryd.checked) (os := os) (X := fun w _ => laidMetH Tryd.prog Rows.likeSelfRow.laid w) false (World.laidAll Tryd.prog os Rows.likeSelfRow.laid) #[.string ByteArray.empty, .string ByteArray.empty] 8 (World.laidAll_os _ _ _)
      (World.shaped_of_ZipB (by kernel_rfl) (by kernel_rfl)) (by kernel_rfl) (by kernel_rfl) (by kernel_rfl)
      (by rw [MakeChecks.laidMetH_plain _ _ _ (by kernel_rfl)]; exact laidMet_laidAll _ (by kernel_rfl) (by kernel_rfl))) ?_
  intro W base args ds gs before hval0 hW hcnd hsz0 hL _
  have hT : Tb W := tabs_of_laid hL
  have hval : ∀ (j : Nat) t v, Tryd.f6.params[j]? = some t → args[j]? = some v → Value.okWide Tryd.prog W .any base t v := hval0
  have hsz : (DataW.weightsEach Tryd.prog (Tryd.f6.params.toList ++ Rows.likeSelfSpec.plain.varTypes Tryd.prog) (ds ++ gs)).all (· ≤ reachBytes) = true := hsz0
  have hW' := hW
  obtain ⟨p, q, hA0, hV, rfl, hfz, hnd⟩ := hW
  have hA : DataW.TrodAll enc Tryd.prog W 0 (fun _ => true) true Tryd.f6.params.toList args.toList ds p := hA0
  rw [Tryd.params6] at hA hval hsz
  obtain ⟨v0, vs0, d0, ds0, p0, q0, hargs, rfl, rfl, h0, r0⟩ := trodAll_cons hA
  obtain ⟨v1, vs1, d1, ds1, p1, q1, rfl, rfl, rfl, h1, r1⟩ := trodAll_cons r0
  obtain ⟨rfl, rfl, rfl⟩ := trodAll_nil r1
  obtain rfl : args = #[v0, v1] := by cases args; simp_all
  obtain ⟨rfl, rfl⟩ := trodVars_none hV
  obtain ⟨a0, rfl, rfl, rfl, w0⟩ := open_string Tryd.underlying9 (hval 0 9 v0 rfl rfl) h0
  obtain ⟨a1, rfl, rfl, rfl, w1⟩ := open_string Tryd.underlying9 (hval 1 9 v1 rfl rfl) h1
  have b0 : a0.size ≤ 140737488351232 := by
    have h := sized_string hsz (j := 0) (t := 9) rfl rfl
    simpa [reachBytes] using h
  have b1 : a1.size ≤ 140737488351232 := by
    have h := sized_string hsz (j := 1) (t := 9) rfl rfl
    simpa [reachBytes] using h
  clear hA0 hval0 hsz0
  refine (walk a0 a1 W hT b0 b1).mono fun e W' ⟨he, bel⟩ => ?_
  subst he
  exact ⟨_, rfl, _, _, _, [], _, [], hW', trodAll_mk1 (shut_bool Tryd.underlying4 _), (trodAll_cons_mk (shut_string Tryd.underlying9 w0) (trodAll_cons_mk (shut_string Tryd.underlying9 w1) trodAll_mk0)), rfl, Below.frame bel _, fun h => by cases h⟩

theorem over : Rows.likeSelfRow.holds Tryd.pinned (OpenSpec.ofChange Rows.likeSelfSpec) :=
  OpenClaim.holds_of_wide 6 Tryd.f6 rfl rfl rfl rfl rfl rfl rfl ⟨rfl, rfl, rfl, rfl, rfl⟩ rfl rfl rfl rfl rfl (by kernel_rfl) Tryd.func6 (by kernel_rfl)
    (of_decide_eq_true (by kernel_rfl)) (by unfold Func.isWrapper; first | (rw [if_pos (by decide +kernel)]; kernel_rfl) | (rw [if_neg (by decide +kernel)]; exact ⟨rfl, rfl⟩))
    (fun os started H enc _ => lifted os started H enc)

theorem card : Rows.LikeSelfCardSaid :=
  Claim7.holds_tied_plain_at .later [] [.data, .pinned] true (true, "16a35cc793bfe44f891744ca83cbcb2362c0f7c3e5d28fcb30ada395105c9e56") false
    over (fun _ h => by cases h) (by kernel_rfl) (fun _ h => by cases h) likeSelf_row_tie rfl ⟨rfl, rfl⟩ (by kernel_rfl) rfl
    (fun f fn hf hfn => by
      obtain rfl : f = 6 := Option.some.inj ((show Tryd.prog.funcNamed "starling/starlinglaw.LikeSelf" = some 6 by kernel_rfl).symm.trans hf) |>.symm
      obtain rfl : fn = Tryd.f6 := (Option.some.inj (Tryd.func6.symm.trans hfn)).symm
      exact ⟨by kernel_rfl, fun j t ht => by
        rw [Tryd.params6] at ht
        have hm : t ∈ [9, 9] := by simpa using Array.mem_of_getElem? ht
        have hall : ([9, 9].all fun u => !Tryd.prog.wantsStandIn u) = true := by kernel_rfl
        exact (show Tryd.prog.wantsStandIn t = false by simpa using List.all_eq_true.1 hall t hm)⟩)
    (by kernel_rfl)

end likeSelfProof
theorem likeSelf_holds : Rows.LikeSelfCardSaid := likeSelfProof.card
#print axioms likeSelf_holds
end Go.Proofs.YtgjgmaadogkjfaaDoor
