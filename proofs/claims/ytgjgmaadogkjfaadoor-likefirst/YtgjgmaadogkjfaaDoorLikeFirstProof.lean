/-
  Proved: for all patterns and all texts, what a pattern stands for begins with its Prefix, and is it, if the pattern is whole. (LikeFirst; the two tables of Go's decoder are as its text lays them.)
-/
import Derived.Test.YtgjgmaadogkjfaaDoorTabs
import Derived.Test.YtgjgmaadogkjfaaDoorLkFirst
namespace Go.Proofs.YtgjgmaadogkjfaaDoor
namespace likeFirstProof
open Go.ChangeShapes Go.WideShapes Go.ChangeAt Go.RowKit
open Go.ChangeMaps (open_string shut_string)
set_option linter.unusedVariables false

theorem core (p s fs : ByteArray) (ok whole : Bool) (e f : Nat) (W : World) (b1 : s.size ≤ 9223372036854775807) (bf : fs.size ≤ 9223372036854775807)
    (hm : Calls Tryd.prog 10 #[.string p, .string s] W fun r W' => r = .returned (.tuple #[.bool ok, .int .i64 e]) ∧ Fr W W')
    (hp : ∀ W1, Fr W W1 → Calls Tryd.prog 15 #[.string p] W1 fun r W' => r = .returned (.tuple #[.string fs, .bool whole, .int .i64 f]) ∧ Fr W1 W')
    (hb : ∀ W1, Fr W W1 → Calls Tryd.prog 12 #[] W1 fun r W' => r = .returned (.bool true) ∧ Fr W1 W')
    (fit : (e ≠ 0 ∧ ok = false) ∨ (e = 0 ∧ f = 0 ∧ ok = false) ∨ (e = 0 ∧ f = 0 ∧ ok = true ∧ fs.size ≤ s.size ∧ ((s.extract 0 fs.size).toList == fs.toList) = true ∧ whole = false) ∨ (e = 0 ∧ f = 0 ∧ ok = true ∧ whole = true ∧ s = fs)) :
    Calls Tryd.prog 9 #[.string p, .string s] W fun r W' => r = .returned (.bool true) ∧ Fr W W' := by
  have HP : Hid _ := hp
  have HB : Hid _ := hb
  have HFit : Hid _ := fit
  clear hp hb fit
  go_enter Tryd.func9, Tryd.ntmps9
  go_wp2_with (go_at_call 10; refine hm.mono ?_)
  rintro _ w1 ⟨rfl, f1⟩
  have c2 := HP.out w1 f1
  clear hm
  go_wp2_with (go_at_call 15; refine c2.mono ?_)
  rintro _ w2 ⟨rfl, f2⟩
  have c3 := HB.out w2 (f1.trans f2)
  clear c2
  go_wp2_with (go_at_call 12; refine c3.mono ?_)
  rintro _ w3 ⟨rfl, f3⟩
  clear c3
  have ff := (f1.trans f2).trans f3
  rcases HFit.out with ⟨h1, rfl⟩ | ⟨rfl, rfl, rfl⟩ | ⟨rfl, rfl, rfl, h4, h5, rfl⟩ | ⟨rfl, rfl, rfl, rfl, rfl⟩
  · have q1 : ((e : Int) != 0) = true := by simp [h1]
    have q2 : ¬ ((e : Int) = 0) := by omega
    go_wp2
    go_ret
    exact ⟨rfl, ff⟩
  · go_wp2
    go_ret
    exact ⟨rfl, ff⟩
  · have q4 : (s.size : Int) ≥ (fs.size : Int) := by omega
    have q5 : (fs.size : Int) ≤ (s.size : Int) := by omega
    go_wp2
    go_ret
    exact ⟨rfl, ff⟩
  · go_wp2
    go_ret
    exact ⟨rfl, ff⟩

theorem ok_of {S s : ByteArray} (h : merr S s = 0) : perr S = 0 := by
  unfold merr at h
  by_cases hp : perr S = 0
  · exact hp
  · rw [if_pos hp] at h; exact absurd h hp
theorem mk_list (s : ByteArray) : (⟨s.data.toList.toArray⟩ : ByteArray) = s := by cases s; simp

theorem walk (a0 a1 : ByteArray) (W : World) (hT : Tb W) (b0 : a0.size ≤ 140737488351232) (b1 : a1.size ≤ 140737488351232) :
    Calls Tryd.prog 9 #[.string a0, .string a1] W fun r W' => r = .returned (.bool true) ∧ Fr W W' := by
  refine core a0 a1 ⟨(pfx a0).toArray⟩ (decide (merr a0 a1 = 0) && mtc a0 a1) (whl a0) (merr a0 a1) (perr a0) W (by omega) ?_ (match_any a0 a1 W (by omega) (by omega) hT) (fun W1 f => prefix_any a0 W1 (by omega) (hT.fr f)) (fun W1 f => begun_any W1 (hT.fr f)) ?_
  · show (pfx a0).toArray.size ≤ _
    rw [List.size_toArray]
    unfold pfx
    split
    · rename_i hp
      have h1 := flat_len (prts a0) ((prts a0).takeWhile fun q => q.1 == 97).length (fun q hq => LK.pc_four _ _ (LK.run_mem _ q hq))
      have h2 := prts_len a0 hp
      rw [show (prts a0).take ((prts a0).takeWhile fun q => q.1 == 97).length = (prts a0).takeWhile fun q => q.1 == 97 from (List.prefix_iff_eq_take.1 (List.takeWhile_prefix _)).symm] at h1
      unfold LK.pre
      omega
    · simp
  · by_cases he : merr a0 a1 = 0
    · have hp := ok_of he
      have hpf : pfx a0 = LK.pre (prts a0) := by unfold pfx; rw [if_pos hp]
      have hwh : whl a0 = LK.whole (prts a0) := by unfold whl; rw [hp]; simp
      rw [he, hp, hwh, hpf]
      cases hm : mtc a0 a1 with
      | false => exact Or.inr (Or.inl ⟨rfl, rfl, rfl⟩)
      | true =>
        obtain ⟨⟨r, h1⟩, h2⟩ := LK.mt_first _ _ (show LK.mt (prts a0) (LK.pc a1.data.toList) = true from hm)
        rw [LK.pc_flat] at h1 h2
        cases hw : LK.whole (prts a0) with
        | true =>
          refine Or.inr (Or.inr (Or.inr ⟨rfl, rfl, rfl, rfl, ?_⟩))
          rw [← h2 hw, mk_list]
        | false =>
          refine Or.inr (Or.inr (Or.inl ⟨rfl, rfl, rfl, ?_, ?_, rfl⟩))
          · show (LK.pre (prts a0)).toArray.size ≤ a1.size
            rw [List.size_toArray]
            have := congrArg List.length h1
            rw [Array.length_toList, List.length_append] at this
            show _ ≤ a1.data.size
            omega
          · refine beq_of_eq ?_
            rw [Lib.toList_data, Lib.toList_data]
            show (a1.extract 0 (LK.pre (prts a0)).toArray.size).data.toList = (LK.pre (prts a0)).toArray.toList
            have e : (a1.extract 0 (LK.pre (prts a0)).toArray.size).data.toList = a1.data.toList.take (LK.pre (prts a0)).length := by simp
            rw [e, h1]
            simp
    · exact Or.inl ⟨he, by simp [he]⟩

set_option maxRecDepth 100000 in
theorem lifted (os : Os) (started : os.Started) (H : Type) (enc : TypeId × Value → H) :
    ReturnsInHanded {} Tryd.checked os 9 .any (fun w args => (Rows.likeFirstSpec.pre enc Tryd.prog Tryd.f9 [] false w args ∧ laidMetH Tryd.prog Rows.likeFirstRow.laid w) ∧ sizedMet enc Tryd.prog Tryd.f9 (OpenSpec.ofChange Rows.likeFirstSpec) false w args)
      (Rows.likeFirstSpec.post enc Tryd.prog Tryd.f9 false true false false) := by
  refine returnsInHanded_of_change_and (C := Tryd.checked) (X := fun w _ => laidMetH Tryd.prog Rows.likeFirstRow.laid w) (fun _ _ _ hh h => h.of_heap hh) own started (by kernel_rfl) Tryd.func9
    (ChangeSpec.witness_shaped (enc := enc) (C := Tryd.checked) (os := os) (X := fun w _ => laidMetH Tryd.prog Rows.likeFirstRow.laid w) false (World.laidAll Tryd.prog os Rows.likeFirstRow.laid) #[.string ByteArray.empty, .string ByteArray.empty] 8 (World.laidAll_os _ _ _)
      (World.shaped_of_ZipB (by kernel_rfl) (by kernel_rfl)) (by kernel_rfl) (by kernel_rfl) (by kernel_rfl)
      (by rw [MakeChecks.laidMetH_plain _ _ _ (by kernel_rfl)]; exact laidMet_laidAll _ (by kernel_rfl) (by kernel_rfl))) ?_
  intro W base args ds gs before hval0 hW hcnd hsz0 hL _
  have hT : Tb W := tabs_of_laid hL
  have hval : ∀ (j : Nat) t v, Tryd.f9.params[j]? = some t → args[j]? = some v → Value.okWide Tryd.prog W .any base t v := hval0
  have hsz : (DataW.weightsEach Tryd.prog (Tryd.f9.params.toList ++ Rows.likeFirstSpec.plain.varTypes Tryd.prog) (ds ++ gs)).all (· ≤ reachBytes) = true := hsz0
  have hW' := hW
  obtain ⟨p, q, hA0, hV, rfl, hfz, hnd⟩ := hW
  have hA : DataW.TrodAll enc Tryd.prog W 0 (fun _ => true) true Tryd.f9.params.toList args.toList ds p := hA0
  rw [Tryd.params9] at hA hval hsz
  obtain ⟨v0, vs0, d0, ds0, p0, q0, hargs, rfl, rfl, h0, r0⟩ := trodAll_cons hA
  obtain ⟨v1, vs1, d1, ds1, p1, q1, rfl, rfl, rfl, h1, r1⟩ := trodAll_cons r0
  obtain ⟨rfl, rfl, rfl⟩ := trodAll_nil r1
  obtain rfl : args = #[v0, v1] := by cases args; simp_all
  obtain ⟨rfl, rfl⟩ := trodVars_none hV
  obtain ⟨a0, rfl, rfl, rfl, w0⟩ := open_string Tryd.underlying9 (hval 0 9 v0 rfl rfl) h0
  obtain ⟨a1, rfl, rfl, rfl, w1⟩ := open_string Tryd.underlying9 (hval 1 9 v1 rfl rfl) h1
  have b0 : a0.size ≤ 140737488351232 := by
    have h := sized_string hsz (j := 0) (t := 9) rfl rfl
    simpa [reachBytes] using h
  have b1 : a1.size ≤ 140737488351232 := by
    have h := sized_string hsz (j := 1) (t := 9) rfl rfl
    simpa [reachBytes] using h
  clear hA0 hval0 hsz0
  refine (walk a0 a1 W hT b0 b1).mono fun e W' ⟨he, bel⟩ => ?_
  subst he
  exact ⟨_, rfl, _, _, _, [], _, [], hW', trodAll_mk1 (shut_bool Tryd.underlying4 _), (trodAll_cons_mk (shut_string Tryd.underlying9 w0) (trodAll_cons_mk (shut_string Tryd.underlying9 w1) trodAll_mk0)), rfl, Below.frame bel _, fun h => by cases h⟩

theorem over : Rows.likeFirstRow.holds Tryd.pinned (OpenSpec.ofChange Rows.likeFirstSpec) :=
  OpenClaim.holds_of_wide 9 Tryd.f9 rfl rfl rfl rfl rfl rfl rfl ⟨rfl, rfl, rfl, rfl, rfl⟩ rfl rfl rfl rfl rfl (by kernel_rfl) Tryd.func9 (by kernel_rfl)
    (of_decide_eq_true (by kernel_rfl)) (by unfold Func.isWrapper; first | (rw [if_pos (by decide +kernel)]; kernel_rfl) | (rw [if_neg (by decide +kernel)]; exact ⟨rfl, rfl⟩))
    (fun os started H enc _ => lifted os started H enc)

theorem card : Rows.LikeFirstCardSaid :=
  Claim7.holds_tied_plain_at .later [] [.data, .pinned] true (true, "16a35cc793bfe44f891744ca83cbcb2362c0f7c3e5d28fcb30ada395105c9e56") false
    over (fun _ h => by cases h) (by kernel_rfl) (fun _ h => by cases h) likeFirst_row_tie rfl ⟨rfl, rfl⟩ (by kernel_rfl) rfl
    (fun f fn hf hfn => by
      obtain rfl : f = 9 := Option.some.inj ((show Tryd.prog.funcNamed "starling/starlinglaw.LikeFirst" = some 9 by kernel_rfl).symm.trans hf) |>.symm
      obtain rfl : fn = Tryd.f9 := (Option.some.inj (Tryd.func9.symm.trans hfn)).symm
      exact ⟨by kernel_rfl, fun j t ht => by
        rw [Tryd.params9] at ht
        have hm : t ∈ [9, 9] := by simpa using Array.mem_of_getElem? ht
        have hall : ([9, 9].all fun u => !Tryd.prog.wantsStandIn u) = true := by kernel_rfl
        exact (show Tryd.prog.wantsStandIn t = false by simpa using List.all_eq_true.1 hall t hm)⟩)
    (by kernel_rfl)

end likeFirstProof
theorem likeFirst_holds : Rows.LikeFirstCardSaid := likeFirstProof.card
#print axioms likeFirst_holds
end Go.Proofs.YtgjgmaadogkjfaaDoor
