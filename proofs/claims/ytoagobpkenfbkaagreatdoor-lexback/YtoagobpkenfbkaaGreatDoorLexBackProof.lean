/-
  Proved: for every list of tokens LexBack answers true: what is printed is read as the tokens it is of. No condition but the form's own reach.
-/
import Derived.Test.YtoagobpkenfbkaaGreatDoorLzB
namespace Go.Proofs.YtoagobpkenfbkaaGreatDoor.lexBackProof
open Go.ChangeShapes Go.WideShapes Go.ChangeAt Go.RowKit
open Go.ChangeMaps (open_string shut_string)
set_option linter.unusedVariables false
set_option linter.unusedSimpArgs false
set_option maxRecDepth 100000

set_option maxHeartbeats 4000000 in
theorem core (v : Value) (l : List (Int × LX.Tk)) (w : World) (hT : Tb w) (S : ByteArray) (c : Nat) (qs : List (Nat × LX.Tk)) (hv : IsTk w v l) (hl : l.length ≤ 9223372036854775806) (hS : S.size ≤ 140737488355327)
    (c1 : Calls Tryz.prog 13 #[v] w fun r w' => r = .returned (.tuple #[.string S, .int .i64 c]) ∧ Fr w w')
    (h0 : c ≠ 0 → S = ⟨#[]⟩)
    (h3 : c = 0 → LX.lex S.data.toList = .ok qs ∧ qs.map (·.2) = l.map (·.2)) :
    Calls Tryz.prog 5 #[v] w fun r w' => r = .returned (.bool true) ∧ Fr w w' := by
  have HV : Hid (IsTk w v l) := hv
  clear hv
  go_enter Tryz.func5, Tryz.ntmps5
  go_wp2_with fail
  refine c1.mono ?_
  rintro _ w1 ⟨rfl, f1⟩
  clear c1
  go_wp2_with fail
  refine (begun_any _ (hT.fr f1)).mono ?_
  rintro _ w2 ⟨rfl, f2⟩
  have F2 : Hid (Fr w w2) := f1.trans f2
  clear f1 f2
  by_cases he : c = 0
  · subst he
    obtain ⟨h4, h5⟩ := h3 rfl
    have c4 := lex_out S w2 hS (hT.fr F2.out)
    have H5 : Hid _ := h5
    rw [h4] at c4
    clear h3 h4 h5 h0
    go_wp2_with fail
    refine c4.mono ?_
    rintro _ w4 ⟨a3, k3, i3, e3, rs', rfl, f4, o4, h6⟩
    rcases h6 with ⟨rfl, rfl, h7⟩ | ⟨_, _, h7⟩
    · obtain rfl : qs = rs' := by injection h7
      have F4 : Hid (Fr w w4) := F2.out.trans f4
      have c5 := sameToks_eq v _ l (tz qs) w4 (IsTk.fr HV.out F4.out) (Ot.tk o4) (by rw [tz_snd]; exact H5.out.symm) hl
      clear f4 o4 h7 F2 c4 H5 HV
      go_wp2_with fail
      refine c5.mono ?_
      rintro _ w5 ⟨rfl, f5⟩
      have F5 : Hid (Fr w w5) := F4.out.trans f5
      clear c5 f5
      go_wp2_with fail
      go_ret
      exact ⟨rfl, F5.out⟩
    · exact absurd rfl (h7 qs)
  · have n1 : ((c : Int) != 0) = true := by simp; omega
    have n2 : ¬ ((c : Int) = 0) := by omega
    obtain rfl := h0 he
    clear h3 h0 he
    go_wp2_with fail
    go_ret
    exact ⟨rfl, F2.out⟩

theorem walk (v : Value) (l : List (Int × LX.Tk)) (w : World) (hT : Tb w) (hv : IsTk w v l) (hw : WideT l) (hl : l.length * 40 ≤ 140737488351232) :
    Calls Tryz.prog 5 #[v] w fun r w' => r = .returned (.bool true) ∧ Fr w w' := by
  have c1 := print_any v l w hv (by omega) hw hT
  by_cases hE : prE (l.map (·.2)) = 0
  · have h1 : l.length ≤ 120 ∧ fe (l.map (·.2)) = 0 ∧ (LX.pt (l.map (·.2))).length ≤ 300 := by
      unfold prE at hE
      split at hE
      · cases hE
      · split at hE
        · rename_i h2; exact absurd hE h2
        · split at hE
          · cases hE
          · rename_i h2 h3 h4
            simp only [List.length_map] at h2
            exact ⟨by omega, by simpa using h3, by omega⟩
    obtain ⟨h2, h3, h4⟩ := h1
    rw [prV_ok hE] at c1
    have hall := fe_all h3
    obtain ⟨qs, h5, h6⟩ := LX.lex_pt (l.map (·.2)) (fun t ht => ⟨hall t ht, by
      obtain ⟨p, hp, rfl⟩ := List.mem_map.1 ht
      exact (hw p hp).1.2⟩) (by rw [List.length_map]; exact h2) h4
    exact core v l w hT ⟨(LX.pt (l.map (·.2))).toArray⟩ 0 qs hv (by omega) (by rw [mk_size]; omega) c1 (fun h => absurd rfl h) (fun _ => ⟨h5, h6⟩)
  · rw [prV_bad rfl hE] at c1
    exact core v l w hT ⟨#[]⟩ (prE (l.map (·.2))) [] hv (by omega) (by decide) c1 (fun _ => rfl) (fun h => absurd h hE)

set_option maxRecDepth 100000 in
theorem lifted (os : Os) (started : os.Started) (H : Type) (enc : TypeId × Value → H) :
    ReturnsInHanded {} Tryz.checked os 5 .any (fun w args => (Rows.lexBackSpec.pre enc Tryz.prog Tryz.f5 [] false w args ∧ laidMetH Tryz.prog Rows.lexBackRow.laid w) ∧ sizedMet enc Tryz.prog Tryz.f5 (OpenSpec.ofChange Rows.lexBackSpec) false w args)
      (Rows.lexBackSpec.post enc Tryz.prog Tryz.f5 false true false false) := by
  refine returnsInHanded_of_change_and (C := Tryz.checked) (X := fun w _ => laidMetH Tryz.prog Rows.lexBackRow.laid w) (fun _ _ _ hh h => h.of_heap hh) own started (by kernel_rfl) Tryz.func5
    (ChangeSpec.witness_shaped (enc := enc) (C := Tryz.checked) (os := os) (X := fun w _ => laidMetH Tryz.prog Rows.lexBackRow.laid w) false (World.laidAll Tryz.prog os Rows.lexBackRow.laid) #[.slice none 0 0] 8 (World.laidAll_os _ _ _)
      (World.shaped_of_ZipB (by kernel_rfl) (by kernel_rfl)) (by kernel_rfl) (by kernel_rfl) (by kernel_rfl)
      (by rw [MakeChecks.laidMetH_plain _ _ _ (by kernel_rfl)]; exact laidMet_laidAll _ (by kernel_rfl) (by kernel_rfl))) ?_
  intro W base args ds gs before hval0 hW hcnd hsz0 hL _
  have hT : Tb W := tabs_of_laid hL
  have hval : ∀ (j : Nat) t v, Tryz.f5.params[j]? = some t → args[j]? = some v → Value.okWide Tryz.prog W .any base t v := hval0
  have hsz : (DataW.weightsEach Tryz.prog (Tryz.f5.params.toList ++ Rows.lexBackSpec.plain.varTypes Tryz.prog) (ds ++ gs)).all (· ≤ reachBytes) = true := hsz0
  have hW' := hW
  obtain ⟨p, q, hA0, hV, rfl, hfz, hnd⟩ := hW
  have hA : DataW.TrodAll enc Tryz.prog W 0 (fun _ => true) true Tryz.f5.params.toList args.toList ds p := hA0
  rw [Tryz.params5] at hA hval hsz
  obtain ⟨v0, vs0, d0, ds0, p0, q0, hargs, rfl, rfl, h0, r0⟩ := trodAll_cons hA
  obtain ⟨rfl, rfl, rfl⟩ := trodAll_nil r0
  obtain rfl : args = #[v0] := by cases args; simp_all
  obtain ⟨rfl, rfl⟩ := trodVars_none hV
  obtain ⟨l0, rw0, wd0, ln0, dd0⟩ := open_toks (hval 0 22 v0 rfl rfl) h0
  have b0 : l0.length * 40 ≤ 140737488351232 := by
    rcases dd0 with ⟨_, rfl⟩ | ⟨es, sp, hd, hl⟩
    · simp
    · have h := sized_slice hsz (j := 0) (t := 22) rfl (by rw [hd]; rfl) Tryz.underlying22
      rw [Tryz.bytesTok] at h
      unfold reachBytes at h
      omega
  clear hA0 hval0 hsz0
  refine (walk v0 l0 W hT rw0 wd0 b0).mono fun e W' ⟨he, bel⟩ => ?_
  subst he
  exact ⟨_, rfl, _, _, _, [], _, [], hW', trodAll_mk1 (shut_bool Tryz.underlying4 _), (trodAll_cons_mk (shut_toks h0 bel) trodAll_mk0), rfl, Below.frame bel _, fun h => by cases h⟩

theorem over : Rows.lexBackRow.holds Tryz.pinned (OpenSpec.ofChange Rows.lexBackSpec) :=
  OpenClaim.holds_of_wide 5 Tryz.f5 rfl rfl rfl rfl rfl rfl rfl ⟨rfl, rfl, rfl, rfl, rfl⟩ rfl rfl rfl rfl rfl (by kernel_rfl) Tryz.func5 (by kernel_rfl)
    (of_decide_eq_true (by kernel_rfl)) (by unfold Func.isWrapper; first | (rw [if_pos (by decide +kernel)]; kernel_rfl) | (rw [if_neg (by decide +kernel)]; exact ⟨rfl, rfl⟩))
    (fun os started H enc _ => lifted os started H enc)

theorem card : Rows.LexBackCardSaid :=
  Claim7.holds_tied_plain_at .later [] [.data, .data, .data, .data, .sentinel, .sentinel, .data, .pinned, .pinned] true (true, "62c4b41291f1d41b5f601ce3e7ea6ddf8f9ef4a9837f15d44a81d122d6571cc0") true
    over (fun _ h => by cases h) (by kernel_rfl) (fun _ h => by cases h) lexBack_row_tie rfl ⟨rfl, rfl⟩ (by kernel_rfl) rfl
    (fun f fn hf hfn => by
      obtain rfl : f = 5 := Option.some.inj ((show Tryz.prog.funcNamed "starling/starlinglaw.LexBack" = some 5 by kernel_rfl).symm.trans hf) |>.symm
      obtain rfl : fn = Tryz.f5 := (Option.some.inj (Tryz.func5.symm.trans hfn)).symm
      exact ⟨by kernel_rfl, fun j t ht => by
        rw [Tryz.params5] at ht
        have hm : t ∈ [22] := by simpa using Array.mem_of_getElem? ht
        have hall : ([22].all fun u => !Tryz.prog.wantsStandIn u) = true := by kernel_rfl
        exact (show Tryz.prog.wantsStandIn t = false by simpa using List.all_eq_true.1 hall t hm)⟩)
    (by kernel_rfl)

end Go.Proofs.YtoagobpkenfbkaaGreatDoor.lexBackProof
namespace Go.Proofs.YtoagobpkenfbkaaGreatDoor
theorem lexBack_holds : Rows.LexBackCardSaid := lexBackProof.card
#print axioms lexBack_holds
end Go.Proofs.YtoagobpkenfbkaaGreatDoor
