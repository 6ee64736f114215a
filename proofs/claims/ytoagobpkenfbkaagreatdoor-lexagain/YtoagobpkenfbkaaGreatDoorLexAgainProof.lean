/-
  Proved: for every text LexAgain answers true: what is read can be printed, if it is not too long then, and is read from there as it was. No condition but the form's own reach.
-/
import Derived.Test.YtoagobpkenfbkaaGreatDoorLzB
namespace Go.Proofs.YtoagobpkenfbkaaGreatDoor.lexAgainProof
open Go.ChangeShapes Go.WideShapes Go.ChangeAt Go.RowKit
open Go.ChangeMaps (open_string shut_string)
set_option linter.unusedVariables false
set_option linter.unusedSimpArgs false
set_option maxRecDepth 100000

set_option maxHeartbeats 4000000 in
theorem core (s : ByteArray) (w : World) (hT : Tb w) (S : ByteArray) (c : Nat) (ps qs : List (Nat × LX.Tk)) (hS : S.size ≤ 140737488355327)
    (k : Int) (e : Nat) (hps : ps.length ≤ 9223372036854775806)
    (c1 : Calls Tryz.prog 9 #[.string s] w fun r w' => ∃ a cap, r = .returned (.tuple #[.slice a ps.length cap, .int .i64 k, .int .i64 e]) ∧ Fr w w' ∧ Ot w.heap.size (.slice a ps.length cap) ps w')
    (h0 : e ≠ 0 → ps = [])
    (c2 : e = 0 → ∀ a cap W, Tb W → IsTk W (.slice a ps.length cap) (tz ps) → Calls Tryz.prog 13 #[.slice a ps.length cap] W fun r w' => r = .returned (.tuple #[.string S, .int .i64 c]) ∧ Fr W w')
    (hc : e = 0 → c = 0 ∨ c = 2)
    (h3 : e = 0 → c = 0 → LX.lex S.data.toList = .ok qs ∧ qs.map (·.2) = ps.map (·.2)) :
    Calls Tryz.prog 6 #[.string s] w fun r w' => r = .returned (.bool true) ∧ Fr w w' := by
  go_enter Tryz.func6, Tryz.ntmps6
  go_wp2_with fail
  refine c1.mono ?_
  rintro _ w1 ⟨a, cap, rfl, f1, o1⟩
  clear c1
  go_wp2_with fail
  refine (begun_any _ (hT.fr f1)).mono ?_
  rintro _ w2 ⟨rfl, f2⟩
  have F2 : Hid (Fr w w2) := f1.trans f2
  have T2 : Hid (IsTk w2 (.slice a ps.length cap) (tz ps)) := (Ot.tk o1).fr f2
  have HT2 : Hid (Tb w2) := hT.fr F2.out
  clear f1 f2 o1
  by_cases he : e = 0
  · subst he
    have c3 := c2 rfl a cap w2 HT2.out T2.out
    have H3 : Hid _ := h3 rfl
    have HC : Hid _ := hc rfl
    clear c2 h3 hc h0
    go_wp2_with fail
    refine c3.mono ?_
    rintro _ w3 ⟨rfl, f3⟩
    have F3 : Hid (Fr w w3) := F2.out.trans f3
    have T3 : Hid (IsTk w3 (.slice a ps.length cap) (tz ps)) := IsTk.fr T2.out f3
    clear c3 f3 F2 T2
    by_cases hc0 : c = 0
    · subst hc0
      obtain ⟨h4, h5⟩ := H3.out rfl
      have c4 := lex_out S w3 hS (hT.fr F3.out)
      have H5 : Hid _ := h5
      rw [h4] at c4
      clear H3 HC h4 h5
      go_wp2_with fail
      refine c4.mono ?_
      rintro _ w4 ⟨a3, k3, i3, e3, rs', rfl, f4, o4, h6⟩
      rcases h6 with ⟨rfl, rfl, h7⟩ | ⟨_, _, h7⟩
      · obtain rfl : qs = rs' := by injection h7
        have c5 := sameToks_eq _ _ (tz ps) (tz qs) w4 (IsTk.fr T3.out f4) (Ot.tk o4) (by rw [tz_snd, tz_snd]; exact H5.out.symm) (by rw [tz_len]; exact hps)
        have F4 : Hid (Fr w w4) := F3.out.trans f4
        clear f4 o4 h7 T3 F3 c4 H5
        go_wp2_with fail
        refine c5.mono ?_
        rintro _ w5 ⟨rfl, f5⟩
        have F5 : Hid (Fr w w5) := F4.out.trans f5
        clear c5 f5
        go_wp2_with fail
        go_ret
        exact ⟨rfl, F5.out⟩
      · exact absurd rfl (h7 qs)
    · obtain rfl : c = 2 := (HC.out).resolve_left hc0
      clear H3 HC hc0
      go_wp2_with fail
      go_ret
      exact ⟨rfl, F3.out⟩
  · have n1 : ((e : Int) != 0) = true := by simp; omega
    have n2 : ¬ ((e : Int) = 0) := by omega
    obtain rfl := h0 he
    clear c2 h3 hc h0 he
    go_wp2_with fail
    go_ret
    exact ⟨rfl, F2.out⟩

theorem walk (s : ByteArray) (w : World) (hT : Tb w) (hs : s.size ≤ 140737488351232) :
    Calls Tryz.prog 6 #[.string s] w fun r w' => r = .returned (.bool true) ∧ Fr w w' := by
  cases hX : LX.lex s.data.toList with
  | error p =>
    obtain ⟨k, c⟩ := p
    refine core s w hT ⟨#[]⟩ 0 [] [] (by decide) k c (by simp) ?_ (fun _ => rfl) (fun h => absurd h (lex_err hX)) (fun _ => Or.inl rfl) (fun h => absurd h (lex_err hX))
    refine (lex_any s w (by omega) hT).mono ?_
    rintro e w' ⟨h1, hf⟩
    rw [hX] at h1
    exact ⟨none, 0, h1, hf, World.ownsRow_nil _ _ _ _⟩
  | ok ps =>
    obtain ⟨h1, h2, h3⟩ := LX.lex_again _ _ hX
    have hok : ∀ t ∈ ps.map (·.2), LX.chk t = 0 := fun t ht => by
      obtain ⟨p, hp, rfl⟩ := List.mem_map.1 ht
      exact (h1 p hp).1
    have hE := prE_ok hok (by rw [List.length_map]; exact h2)
    have c1 : Calls Tryz.prog 9 #[.string s] w fun r w' => ∃ a cap, r = .returned (.tuple #[.slice a ps.length cap, .int .i64 0, .int .i64 (0 : Nat)]) ∧ Fr w w' ∧ Ot w.heap.size (.slice a ps.length cap) ps w' := by
      refine (lex_out s w (by omega) hT).mono ?_
      rintro e w' ⟨a, cap, k, c, rs, rfl, hf, ho, h4⟩
      rcases h4 with ⟨rfl, rfl, h5⟩ | ⟨_, _, h5⟩
      · rw [hX] at h5
        obtain rfl : ps = rs := by injection h5
        exact ⟨a, cap, rfl, hf, ho⟩
      · exact absurd hX (h5 ps)
    have c2 : ∀ a cap W, Tb W → IsTk W (.slice a ps.length cap) (tz ps) → Calls Tryz.prog 13 #[.slice a ps.length cap] W fun r w' => r = .returned (prV (ps.map (·.2))) ∧ Fr W w' := fun a cap W hW hv => by
      have := print_any (.slice a ps.length cap) (tz ps) W hv (by rw [tz_len]; omega) (fun p hp => by
        obtain ⟨q, hq, rfl⟩ := List.mem_map.1 hp
        exact ok_bounds (h1 q hq)) hW
      rw [tz_snd] at this
      exact this
    by_cases h300 : 300 < (LX.pt (ps.map (·.2))).length
    · rw [if_pos h300] at hE
      rw [prV_bad hE (by decide)] at c2
      exact core s w hT ⟨#[]⟩ 2 ps [] (by decide) 0 0 (by omega) c1 (fun h => absurd rfl h) (fun _ => c2) (fun _ => Or.inr rfl) (fun _ h => by cases h)
    · rw [if_neg h300] at hE
      rw [prV_ok hE] at c2
      obtain ⟨qs, h5, h6⟩ := h3 (by omega)
      exact core s w hT ⟨(LX.pt (ps.map (·.2))).toArray⟩ 0 ps qs (by rw [mk_size]; omega) 0 0 (by omega) c1 (fun h => absurd rfl h) (fun _ => c2) (fun _ => Or.inl rfl) (fun _ _ => ⟨h5, h6⟩)

set_option maxRecDepth 100000 in
theorem lifted (os : Os) (started : os.Started) (H : Type) (enc : TypeId × Value → H) :
    ReturnsInHanded {} Tryz.checked os 6 .any (fun w args => (Rows.lexAgainSpec.pre enc Tryz.prog Tryz.f6 [] false w args ∧ laidMetH Tryz.prog Rows.lexAgainRow.laid w) ∧ sizedMet enc Tryz.prog Tryz.f6 (OpenSpec.ofChange Rows.lexAgainSpec) false w args)
      (Rows.lexAgainSpec.post enc Tryz.prog Tryz.f6 false true false false) := by
  refine returnsInHanded_of_change_and (C := Tryz.checked) (X := fun w _ => laidMetH Tryz.prog Rows.lexAgainRow.laid w) (fun _ _ _ hh h => h.of_heap hh) own started (by kernel_rfl) Tryz.func6
    (ChangeSpec.witness_shaped (enc := enc) (C := Tryz.checked) (os := os) (X := fun w _ => laidMetH Tryz.prog Rows.lexAgainRow.laid w) false (World.laidAll Tryz.prog os Rows.lexAgainRow.laid) #[.string ByteArray.empty] 8 (World.laidAll_os _ _ _)
      (World.shaped_of_ZipB (by kernel_rfl) (by kernel_rfl)) (by kernel_rfl) (by kernel_rfl) (by kernel_rfl)
      (by rw [MakeChecks.laidMetH_plain _ _ _ (by kernel_rfl)]; exact laidMet_laidAll _ (by kernel_rfl) (by kernel_rfl))) ?_
  intro W base args ds gs before hval0 hW hcnd hsz0 hL _
  have hT : Tb W := tabs_of_laid hL
  have hval : ∀ (j : Nat) t v, Tryz.f6.params[j]? = some t → args[j]? = some v → Value.okWide Tryz.prog W .any base t v := hval0
  have hsz : (DataW.weightsEach Tryz.prog (Tryz.f6.params.toList ++ Rows.lexAgainSpec.plain.varTypes Tryz.prog) (ds ++ gs)).all (· ≤ reachBytes) = true := hsz0
  have hW' := hW
  obtain ⟨p, q, hA0, hV, rfl, hfz, hnd⟩ := hW
  have hA : DataW.TrodAll enc Tryz.prog W 0 (fun _ => true) true Tryz.f6.params.toList args.toList ds p := hA0
  rw [Tryz.params6] at hA hval hsz
  obtain ⟨v0, vs0, d0, ds0, p0, q0, hargs, rfl, rfl, h0, r0⟩ := trodAll_cons hA
  obtain ⟨rfl, rfl, rfl⟩ := trodAll_nil r0
  obtain rfl : args = #[v0] := by cases args; simp_all
  obtain ⟨rfl, rfl⟩ := trodVars_none hV
  obtain ⟨a0, rfl, rfl, rfl, w0⟩ := open_string Tryz.underlying9 (hval 0 9 v0 rfl rfl) h0
  have b0 : a0.size ≤ 140737488351232 := by
    have h := sized_string hsz (j := 0) (t := 9) rfl rfl
    simpa [reachBytes] using h
  clear hA0 hval0 hsz0
  refine (walk a0 W hT b0).mono fun e W' ⟨he, bel⟩ => ?_
  subst he
  exact ⟨_, rfl, _, _, _, [], _, [], hW', trodAll_mk1 (shut_bool Tryz.underlying4 _), (trodAll_cons_mk (shut_string Tryz.underlying9 w0) trodAll_mk0), rfl, Below.frame bel _, fun h => by cases h⟩

theorem over : Rows.lexAgainRow.holds Tryz.pinned (OpenSpec.ofChange Rows.lexAgainSpec) :=
  OpenClaim.holds_of_wide 6 Tryz.f6 rfl rfl rfl rfl rfl rfl rfl ⟨rfl, rfl, rfl, rfl, rfl⟩ rfl rfl rfl rfl rfl (by kernel_rfl) Tryz.func6 (by kernel_rfl)
    (of_decide_eq_true (by kernel_rfl)) (by unfold Func.isWrapper; first | (rw [if_pos (by decide +kernel)]; kernel_rfl) | (rw [if_neg (by decide +kernel)]; exact ⟨rfl, rfl⟩))
    (fun os started H enc _ => lifted os started H enc)

theorem card : Rows.LexAgainCardSaid :=
  Claim7.holds_tied_plain_at .later [] [.data, .data, .data, .data, .sentinel, .sentinel, .data, .pinned, .pinned] true (true, "62c4b41291f1d41b5f601ce3e7ea6ddf8f9ef4a9837f15d44a81d122d6571cc0") true
    over (fun _ h => by cases h) (by kernel_rfl) (fun _ h => by cases h) lexAgain_row_tie rfl ⟨rfl, rfl⟩ (by kernel_rfl) rfl
    (fun f fn hf hfn => by
      obtain rfl : f = 6 := Option.some.inj ((show Tryz.prog.funcNamed "starling/starlinglaw.LexAgain" = some 6 by kernel_rfl).symm.trans hf) |>.symm
      obtain rfl : fn = Tryz.f6 := (Option.some.inj (Tryz.func6.symm.trans hfn)).symm
      exact ⟨by kernel_rfl, fun j t ht => by
        rw [Tryz.params6] at ht
        have hm : t ∈ [9] := by simpa using Array.mem_of_getElem? ht
        have hall : ([9].all fun u => !Tryz.prog.wantsStandIn u) = true := by kernel_rfl
        exact (show Tryz.prog.wantsStandIn t = false by simpa using List.all_eq_true.1 hall t hm)⟩)
    (by kernel_rfl)

end Go.Proofs.YtoagobpkenfbkaaGreatDoor.lexAgainProof
namespace Go.Proofs.YtoagobpkenfbkaaGreatDoor
theorem lexAgain_holds : Rows.LexAgainCardSaid := lexAgainProof.card
#print axioms lexAgain_holds
end Go.Proofs.YtoagobpkenfbkaaGreatDoor
