/-
  Proved: for every two numbers and page PageBlank answers true: no blank place is a page, nor one that lacks its end. No condition but the form's own reach.
-/
import Derived.Test.YtfjdialbjbomdaaDoorTabs
namespace Go.Proofs.YtfjdialbjbomdaaDoor.pageBlankProof
open Go.ChangeShapes Go.WideShapes Go.ChangeAt Go.RowKit
open Go.ChangeMaps (open_string shut_string)
set_option linter.unusedVariables false
set_option linter.unusedSimpArgs false
set_option maxRecDepth 100000

set_option maxHeartbeats 4000000 in
theorem core (no kind owner m n : Int) (s S N : ByteArray) (c d : Nat) (hd : d ≠ 0) (p : PG.Pg) (w : World) (hS : c = 0 → S.size = 256)
    (c0 : ∀ W, Calls Tryd.prog 17 #[.int .i64 256] W fun e w' => e = .returned (.string N) ∧ Fr W w')
    (c5 : ∀ W, Calls Tryd.prog 10 #[.int .i64 m, .string N] W fun e w' => e = .returned (.tuple #[.agg #[.int .i64 p.no, .int .i64 p.kind, .int .i64 p.owner, .string ⟨p.body.toArray⟩], .int .i64 (d : Int)]) ∧ Fr W w')
    (c1 : ∀ W, Calls Tryd.prog 9 #[.agg #[.int .i64 no, .int .i64 kind, .int .i64 owner, .string s]] W fun e w' => e = .returned (.tuple #[.string S, .int .i64 (c : Int)]) ∧ Fr W w')
    (c3 : c = 0 → ∀ (k : Nat), k < 256 → ∀ W, Calls Tryd.prog 10 #[.int .i64 no, .string (S.extract 0 k)] W fun e w' => e = .returned (.tuple #[.agg #[.int .i64 0, .int .i64 0, .int .i64 0, .string ⟨#[]⟩], .int .i64 1]) ∧ Fr W w') :
    Calls Tryd.prog 8 #[.int .i64 m, .int .i64 n, .agg #[.int .i64 no, .int .i64 kind, .int .i64 owner, .string s]] w fun e w' => e = .returned (.bool true) ∧ Fr w w' := by
  obtain ⟨W0, hW0⟩ : ∃ W0, w.alloc (.cells #[.int .i64 no, .int .i64 kind, .int .i64 owner, .string s] 23) = W0 := ⟨_, rfl⟩
  have f0 : Fr w W0 := by rw [← hW0]; exact (Fr.refl w).alloc _
  have b0 : Bp W0 w.heap.size no kind owner s := by rw [← hW0]; exact Bp.new _ _ _ _ _
  obtain ⟨g, hg⟩ : ∃ g, w.heap.size = g := ⟨_, rfl⟩
  rw [hg] at b0
  generalize (⟨p.body.toArray⟩ : ByteArray) = t at *
  generalize p.no = x1 at *
  generalize p.kind = x2 at *
  generalize p.owner = x3 at *
  have d1 : ((d : Int) == 0) = false := by simp; omega
  have d2 : ¬ ((d : Int) = 0) := by omega
  clear hd
  go_enter Tryd.func8, Tryd.ntmps8
  go_wp2_with fail
  refine (c0 _).mono ?_
  rintro _ w1 ⟨rfl, f1⟩
  have F1 : Fr w w1 := f0.trans f1
  have b1 := b0.fr f1
  clear f0 f1 b0 hW0 c0
  go_wp2_with fail
  refine (c5 _).mono ?_
  rintro _ w2 ⟨rfl, f2⟩
  have F2 : Fr w w2 := F1.trans f2
  have b2 := (b1.fr f2).fr ((Fr.refl _).alloc (.cells #[.int .i64 x1, .int .i64 x2, .int .i64 x3, .string t] 23))
  clear f2 b1 F1 c5
  have q0 := b2.c0
  have q1 := b2.c1
  have q2 := b2.c2
  have q3 := b2.c3
  go_wp2_with fail
  refine (c1 _).mono ?_
  rintro _ w3 ⟨rfl, f3⟩
  have F3 : Fr w w3 := (F2.alloc _).trans f3
  have b3 := b2.fr f3
  clear f3 b2 F2 c1 q0 q1 q2 q3
  go_wp2_with fail
  refine (begun_any _).mono ?_
  rintro _ w4 ⟨rfl, f4⟩
  have F4 : Fr w w4 := F3.trans f4
  have b4 := b3.fr f4
  clear f4 b3 F3
  have q0 := b4.c0
  by_cases hc : c = 0
  · subst hc
    have hS' := hS rfl
    by_cases h1 : n < 0
    · clear c3
      go_wp2_with fail
      go_ret
      exact ⟨rfl, F4⟩
    · have h1' : 0 ≤ n := by omega
      by_cases h2 : 256 ≤ n
      · clear c3 h1
        go_wp2_with fail
        go_ret
        exact ⟨rfl, F4⟩
      · obtain ⟨k, rfl⟩ := Int.eq_ofNat_of_zero_le h1'
        have h2' : (k : Int) < 256 := by omega
        have c4 := c3 rfl k (by omega)
        clear c3 h1 h2 hS
        go_wp2_with fail
        have q0a := cell_fr q0 ((Fr.refl w4).alloc (.cells #[.int .i64 0, .int .i64 0, .int .i64 0, .string ⟨#[]⟩] 23))
        go_region_with (first
          | (go_at_call 10; refine (c4 w4.drew).mono ?_; rintro _ w5 ⟨rfl, f5⟩; have F5 : Fr w w5 := Fr.trans F4 (Fr.trans ((Fr.refl _).drew) f5))
          | (go_at_call 10; refine (c4 (w4.alloc (.cells #[.int .i64 0, .int .i64 0, .int .i64 0, .string ⟨#[]⟩] 23)).drew).mono ?_; rintro _ w5 ⟨rfl, f5⟩; have u5 := (Bp.new w4 0 0 0 ⟨#[]⟩).fr (Fr.trans ((Fr.refl _).drew) f5); have k0 := u5.c0; have k1 := u5.c1; have k2 := u5.c2; have k3 := u5.c3; have zz0 := u5.z 0; have zz1 := u5.z 1; have zz2 := u5.z 2; have zz3 := u5.z 3; have F5 : Fr w w5 := Fr.trans F4 (Fr.trans (((Fr.refl _).alloc _).drew) f5)))
        all_goals
          go_wp2_with fail
          go_ret
          first
            | exact ⟨rfl, F5.alloc _⟩
            | exact ⟨rfl, fr_zero F5 (Fr.size F4) _ _ _ _⟩
  · have n1 : ((c : Int) != 0) = true := by simp; omega
    have n2 : ¬ ((c : Int) = 0) := by omega
    clear c3 hc hS
    go_wp2_with fail
    go_ret
    exact ⟨rfl, F4⟩

theorem walk (m n : Int) (p : PG.Pg) (w : World) (hT : Tb w) (hm : -9223372036854775808 ≤ m ∧ m ≤ 9223372036854775807) (hn : -9223372036854775808 ≤ n ∧ n ≤ 9223372036854775807) (hp : p.body.length ≤ maxLen) : Calls Tryd.prog 8 #[.int .i64 m, .int .i64 n, pgV p] w fun e w' => e = .returned (.bool true) ∧ Fr w w' := by
  have c5 := fun W => open_any m ⟨(PG.noughts 256).toArray⟩ W
  have hd := PG.blank m
  rw [dl_mk] at c5
  unfold opV pgV at c5
  by_cases h : PG.chk p = 0
  · refine core p.no p.kind p.owner m n ⟨p.body.toArray⟩ ⟨(PG.sld p).toArray⟩ ⟨(PG.noughts 256).toArray⟩ 0 (PG.opn m (PG.noughts 256)).2 hd (PG.opn m (PG.noughts 256)).1 w (fun _ => by rw [mk_size]; exact PG.seal_len h) (fun W => begun5 W) c5 (fun W => ?_) (fun _ k hk W => ?_)
    · have := seal_any p W
      rw [slV_ok h] at this
      exact this
    · have := open_any p.no ((⟨(PG.sld p).toArray⟩ : ByteArray).extract 0 k) W
      have hno := (PG.chk_ok h).1
      rw [PG.short hno.1 hno.2 (by rw [dl_len, ByteArray.size_extract, mk_size, PG.seal_len h]; omega)] at this
      exact this
  · refine core p.no p.kind p.owner m n ⟨p.body.toArray⟩ ⟨#[]⟩ ⟨(PG.noughts 256).toArray⟩ (PG.chk p) (PG.opn m (PG.noughts 256)).2 hd (PG.opn m (PG.noughts 256)).1 w (fun c => absurd c h) (fun W => begun5 W) c5 (fun W => ?_) (fun c => absurd c h)
    have := seal_any p W
    rw [slV_bad h] at this
    exact this

set_option maxRecDepth 100000 in
theorem lifted (os : Os) (started : os.Started) (H : Type) (enc : TypeId × Value → H) :
    ReturnsInHanded {} Tryd.checked os 8 .any (fun w args => (Rows.pageBlankSpec.pre enc Tryd.prog Tryd.f8 [] false w args ∧ laidMetH Tryd.prog Rows.pageBlankRow.laid w) ∧ sizedMet enc Tryd.prog Tryd.f8 (OpenSpec.ofChange Rows.pageBlankSpec) false w args)
      (Rows.pageBlankSpec.post enc Tryd.prog Tryd.f8 false true false false) := by
  refine returnsInHanded_of_change_and (C := Tryd.checked) (X := fun w _ => laidMetH Tryd.prog Rows.pageBlankRow.laid w) (fun _ _ _ hh h => h.of_heap hh) own started (by kernel_rfl) Tryd.func8
    (ChangeSpec.witness_shaped (enc := enc) (C := Tryd.checked) (os := os) (X := fun w _ => laidMetH Tryd.prog Rows.pageBlankRow.laid w) false (World.laidAll Tryd.prog os Rows.pageBlankRow.laid) #[.int .i64 0, .int .i64 0, .agg #[.int .i64 0, .int .i64 0, .int .i64 0, .string ByteArray.empty]] 8 (World.laidAll_os _ _ _)
      (World.shaped_of_ZipB (by kernel_rfl) (by kernel_rfl)) (by kernel_rfl) (by kernel_rfl) (by kernel_rfl)
      (by rw [MakeChecks.laidMetH_plain _ _ _ (by kernel_rfl)]; exact laidMet_laidAll _ (by kernel_rfl) (by kernel_rfl))) ?_
  intro W base args ds gs before hval0 hW hcnd hsz0 hL _
  have hT : Tb W := tabs_of_laid hL
  have hval : ∀ (j : Nat) t v, Tryd.f8.params[j]? = some t → args[j]? = some v → Value.okWide Tryd.prog W .any base t v := hval0
  have hsz : (DataW.weightsEach Tryd.prog (Tryd.f8.params.toList ++ Rows.pageBlankSpec.plain.varTypes Tryd.prog) (ds ++ gs)).all (· ≤ reachBytes) = true := hsz0
  have hW' := hW
  obtain ⟨p, q, hA0, hV, rfl, hfz, hnd⟩ := hW
  have hA : DataW.TrodAll enc Tryd.prog W 0 (fun _ => true) true Tryd.f8.params.toList args.toList ds p := hA0
  rw [Tryd.params8] at hA hval hsz
  obtain ⟨v0, vs0, d0, ds0, p0, q0, hargs, rfl, rfl, h0, r0⟩ := trodAll_cons hA
  obtain ⟨v1, vs1, d1, ds1, p1, q1, rfl, rfl, rfl, h1, r1⟩ := trodAll_cons r0
  obtain ⟨v2, vs2, d2, ds2, p2, q2, rfl, rfl, rfl, h2, r2⟩ := trodAll_cons r1
  obtain ⟨rfl, rfl, rfl⟩ := trodAll_nil r2
  obtain rfl : args = #[v0, v1, v2] := by cases args; simp_all
  obtain ⟨rfl, rfl⟩ := trodVars_none hV
  obtain ⟨a0, rfl, rfl, rfl, w0⟩ := open_int Tryd.underlying3 (hval 0 3 v0 rfl rfl) h0
  obtain ⟨a1, rfl, rfl, rfl, w1⟩ := open_int Tryd.underlying3 (hval 1 3 v1 rfl rfl) h1
  obtain ⟨a2, rfl, wd2⟩ := open_page (hval 2 23 v2 rfl rfl) h2
  clear hA0 hval0 hsz0
  refine (walk a0 a1 a2 W hT (wf_i64 w0) (wf_i64 w1) wd2).mono fun e W' ⟨he, bel⟩ => ?_
  subst he
  exact ⟨_, rfl, _, _, _, [], _, [], hW', trodAll_mk1 (shut_bool Tryd.underlying4 _), (trodAll_cons_mk (shut_int Tryd.underlying3 w0) (trodAll_cons_mk (shut_int Tryd.underlying3 w1) (trodAll_cons_mk (shut_page h2 bel) trodAll_mk0))), rfl, Below.frame bel _, fun h => by cases h⟩

theorem over : Rows.pageBlankRow.holds Tryd.pinned (OpenSpec.ofChange Rows.pageBlankSpec) :=
  OpenClaim.holds_of_wide 8 Tryd.f8 rfl rfl rfl rfl rfl rfl rfl ⟨rfl, rfl, rfl, rfl, rfl⟩ rfl rfl rfl rfl rfl (by kernel_rfl) Tryd.func8 (by kernel_rfl)
    (of_decide_eq_true (by kernel_rfl)) (by unfold Func.isWrapper; first | (rw [if_pos (by decide +kernel)]; kernel_rfl) | (rw [if_neg (by decide +kernel)]; exact ⟨rfl, rfl⟩))
    (fun os started H enc _ => lifted os started H enc)

theorem card : Rows.PageBlankCardSaid :=
  Claim7.holds_tied_plain_at .later [] [.data, .pinned] true (true, "59045a2a302e576d36634984a5a2261e4b9b5f3ca25b2db331640d2961848aad") false
    over (fun _ h => by cases h) (by kernel_rfl) (fun _ h => by cases h) pageBlank_row_tie rfl ⟨rfl, rfl⟩ (by kernel_rfl) rfl
    (fun f fn hf hfn => by
      obtain rfl : f = 8 := Option.some.inj ((show Tryd.prog.funcNamed "starling/starlinglaw.PageBlank" = some 8 by kernel_rfl).symm.trans hf) |>.symm
      obtain rfl : fn = Tryd.f8 := (Option.some.inj (Tryd.func8.symm.trans hfn)).symm
      exact ⟨by kernel_rfl, fun j t ht => by
        rw [Tryd.params8] at ht
        have hm : t ∈ [3, 3, 23] := by simpa using Array.mem_of_getElem? ht
        have hall : ([3, 3, 23].all fun u => !Tryd.prog.wantsStandIn u) = true := by kernel_rfl
        exact (show Tryd.prog.wantsStandIn t = false by simpa using List.all_eq_true.1 hall t hm)⟩)
    (by kernel_rfl)

end Go.Proofs.YtfjdialbjbomdaaDoor.pageBlankProof
namespace Go.Proofs.YtfjdialbjbomdaaDoor
theorem pageBlank_holds : Rows.PageBlankCardSaid := pageBlankProof.card
#print axioms pageBlank_holds
end Go.Proofs.YtfjdialbjbomdaaDoor
