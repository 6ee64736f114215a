/-
  Proved: for every expression, names, values, a name and a value more EvalMore answers true: a column more behind changes nothing of what an expression is worth. No condition but the form's own reach.
-/
import Derived.Test.YtjljohmflhmkmaaGreatDoorEmD
import Derived.Test.YtjljohmflhmkmaaGreatDoorTabs
namespace Go.Proofs.YtjljohmflhmkmaaGreatDoor.evalMoreProof
open Go.ChangeShapes Go.WideShapes Go.ChangeAt Go.RowKit
open Go.ChangeMaps (open_string shut_string)
set_option linter.unusedVariables false
set_option linter.unusedSimpArgs false
set_option maxRecDepth 100000
set_option maxHeartbeats 2000000
theorem ne1_ {c : Nat} (h : c ≠ 0) : ((c : Int) != 0) = true := by simp; omega
theorem ne2_ {c : Nat} (h : c ≠ 0) : ¬ ((c : Int) = 0) := by omega
theorem ne3_ {c : Nat} (h : c ≠ 0) : ((c : Int) == 0) = false := by simp; omega
theorem walk (v0 : Value) (e : List EX.Nd) (v1 : Value) (cs : List ByteArray) (v2 : Value) (l : List VM.Vl) (name : ByteArray) (more : VM.Vl) (w : World) (hT : Tt w)
    (h0 : IsL cdN w v0 e) (k0 : ∀ y ∈ e, EV.okN y ∧ (-9223372036854775808 ≤ y.op ∧ y.op ≤ 9223372036854775807) ∧ (-9223372036854775808 ≤ y.kids ∧ y.kids ≤ 9223372036854775807)) (b0 : e.length * 64 ≤ 140737488351232)
    (h1 : IsL cdB w v1 cs) (k1 : ∀ y ∈ cs, y.size ≤ 140737488351232) (b1 : cs.length * 16 ≤ 140737488351232)
    (h2 : IsL cdV w v2 l) (k2 : ∀ y ∈ l, EV.gd y ∧ y.s.size ≤ 140737488351232) (b2 : l.length * 32 ≤ 140737488351232) (b3 : name.size ≤ 140737488351232) (g4 : EV.gd more) (b4 : more.s.size ≤ 140737488351232) :
    Calls Tryz.prog 5 #[v0, v1, v2, .string name, .agg #[.int .i64 more.k, .int .i64 more.n, .string more.s]] w fun e w' => e = .returned (.bool true) ∧ Fr w w' := by
  have HE := hideP (fun W (g : Fr w W) => eval_any v0 v1 v2 e cs l W (h0.fr g) (h1.fr g) (h2.fr g) (fun n hn => (k0 n hn).1.1) (by omega) (fun c hc => by have := k1 c hc; omega) (hT.tn.fr g) (hT.tb.fr g) (fun n hn => (k0 n hn).1.2) (fun x hx => (k2 x hx).1))
  have HBg := hideP (fun W (g : Fr w W) => evalBegun_any W (hT.tn.fr g) (hT.tb.fr g))
  have HCk := hideP (fun W => rcheck_any more.k more.n more.s W)
  have HE2 := hideP (fun W u1 u2 (g : Fr w W) (hu1 : IsL cdB W u1 (cs ++ [name])) (hu2 : IsL cdV W u2 (l ++ [more])) => eval_any v0 u1 u2 e (cs ++ [name]) (l ++ [more]) W (h0.fr g) hu1 hu2 (fun n hn => (k0 n hn).1.1) (by omega) (fun c hc => by
      rcases List.mem_append.1 hc with hc | hc
      · have := k1 c hc; omega
      · obtain rfl : c = name := by simpa using hc
        omega) (hT.tn.fr g) (hT.tb.fr g) (fun n hn => (k0 n hn).1.2) (fun x hx => by
      rcases List.mem_append.1 hx with hx | hx
      · exact (k2 x hx).1
      · obtain rfl : x = more := by simpa using hx
        exact g4))
  have HMo := hideP (fun x (h : EV.ev e cs l = .ok x) (h8 : cs.length < 8) (hc : VM.chk more = 0) => EV.ev_more (c := name) h h8 hc)
  have HNe := hideP (fun c (h : EV.ev e cs l = .error c) => EV.ev_ne h)
  have HLe := hideP (fun x (h : EV.ev e cs l = .ok x) => EV.coE_ok (EV.ev_ok h).2)
  obtain ⟨mk, mn, ms⟩ := more
  have HI1 := hideP (fun W (g : Fr w W) => h1.fr g)
  have HI2 := hideP (fun W (g : Fr w W) => h2.fr g)
  obtain ⟨a0, c0, rfl, _⟩ := h0
  obtain ⟨a1, c1, rfl, _⟩ := h1
  obtain ⟨a2, c2, rfl, _⟩ := h2
  simp only at HCk ⊢
  clear k0 k1 k2 hT g4
  cases hD : EV.ev e cs l with
  | error c =>
    have hc := HNe.out c hD
    rw [hD] at HE
    simp only [exV, vlV] at HE
    have e1 := ne1_ hc
    have e2 := ne2_ hc
    have e3 := ne3_ hc
    generalize e.length = n0 at *
    generalize cs.length = n1 at *
    generalize l.length = n2 at *
    have F0 := hideP ((Fr.refl w).alloc (.cells #[.int .i64 mk, .int .i64 mn, .string ms] 26))
    go_enter Tryz.func5, Tryz.ntmps5
    go_wp2_with fail
    generalize w.alloc (.cells #[.int .i64 mk, .int .i64 mn, .string ms] 26) = W0 at *
    refine (HE.out _ F0.out).mono ?_
    rintro _ w1 ⟨rfl, f1⟩
    have HB1 := hideP (Blk.new w1 #[.int .i64 0, .int .i64 0, .string ⟨#[]⟩] 26)
    have F1 := hideP (F0.out.trans (f1.alloc (.cells #[.int .i64 0, .int .i64 0, .string ⟨#[]⟩] 26)))
    clear f1
    simp only [show EX.nul.k = 0 from rfl, show EX.nul.n = 0 from rfl, show EX.nul.s = ⟨#[]⟩ from rfl]
    go_wp2_with fail
    generalize w1.alloc (.cells #[.int .i64 0, .int .i64 0, .string ⟨#[]⟩] 26) = W1 at *
    generalize w1.heap.size = B1 at *
    refine (HBg.out _ F1.out).mono ?_
    rintro _ w2 ⟨rfl, f2⟩
    have HB3 := hideP (HB1.out.fr f2)
    have F2 := hideP (F1.out.trans f2)
    clear f2
    have p0 := HB3.out.cell 0 rfl
    have p1 := HB3.out.cell 1 rfl
    have p2 := HB3.out.cell 2 rfl
    go_wp2_with fail
    go_ret
    exact ⟨rfl, F2.out⟩
  | ok x =>
    rw [hD] at HE
    simp only [exV, vlV] at HE
    by_cases h8 : cs.length < 8
    · by_cases hck : VM.chk ⟨mk, mn, ms⟩ = 0
      · have hm := HMo.out x hD h8 hck
        rw [hm] at HE2
        simp only [exV, vlV] at HE2
        rw [hck] at HCk
        have hll : l.length ≤ 8 := by have := HLe.out x hD; omega
        exact em_walk a0 a1 a2 e.length cs.length l.length c0 c1 c2 name mk mn ms w x.k x.n x.s cs l HI1.out HI2.out h8 hll (fun W0 f0 W u1 u2 f hu1 hu2 => HE2.out W u1 u2 (f0.trans f) hu1 hu2) (by omega) HE.out HBg.out HCk.out
      · have e1 := ne1_ hck
        have e2 := ne2_ hck
        have h8' : ¬ (8 : Int) ≤ (cs.length : Int) := by omega
        clear HMo HE2 HLe HNe HI1 HI2
        generalize VM.chk ⟨mk, mn, ms⟩ = ck at *
        generalize e.length = n0 at *
        generalize cs.length = n1 at *
        generalize l.length = n2 at *
        generalize x.k = xk at *
        generalize x.n = xn at *
        generalize x.s = xz at *
        have HB0 := hideP (Blk.new w #[.int .i64 mk, .int .i64 mn, .string ms] 26)
        have F0 := hideP ((Fr.refl w).alloc (.cells #[.int .i64 mk, .int .i64 mn, .string ms] 26))
        go_enter Tryz.func5, Tryz.ntmps5
        go_wp2_with fail
        generalize w.alloc (.cells #[.int .i64 mk, .int .i64 mn, .string ms] 26) = W0 at *
        refine (HE.out _ F0.out).mono ?_
        rintro _ w1 ⟨rfl, f1⟩
        have f1' := f1.alloc (.cells #[.int .i64 xk, .int .i64 xn, .string xz] 26)
        have F1 := hideP (F0.out.trans f1')
        have HB2 := hideP (HB0.out.fr f1')
        clear f1 f1'
        go_wp2_with fail
        generalize w1.alloc (.cells #[.int .i64 xk, .int .i64 xn, .string xz] 26) = W1 at *
        refine (HBg.out _ F1.out).mono ?_
        rintro _ w2 ⟨rfl, f2⟩
        have HB4 := hideP (HB2.out.fr f2)
        have F2 := hideP (F1.out.trans f2)
        clear f2
        have p0 := HB4.out.cell 0 rfl
        have p1 := HB4.out.cell 1 rfl
        have p2 := HB4.out.cell 2 rfl
        go_wp2_with fail
        refine (HCk.out _).mono ?_
        rintro _ w3 ⟨rfl, f3⟩
        have F3 := hideP (F2.out.trans f3)
        clear f3
        go_wp2_with fail
        go_ret
        exact ⟨rfl, F3.out⟩
    · have h8' : (8 : Int) ≤ (cs.length : Int) := by omega
      clear HMo HE2 HLe HNe HI1 HI2 HCk
      generalize e.length = n0 at *
      generalize cs.length = n1 at *
      generalize l.length = n2 at *
      generalize x.k = xk at *
      generalize x.n = xn at *
      generalize x.s = xz at *
      have F0 := hideP ((Fr.refl w).alloc (.cells #[.int .i64 mk, .int .i64 mn, .string ms] 26))
      go_enter Tryz.func5, Tryz.ntmps5
      go_wp2_with fail
      generalize w.alloc (.cells #[.int .i64 mk, .int .i64 mn, .string ms] 26) = W0 at *
      refine (HE.out _ F0.out).mono ?_
      rintro _ w1 ⟨rfl, f1⟩
      have F1 := hideP (F0.out.trans (f1.alloc (.cells #[.int .i64 xk, .int .i64 xn, .string xz] 26)))
      clear f1
      go_wp2_with fail
      generalize w1.alloc (.cells #[.int .i64 xk, .int .i64 xn, .string xz] 26) = W1 at *
      refine (HBg.out _ F1.out).mono ?_
      rintro _ w2 ⟨rfl, f2⟩
      have F2 := hideP (F1.out.trans f2)
      clear f2
      go_wp2_with fail
      go_ret
      exact ⟨rfl, F2.out⟩

set_option maxRecDepth 100000 in
theorem lifted (os : Go.Os) (started : os.Started) (H : Type) (enc : TypeId × Value → H) :
    ReturnsInHanded {} Tryz.checked os 5 .any (fun w args => (Rows.evalMoreSpec.pre enc Tryz.prog Tryz.f5 [] false w args ∧ laidMetH Tryz.prog Rows.evalMoreRow.laid w) ∧ sizedMet enc Tryz.prog Tryz.f5 (OpenSpec.ofChange Rows.evalMoreSpec) false w args)
      (Rows.evalMoreSpec.post enc Tryz.prog Tryz.f5 false true false false) := by
  refine returnsInHanded_of_change_and (C := Tryz.checked) (X := fun w _ => laidMetH Tryz.prog Rows.evalMoreRow.laid w) (fun _ _ _ hh h => h.of_heap hh) own started (by kernel_rfl) Tryz.func5
    (ChangeSpec.witness_shaped (enc := enc) (C := Tryz.checked) (os := os) (X := fun w _ => laidMetH Tryz.prog Rows.evalMoreRow.laid w) false (World.laidAll Tryz.prog os Rows.evalMoreRow.laid) #[.slice none 0 0, .slice none 0 0, .slice none 0 0, .string ByteArray.empty, .agg #[.int .i64 0, .int .i64 0, .string ByteArray.empty]] 8 (World.laidAll_os _ _ _)
      (World.shaped_of_ZipB (by kernel_rfl) (by kernel_rfl)) (by kernel_rfl) (by kernel_rfl) (by kernel_rfl)
      (by rw [MakeChecks.laidMetH_plain _ _ _ (by kernel_rfl)]; exact laidMet_laidAll _ (by kernel_rfl) (by kernel_rfl))) ?_
  intro W base args ds gs before hval0 hW hcnd hsz0 hL _
  have hT : Tt W := tabs_of_laid hL
  have hval : ∀ (j : Nat) t v, Tryz.f5.params[j]? = some t → args[j]? = some v → Value.okWide Tryz.prog W .any base t v := hval0
  have hsz : (DataW.weightsEach Tryz.prog (Tryz.f5.params.toList ++ Rows.evalMoreSpec.plain.varTypes Tryz.prog) (ds ++ gs)).all (· ≤ reachBytes) = true := hsz0
  have hW' := hW
  obtain ⟨p, q, hA0, hV, rfl, hfz, hnd⟩ := hW
  have hA : DataW.TrodAll enc Tryz.prog W 0 (fun _ => true) true Tryz.f5.params.toList args.toList ds p := hA0
  rw [Tryz.params5] at hA hval hsz
  obtain ⟨v0, vs0, d0, ds0, p0, q0, hargs, rfl, rfl, h0, r0⟩ := trodAll_cons hA
  obtain ⟨v1, vs1, d1, ds1, p1, q1, rfl, rfl, rfl, h1, r1⟩ := trodAll_cons r0
  obtain ⟨v2, vs2, d2, ds2, p2, q2, rfl, rfl, rfl, h2, r2⟩ := trodAll_cons r1
  obtain ⟨v3, vs3, d3, ds3, p3, q3, rfl, rfl, rfl, h3, r3⟩ := trodAll_cons r2
  obtain ⟨v4, vs4, d4, ds4, p4, q4, rfl, rfl, rfl, h4, r4⟩ := trodAll_cons r3
  obtain ⟨rfl, rfl, rfl⟩ := trodAll_nil r4
  obtain rfl : args = #[v0, v1, v2, v3, v4] := by cases args; simp_all
  obtain ⟨rfl, rfl⟩ := trodVars_none hV
  obtain ⟨l0, rw0, ok0, b0⟩ := open_nds (hval 0 22 v0 rfl rfl) h0 (sized_at hsz (j := 0) rfl rfl)
  obtain ⟨l1, rw1, ok1, b1⟩ := open_cls (hval 1 23 v1 rfl rfl) h1 (sized_at hsz (j := 1) rfl rfl)
  obtain ⟨l2, rw2, ok2, b2⟩ := open_vrw (hval 2 24 v2 rfl rfl) h2 (sized_at hsz (j := 2) rfl rfl)
  obtain ⟨a3, rfl, rfl, rfl, w3⟩ := open_string Tryz.underlying9 (hval 3 9 v3 rfl rfl) h3
  obtain ⟨a4, rfl, g4, b4⟩ := open_vl1 (hval 4 26 v4 rfl rfl) h4 (sized_at hsz (j := 4) rfl rfl)
  have b3 : a3.size ≤ 140737488351232 := by
    have h := sized_string hsz (j := 3) (t := 9) rfl rfl
    simpa [reachBytes] using h
  clear hA0 hval0 hsz0
  refine (walk v0 l0 v1 l1 v2 l2 a3 a4 W hT rw0 ok0 b0 rw1 ok1 b1 rw2 ok2 b2 b3 g4 b4).mono fun e W' ⟨he, bel⟩ => ?_
  subst he
  exact ⟨_, rfl, _, _, _, [], _, [], hW', trodAll_mk1 (shut_bool Tryz.underlying4 _), (trodAll_cons_mk (shut_nds h0 bel) (trodAll_cons_mk (shut_cls h1 bel) (trodAll_cons_mk (shut_vrw h2 bel) (trodAll_cons_mk (shut_string Tryz.underlying9 w3) (trodAll_cons_mk (shut_vl1 h4 bel) trodAll_mk0))))), rfl, Below.frame bel _, fun h => by cases h⟩

theorem over : Rows.evalMoreRow.holds Tryz.pinned (OpenSpec.ofChange Rows.evalMoreSpec) :=
  OpenClaim.holds_of_wide 5 Tryz.f5 rfl rfl rfl rfl rfl rfl rfl ⟨rfl, rfl, rfl, rfl, rfl⟩ rfl rfl rfl rfl rfl (by kernel_rfl) Tryz.func5 (by kernel_rfl)
    (of_decide_eq_true (by kernel_rfl)) (by unfold Func.isWrapper; first | (rw [if_pos (by decide +kernel)]; kernel_rfl) | (rw [if_neg (by decide +kernel)]; exact ⟨rfl, rfl⟩))
    (fun os started H enc _ => lifted os started H enc)

theorem card : Rows.EvalMoreCardSaid :=
  Claim7.holds_tied_plain_at .later [] [.data, .data, .data, .data, .data, .data, .pinned] true (true, "96cea82cc36b5cf1a3380f7b37f60b58bdddc176841e44ac2e27ea7ff724803d") false
    over (fun _ h => by cases h) (by kernel_rfl) (fun _ h => by cases h) evalMore_row_tie rfl ⟨rfl, rfl⟩ (by kernel_rfl) rfl
    (fun f fn hf hfn => by
      obtain rfl : f = 5 := Option.some.inj ((show Tryz.prog.funcNamed "starling/starlinglaw.EvalMore" = some 5 by kernel_rfl).symm.trans hf) |>.symm
      obtain rfl : fn = Tryz.f5 := (Option.some.inj (Tryz.func5.symm.trans hfn)).symm
      exact ⟨by kernel_rfl, fun j t ht => by
        rw [Tryz.params5] at ht
        have hm : t ∈ [22, 23, 24, 9, 26] := by simpa using Array.mem_of_getElem? ht
        have hall : ([22, 23, 24, 9, 26].all fun u => !Tryz.prog.wantsStandIn u) = true := by kernel_rfl
        exact (show Tryz.prog.wantsStandIn t = false by simpa using List.all_eq_true.1 hall t hm)⟩)
    (by kernel_rfl)

end Go.Proofs.YtjljohmflhmkmaaGreatDoor.evalMoreProof
namespace Go.Proofs.YtjljohmflhmkmaaGreatDoor
theorem evalMore_holds : Rows.EvalMoreCardSaid := evalMoreProof.card
#print axioms evalMore_holds
end Go.Proofs.YtjljohmflhmkmaaGreatDoor
