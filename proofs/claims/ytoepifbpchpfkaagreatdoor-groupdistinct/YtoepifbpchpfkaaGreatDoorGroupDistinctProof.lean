/-
  Proved: for every list of rows GroupDistinct answers true: grouped by all columns, and nothing told, rows are Distinct. No condition but the form's own reach.
-/
import Derived.Test.YtoepifbpchpfkaaGreatDoorGqG
import Derived.Test.YtoepifbpchpfkaaGreatDoorGqF
import Derived.Test.YtoepifbpchpfkaaGreatDoorBjB
namespace Go.Proofs.YtoepifbpchpfkaaGreatDoor.groupDistinctProof
open Go.ChangeShapes Go.WideShapes Go.ChangeAt Go.RowKit
open Go.ChangeMaps (open_string shut_string)
set_option linter.unusedVariables false
set_option linter.unusedSimpArgs false
set_option maxRecDepth 100000
set_option maxHeartbeats 2000000
set_option maxHeartbeats 2000000
theorem rwidth_any (v : Value) (ls : List (List VM.Vl)) (w : World) (h : IsRR w v ls) : Calls Tryz.prog 46 #[v] w fun e w' => e = .returned (.int .i64 ((BG.wd ls : Nat) : Int)) ∧ Fr w w' := by
 obtain ⟨a, c, rfl⟩ := h.slice
 obtain ⟨qs, hq, _, hc, hcell, hrow⟩ := h.at
 by_cases h0 : ls.length = 0
 ·
  have hl : ls = [] := List.length_eq_zero_iff.1 h0
  have hw : BG.wd ls = 0 := by rw [hl]; rfl
  rw [hw, h0]
  clear hcell hrow
  go_enter Tryz.func46, Tryz.ntmps46
  go_wp2_with fail
  go_ret
  exact ⟨rfl, by first | exact Fr.refl _ | exact (Fr.refl _).alloc _⟩
 ·
  obtain ⟨b, o, rfl, hb, c0⟩ := hcell 0 (by omega)
  obtain ⟨h1, h2⟩ := hrow 0 (by omega) (by omega)
  have hw : BG.wd ls = qs[0].n := by
   rw [h2]
   unfold BG.wd
   cases ls with
   | nil => simp at h0
   | cons r t => rfl
  rw [hw]
  rw [Nat.add_zero] at c0
  obtain ⟨qa, hqa⟩ : ∃ qa, qs[0].a = qa := ⟨_, rfl⟩
  obtain ⟨qn, hqn⟩ : ∃ qn, qs[0].n = qn := ⟨_, rfl⟩
  obtain ⟨qc, hqc⟩ : ∃ qc, qs[0].c = qc := ⟨_, rfl⟩
  rw [hqa, hqn, hqc] at c0
  rw [hqn]
  clear hcell hrow h1 h2 hw hqa hqn hqc h
  have hq9 : 0 < ls.length := by omega
  clear h0 hq
  generalize ls.length = n at *
  have q0 : ((n : Int) == 0) = false := beq_false_of_ne (by omega)
  have q1 : ¬ ((n : Int) = 0) := by omega
  have q2 : (0 : Int) < (n : Int) := by omega
  go_enter Tryz.func46, Tryz.ntmps46
  go_wp2_with fail
  go_ret
  exact ⟨rfl, by first | exact Fr.refl _ | exact (Fr.refl _).alloc _⟩
theorem upN_succ (n : Nat) : BG.upN (n + 1) = BG.upN n ++ [(n : Int)] := by
 unfold BG.upN
 rw [List.range_succ, List.map_append]
 rfl
theorem upN_len (n : Nat) : (BG.upN n).length = n := by simp [BG.upN]
theorem dst_len : ∀ (l b : List (List VM.Vl)), (BM.dst b l).length ≤ l.length
 | [], b => by simp [BM.dst]
 | x :: l, b => by
  unfold BM.dst
  have := dst_len l (b ++ [x])
  split <;> simp <;> omega
theorem walk (v0 : Value) (l0 : List (List VM.Vl)) (w : World) (hTt : Tt w) (rw0 : IsRR w v0 l0) (ok0 : ∀ y ∈ l0, y.length * 32 ≤ 140737488351232 ∧ ∀ z ∈ y, EV.gd z ∧ z.s.size ≤ 140737488351232) (b0 : l0.length * 24 ≤ 140737488351232) :
  Calls Tryz.prog 23 #[v0] w fun e w' => e = .returned (.bool true) ∧ Fr w w' := by
 have HBg := hideP (fun (W : World) (f : Fr w W) => bagBegun_any W (hTt.tn.fr f) (hTt.tb.fr f))
 obtain ⟨i0, hi0, hz0, hz1, hz2⟩ := info_parts Tryz.infoElem
 have HR := hideP rw0
 have HLm := hideP (show l0.length ≤ 9223372036854775806 by omega)
 have HOk := hideP (fun r (hr : r ∈ l0) => show r.length ≤ 9223372036854775806 by have := (ok0 r hr).1; omega)
 have HWd := hideP (fun r (hr : r ∈ l0) (x : VM.Vl) (hx : x ∈ r) => show LM.wide x from ⟨((ok0 r hr).2 x hx).1.1.1, ((ok0 r hr).2 x hx).1.1.2⟩)
 have HCk := hideP (fun (W : World) (f : Fr w W) => bagCheck_any v0 l0 W (rw0.fr f) HLm.out HOk.out)
 have HWi := hideP (fun (W : World) (f : Fr w W) => rwidth_any v0 l0 W (rw0.fr f))
 obtain ⟨A0, c0, rfl⟩ := rw0.slice
 clear rw0 ok0 b0
 by_cases hc : BG.chk l0 = 0
 ·
  by_cases h0 : BG.wd l0 = 0
  ·
   rw [hc] at HCk
   rw [h0] at HWi
   go_enter Tryz.func23, Tryz.ntmps23
   go_wp2_with fail
   refine (HBg.out _ (Fr.refl _)).mono ?_
   rintro _ w1 ⟨rfl, f1⟩
   have F1 := hideP f1
   clear f1
   go_wp2_with fail
   refine (HCk.out _ F1.out).mono ?_
   rintro _ w2 ⟨rfl, f2⟩
   have F2 := hideP (F1.out.trans f2)
   clear f2
   go_wp2_with fail
   refine (HWi.out _ F2.out).mono ?_
   rintro _ w3 ⟨rfl, f3⟩
   have F3 := hideP (F2.out.trans f3)
   clear f3
   go_wp2_with fail
   go_ret
   exact ⟨rfl, F3.out⟩
  ·
   rw [hc] at HCk
   have h40 := (BG.chk_all hc).1
   have hE1 := BG.gpO_dist hc h0
   have hE2 : BG.dst l0 = .ok (BM.dist l0) := by rw [BG.dst_dist, if_neg (by omega)]
   have hlen : l0 ≠ [] := fun e => h0 (by rw [e]; rfl)
   have hpos : 0 < l0.length := List.length_pos_iff.2 hlen
   have h8 : BG.wd l0 ≤ 8 := by
    cases l0 with
    | nil => exact absurd rfl hlen
    | cons r t => exact ((BG.chk_all hc).2 r (List.mem_cons_self ..)).1
   obtain ⟨qs, hq, _, _, hcell, hrow⟩ := HR.out.at
   obtain ⟨b, o, rfl, hb, d0⟩ := hcell 0 (by omega)
   have hqn := (hrow 0 (by omega) hpos).2
   have hqw : qs[0].n = BG.wd l0 := by
    rw [hqn]
    cases l0 with
    | nil => exact absurd rfl hlen
    | cons r t => rfl
   rw [Nat.add_zero] at d0
   obtain ⟨qa, hqa⟩ : ∃ qa, qs[0].a = qa := ⟨_, rfl⟩
   obtain ⟨qc, hqc⟩ : ∃ qc, qs[0].c = qc := ⟨_, rfl⟩
   rw [hqa, hqw, hqc] at d0
   have hdl : (BM.dist l0).length ≤ l0.length := dst_len l0 []
   have hdm : ∀ r ∈ BM.dist l0, r ∈ l0 := fun r hr => (BM.mem_dist l0).1 hr
   clear hcell hrow hqn hqw hqa hqc hq hlen
   generalize BG.wd l0 = n at *
   generalize BM.dist l0 = D at *
   have HE1 := hideP hE1
   have HE2 := hideP hE2
   have HD := hideP d0
   have HDl := hideP hdl
   have HDm := hideP hdm
   have hn0 : ((n : Int) == 0) = false := by simp; omega
   have hn1 : ¬ ((n : Int) = 0) := by omega
   have hp : (0 : Int) < (l0.length : Int) := by omega
   clear hE1 hE2 d0 hdl hdm hc
   go_enter Tryz.func23, Tryz.ntmps23
   go_wp2_with fail
   refine (HBg.out _ (Fr.refl _)).mono ?_
   rintro _ w1 ⟨rfl, f1⟩
   have F1 := hideP f1
   clear f1
   go_wp2_with fail
   refine (HCk.out _ F1.out).mono ?_
   rintro _ w2 ⟨rfl, f2⟩
   have F2 := hideP (F1.out.trans f2)
   clear f2
   go_wp2_with fail
   refine (HWi.out _ F2.out).mono ?_
   rintro _ w3 ⟨rfl, f3⟩
   have F3 := hideP (F2.out.trans f3)
   clear f3
   go_wp2_with fail
   go_loopw [3, 4] (fun bv iv wr => ∃ (i : Nat) (ba : Option Addr) (bc : Nat), bv = .slice ba i bc ∧ iv = .int .i64 i ∧ i ≤ n ∧ wr.ownsRow w3.heap.size 3 1 (.slice ba i bc) i (flat cdZ (BG.upN i)) ∧ Fr w3 wr) (fun _ iv _ => n - (intOf iv).toNat)
   case atStart => exact ⟨0, none, 0, rfl, rfl, Nat.zero_le _, World.ownsRow_nil _ _ _ _, Fr.refl _⟩
   case round =>
    obtain ⟨i, ba, bc, rfl, rfl, hi, hown, hfr⟩ := hrel
    have dd := (Below.cell (F3.out.trans hfr) (World.block_lt_of_cell? _ _ HD.out)).trans HD.out
    by_cases hlt : i < n
    ·
     have hlt' : (i : Int) < (n : Int) := by omega
     have HLit := hideP (show IsL cdZ (wr.alloc (.cells #[.int .i64 (i : Int)] 3)) (.slice (some ⟨wr.heap.size, 0, none⟩) 1 1) [(i : Int)] from lit_many cdZ wr [(i : Int)] 3)
     have g := (Fr.refl wr).alloc (.cells #[.int .i64 (i : Int)] 3)
     have HOw := hideP (own_fr hown g)
     have HG := hideP (hfr.trans g)
     clear hown hfr g
     go_wp2_with (at_builtin; refine wpList_append_L cdZ rfl _ _ 61 3 i0 _ 8 rfl Tryz.underlying61 hi0 hz0 hz1 hz2 rfl w3.heap.size _ i _ rfl HOw.out (.slice (some ⟨wr.heap.size, 0, none⟩) 1 1) [(i : Int)] rfl HLit.out ?c3 ?c4 ?c5 ?_)
     case c3 => unfold maxLen; rw [show [(i : Int)].length = 1 from rfl]; omega
     case c4 => rw [show [(i : Int)].length = 1 from rfl]; omega
     case c5 => exact HG.out.size
     intro v5 w5 own5 gr5
     have F5 := hideP (show Fr w3 w5 from Below.grown HG.out gr5 HG.out.size (own_base HOw.out))
     have O5 := hideP (show w5.ownsRow w3.heap.size 3 1 v5 (i + 1) (flat cdZ (BG.upN (i + 1))) from by rw [upN_succ]; exact own5)
     obtain ⟨xa, xc, rfl⟩ := own_slice own5
     clear own5 gr5 HOw HLit HG
     go_wp2_with fail
     go_roundw
     case rel => exact ⟨i + 1, xa, xc, rfl, by go_num, by omega, O5.out, F5.out⟩
     case measure => simp [intOf]; omega
    ·
     obtain rfl : i = n := by omega
     have F4 := hideP (F3.out.trans hfr)
     have o4 : wr.ownsRow w3.heap.size 3 1 (.slice ba i bc) (BG.upN i).length (flat cdZ (BG.upN i)) := by rw [upN_len]; exact hown
     have HB := hideP (isL_own (E := cdZ) o4)
     clear hown hfr o4
     go_wp2_with fail
     have k5 := group_any _ _ (.slice none 0 0) l0 (BG.upN i) [] wr (HR.out.fr F4.out) HB.out (isL_nil _ _) HWd.out HLm.out HOk.out (by rw [upN_len]; omega) (by simp)
     rw [HE1.out] at k5
     refine k5.mono ?_
     clear k5
     rintro _ w5 ⟨⟨u, rfl, hO⟩, f5⟩
     obtain ⟨ma, mc, rfl⟩ := hO.slice
     have HM := hideP hO.rows
     have F5 := hideP (F4.out.trans f5)
     clear f5 hO
     go_wp2_with fail
     have k6 := distinct_any _ l0 w5 (HR.out.fr F5.out) HWd.out HLm.out HOk.out
     rw [HE2.out] at k6
     refine k6.mono ?_
     clear k6
     rintro _ w6 ⟨⟨u, rfl, hO⟩, f6⟩
     obtain ⟨na, nc, rfl⟩ := hO.slice
     have HN := hideP hO.rows
     replace HM := hideP (HM.out.fr f6)
     have F6 := hideP (F5.out.trans f6)
     clear f6 hO
     go_wp2_with fail
     refine (sameRows_eq _ _ D w6 HM.out HN.out (by have := HDl.out; omega) (fun r hr => HOk.out r (HDm.out r hr))).mono ?_
     rintro _ w7 ⟨rfl, f7⟩
     have F7 := hideP (F6.out.trans f7)
     clear f7
     go_wp2_with fail
     go_ret
     exact ⟨rfl, F7.out⟩
 ·
  have hc1 : (((BG.chk l0 : Nat) : Int) != 0) = true := by simp; omega
  generalize BG.chk l0 = z at *
  go_enter Tryz.func23, Tryz.ntmps23
  go_wp2_with fail
  refine (HBg.out _ (Fr.refl _)).mono ?_
  rintro _ w1 ⟨rfl, f1⟩
  have F1 := hideP f1
  clear f1
  go_wp2_with fail
  refine (HCk.out _ F1.out).mono ?_
  rintro _ w2 ⟨rfl, f2⟩
  have F2 := hideP (F1.out.trans f2)
  clear f2
  go_wp2_with fail
  go_ret
  exact ⟨rfl, F2.out⟩

set_option maxRecDepth 100000 in
theorem lifted (os : Go.Os) (started : os.Started) (H : Type) (enc : TypeId × Value → H) :
  ReturnsInHanded {} Tryz.checked os 23 .any (fun w args => (Rows.groupDistinctSpec.pre enc Tryz.prog Tryz.f23 [] false w args ∧ laidMetH Tryz.prog Rows.groupDistinctRow.laid w) ∧ sizedMet enc Tryz.prog Tryz.f23 (OpenSpec.ofChange Rows.groupDistinctSpec) false w args)
   (Rows.groupDistinctSpec.post enc Tryz.prog Tryz.f23 false true false false) := by
 refine returnsInHanded_of_change_and (C := Tryz.checked) (X := fun w _ => laidMetH Tryz.prog Rows.groupDistinctRow.laid w) (fun _ _ _ hh h => h.of_heap hh) own started (by kernel_rfl) Tryz.func23
  (ChangeSpec.witness_shaped (enc := enc) (C := Tryz.checked) (os := os) (X := fun w _ => laidMetH Tryz.prog Rows.groupDistinctRow.laid w) false (World.laidAll Tryz.prog os Rows.groupDistinctRow.laid) #[.slice none 0 0] 8 (World.laidAll_os _ _ _)
   (World.shaped_of_ZipB (by kernel_rfl) (by kernel_rfl)) (by kernel_rfl) (by kernel_rfl) (by kernel_rfl)
   (by rw [MakeChecks.laidMetH_plain _ _ _ (by kernel_rfl)]; exact laidMet_laidAll _ (by kernel_rfl) (by kernel_rfl))) ?_
 intro W base args ds gs before hval0 hW hcnd hsz0 hL _
 have hT : Tt W := tabs_of_laid hL
 have hval : ∀ (j : Nat) t v, Tryz.f23.params[j]? = some t → args[j]? = some v → Value.okWide Tryz.prog W .any base t v := hval0
 have hsz : (DataW.weightsEach Tryz.prog (Tryz.f23.params.toList ++ Rows.groupDistinctSpec.plain.varTypes Tryz.prog) (ds ++ gs)).all (· ≤ reachBytes) = true := hsz0
 have hW' := hW
 obtain ⟨p, q, hA0, hV, rfl, hfz, hnd⟩ := hW
 have hA : DataW.TrodAll enc Tryz.prog W 0 (fun _ => true) true Tryz.f23.params.toList args.toList ds p := hA0
 rw [Tryz.params23] at hA hval hsz
 obtain ⟨v0, vs0, d0, ds0, p0, q0, hargs, rfl, rfl, h0, r0⟩ := trodAll_cons hA
 obtain ⟨rfl, rfl, rfl⟩ := trodAll_nil r0
 obtain rfl : args = #[v0] := by cases args; simp_all
 obtain ⟨rfl, rfl⟩ := trodVars_none hV
 obtain ⟨l0, rw0, ok0, b0⟩ := open_rws (hval 0 22 v0 rfl rfl) h0 (sized_at hsz (j := 0) rfl rfl)
 clear hA0 hval0 hsz0
 refine (walk v0 l0 W hT rw0 ok0 b0).mono fun e W' ⟨he, bel⟩ => ?_
 subst he
 exact ⟨_, rfl, _, _, _, [], _, [], hW', trodAll_mk1 (shut_bool Tryz.underlying4 _), (trodAll_cons_mk (shut_rws h0 bel) trodAll_mk0), rfl, Below.frame bel _, fun h => by cases h⟩
theorem closed : joinedFacts Tryz.prog 23 Tryz.f23 Rows.groupDistinctSpec Rows.groupDistinctRow = true := by
 unfold joinedFacts
 repeat' (with_reducible refine Bool.and_eq_true_iff.2 ⟨?_, ?_⟩)
 all_goals first
  | with_reducible exact HeadW.mayEnter
  | with_reducible exact laidOut
  | with_reducible exact HeadW.mapsRowed
  | with_reducible exact HeadW.stopsHeard
  | (rw [HeadW.liftsFinal]; as_aux_lemma => kernel_rfl)
  | (rw [HeadW.make]; as_aux_lemma => kernel_rfl)
  | (rw [HeadW.plainKeys]; as_aux_lemma => kernel_rfl)
  | as_aux_lemma => kernel_rfl
theorem over : Rows.groupDistinctRow.holds Tryz.pinned (OpenSpec.ofChange Rows.groupDistinctSpec) :=
 OpenClaim.holds_of_wide 23 Tryz.f23 rfl rfl rfl rfl rfl rfl rfl ⟨rfl, rfl, rfl, rfl, rfl⟩ rfl rfl rfl rfl rfl (by as_aux_lemma => kernel_rfl) Tryz.func23 closed
  (of_decide_eq_true (by as_aux_lemma => kernel_rfl)) (by unfold Func.isWrapper; first | (rw [if_pos (by decide +kernel)]; kernel_rfl) | (rw [if_neg (by decide +kernel)]; exact ⟨rfl, rfl⟩))
  (fun os started H enc _ => lifted os started H enc)
theorem card : Rows.GroupDistinctCardSaid :=
 Claim7.holds_tied_plain_at .later [] [.data, .data, .data, .data, .data, .data, .pinned] true (true, "1ac927b6c31f7e9902634f50ce5f21d6511048fe18fc2768fe9f77e9756654d9") false
  over (fun _ h => by cases h) (by as_aux_lemma => kernel_rfl) (fun _ h => by cases h) groupDistinct_row_tie rfl ⟨rfl, rfl⟩ HeadW.main rfl
  (fun f fn hf hfn => by
   obtain rfl : f = 23 := Option.some.inj ((show Tryz.prog.funcNamed "starling/starlinglaw.GroupDistinct" = some 23 by as_aux_lemma => kernel_rfl).symm.trans hf) |>.symm
   obtain rfl : fn = Tryz.f23 := (Option.some.inj (Tryz.func23.symm.trans hfn)).symm
   exact ⟨HeadW.looks.symm, fun j t ht => by
    rw [Tryz.params23] at ht
    have hm : t ∈ [22] := by simpa using Array.mem_of_getElem? ht
    have hall : ([22].all fun u => !Tryz.prog.wantsStandIn u) = true := by as_aux_lemma => kernel_rfl
    exact (show Tryz.prog.wantsStandIn t = false by simpa using List.all_eq_true.1 hall t hm)⟩)
  (by as_aux_lemma => kernel_rfl)
end Go.Proofs.YtoepifbpchpfkaaGreatDoor.groupDistinctProof
namespace Go.Proofs.YtoepifbpchpfkaaGreatDoor
theorem groupDistinct_holds : Rows.GroupDistinctCardSaid := groupDistinctProof.card
end Go.Proofs.YtoepifbpchpfkaaGreatDoor
