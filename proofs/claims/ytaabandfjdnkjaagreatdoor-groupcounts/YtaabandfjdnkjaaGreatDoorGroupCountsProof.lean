/-
  Proved: for every list of rows and all columns GroupCounts answers true: groups have all rows; what begins a group's row is in no other one. No condition but the form's own reach.
-/
import Derived.Test.YtaabandfjdnkjaaGreatDoorGqG
import Derived.Test.YtaabandfjdnkjaaGreatDoorGqF
import Derived.Test.YtaabandfjdnkjaaGreatDoorBjB
namespace Go.Proofs.YtaabandfjdnkjaaGreatDoor.groupCountsProof
open Go.ChangeShapes Go.WideShapes Go.ChangeAt Go.RowKit
open Go.ChangeMaps (open_string shut_string)
set_option linter.unusedVariables false
set_option linter.unusedSimpArgs false
set_option maxRecDepth 100000
set_option maxHeartbeats 2000000
set_option maxHeartbeats 4000000
theorem IsL.upto {α : Type} {E : Cd α} {w : World} {a : Option Addr} {m c : Nat} {l : List α} (h : IsL E w (.slice a m c) l) (n : Nat) (hn : n ≤ l.length) : IsL E w (.slice a n c) (l.take n) := by
 obtain ⟨a', cap, e, hc, hh⟩ := h
 cases e
 refine ⟨a, c, by rw [List.length_take, Nat.min_eq_left hn], by rw [List.length_take]; omega, ?_⟩
 rcases hh with h0 | ⟨b, o, e, hb, hat⟩
 · left; rw [h0]; simp
 ·
  right
  refine ⟨b, o, e, hb, ?_⟩
  intro j u hj
  refine hat j u ?_
  have hs : flat E l = flat E (l.take n) ++ flat E (l.drop n) := by rw [← flat_app, List.take_append_drop]
  rw [hs, List.getElem?_append_left (List.getElem?_eq_some_iff.1 hj).1]
  exact hj
theorem gpO_cne {ls : List (List VM.Vl)} {cs : List Int} {c : Nat} (h : BG.gpO ls cs [BG.cntA] = .error c) : c ≠ 0 := by
 have htel : ∀ g : Gp, BG.telR [BG.cntA] g = .ok (g.1 ++ [BG.cntR g.2.length]) := by
  intro g
  unfold BG.telR
  have e : BG.tel g.2 BG.cntA = .ok (BG.cntR g.2.length) := by unfold BG.tel BG.cntA BG.cntR; rw [if_pos ⟨rfl, rfl⟩]
  rw [BG.mp_ok e]
  rfl
 have hmp : ∀ (gs : List Gp), BG.mp (BG.telR [BG.cntA]) gs = .ok (gs.map (fun g => g.1 ++ [BG.cntR g.2.length])) := by
  intro gs
  induction gs with
  | nil => rfl
  | cons g t ih => rw [BG.mp_ok (htel g), ih]; rfl
 unfold BG.gpO at h
 split at h
 · cases h; assumption
 split at h
 · cases h; assumption
 rw [hmp] at h
 cases h
theorem orr_len {B : Nat} {w : World} {v : Value} {ls : List (List VM.Vl)} (h : ORR B w v ls) : ls.length ≤ 9223372036854775807 := by
 obtain ⟨qs, h1, h2, _⟩ := h
 rcases h1.2 with ⟨_, h0⟩ | ⟨g, cap, cur, _, _, _, h3, h4, _⟩
 ·
  have := h1.1
  rw [h0] at this
  simp at this
  omega
 ·
  unfold maxLen at h4
  omega
def smG (gs : List Gp) (i : Nat) : Nat := ((gs.take i).map fun g => g.2.length).sum
theorem smG_step {gs : List Gp} {i : Nat} (h : i < gs.length) : smG gs (i + 1) = smG gs i + gs[i].2.length := by
 unfold smG
 rw [List.take_succ_eq_append_getElem h, List.map_append, List.sum_append]
 simp
theorem smG_le (gs : List Gp) (i : Nat) : smG gs i ≤ (gs.map fun g => g.2.length).sum := by
 unfold smG
 conv => rhs; rw [← List.take_append_drop i gs, List.map_append, List.sum_append]
 omega
theorem smG_all (gs : List Gp) : smG gs gs.length = (gs.map fun g => g.2.length).sum := by
 unfold smG
 rw [List.take_length]
theorem walk (v0 : Value) (l0 : List (List VM.Vl)) (v1 : Value) (l1 : List Int) (w : World) (hTt : Tt w) (rw0 : IsRR w v0 l0) (ok0 : ∀ y ∈ l0, y.length * 32 ≤ 140737488351232 ∧ ∀ z ∈ y, EV.gd z ∧ z.s.size ≤ 140737488351232) (b0 : l0.length * 24 ≤ 140737488351232) (rw1 : IsL cdZ w v1 l1) (ok1 : ∀ y ∈ l1, (-9223372036854775808 ≤ y ∧ y ≤ 9223372036854775807)) (b1 : l1.length * 8 ≤ 140737488351232) :
  Calls Tryz.prog 9 #[v0, v1] w fun e w' => e = .returned (.bool true) ∧ Fr w w' := by
 have HBg := hideP (fun (W : World) (f : Fr w W) => bagBegun_any W (hTt.tn.fr f) (hTt.tb.fr f))
 have HR := hideP rw0
 have HLm := hideP (show l0.length ≤ 9223372036854775806 by omega)
 have HOk := hideP (fun r (hr : r ∈ l0) => show r.length ≤ 9223372036854775806 by have := (ok0 r hr).1; omega)
 have HWd := hideP (fun r (hr : r ∈ l0) (x : VM.Vl) (hx : x ∈ r) => show LM.wide x from ⟨((ok0 r hr).2 x hx).1.1.1, ((ok0 r hr).2 x hx).1.1.2⟩)
 obtain ⟨A0, c0, rfl⟩ := rw0.slice
 obtain ⟨Ac, cc, rfl⟩ : ∃ a c, v1 = .slice a l1.length c := by obtain ⟨a, c, e, _⟩ := rw1; exact ⟨a, c, e⟩
 have hn8 : l1.length ≤ 4611686018427387900 := by omega
 have k1 := group_any (.slice A0 l0.length c0) (.slice Ac l1.length cc) (.slice (some ⟨w.heap.size, 0, none⟩) 1 1) l0 l1 [BG.cntA] (w.alloc (.cells #[.int .i64 1, .int .i64 (-1)] 50)) (HR.out.fr ((Fr.refl _).alloc _)) (rw1.fr ((Fr.refl _).alloc _)) (lit_one cdG w BG.cntA 50) HWd.out HLm.out HOk.out hn8 (by decide)
 have hlen0 : l0.length ≤ 5864062014635 := by omega
 clear rw0 rw1 ok0 ok1 b0
 obtain ⟨nc, hnc⟩ : ∃ n, l1.length = n := ⟨_, rfl⟩
 rw [hnc] at k1 hn8 b1 ⊢
 have HNc := hideP hnc
 clear hnc
 obtain ⟨nL, hnL⟩ : ∃ n, l0.length = n := ⟨_, rfl⟩
 rw [hnL] at k1 hlen0 ⊢
 have HNL := hideP hnL
 clear hnL
 cases hx : BG.gpO l0 l1 [BG.cntA] with
 | error c =>
  have hne := gpO_cne hx
  rw [hx] at k1
  have K1 := hideP k1
  have hc1 : ((c : Int) != 0) = true := by simp; omega
  have hc2 : ¬ ((c : Int) = 0) := by omega
  clear k1 hx hne
  go_enter Tryz.func9, Tryz.ntmps9
  go_wp2_with fail
  refine K1.out.mono ?_
  rintro _ w1 ⟨rfl, f1⟩
  have F1 := hideP (((Fr.refl w).alloc (.cells #[.int .i64 1, .int .i64 (-1)] 50)).trans f1)
  clear f1 K1
  go_wp2_with fail
  refine (HBg.out _ F1.out).mono ?_
  rintro _ w2 ⟨rfl, f2⟩
  have F2 := hideP (F1.out.trans f2)
  clear f2
  go_wp2_with fail
  go_ret
  exact ⟨rfl, F2.out⟩
 | ok m =>
  obtain ⟨gs, hm, G1, G2, G3⟩ := BG.gpO_counts hx
  rw [hx] at k1
  have K1 := hideP k1
  have hML : m.length = gs.length := by rw [hm, List.length_map]
  obtain ⟨M, hM⟩ : ∃ M, m.length = M := ⟨_, rfl⟩
  have HRow := hideP (fun i (h : i < m.length) (h' : i < gs.length) => show m[i] = gs[i].1 ++ [BG.cntR gs[i].2.length] ∧ gs[i].1.length = nc by
   refine ⟨?_, by rw [G1 _ (List.getElem_mem _), HNc.out]⟩
   subst hm
   rw [List.getElem_map])
  have HNo := hideP (fun (i k : Nat) (h : i < gs.length) (h' : k < i) => show decide (gs[i].1 = (gs[k]'(Nat.lt_trans h' h)).1) = false by
   refine decide_eq_false fun e => ?_
   have h1 : (gs.map (·.1))[i]'(by rw [List.length_map]; exact h) = (gs.map (·.1))[k]'(by rw [List.length_map]; omega) := by rw [List.getElem_map, List.getElem_map]; exact e
   have := (List.getElem_inj G2).1 h1
   omega)
  have HG3 := hideP G3
  have HMg := hideP (show gs.length = M by omega)
  have HMm := hideP hM
  have hcs : IntKind.i64.wrap ((nc : Int) + 1) = (nc : Int) + 1 := by rw [IntKind.wrap_i64]; omega
  clear k1 hx hm G1 G2 G3 hML hM
  go_enter Tryz.func9, Tryz.ntmps9
  go_wp2_with fail
  refine K1.out.mono ?_
  rintro _ w1 ⟨⟨u, rfl, hO⟩, f1⟩
  have F1 := hideP (((Fr.refl w).alloc (.cells #[.int .i64 1, .int .i64 (-1)] 50)).trans f1)
  obtain ⟨ma, mc, rfl⟩ := hO.slice
  have hMx := orr_len hO
  rw [HMm.out] at hMx
  have hO2 := hO.rows
  rw [HMm.out] at hO2 ⊢
  have HO := hideP hO2
  clear f1 K1 hO hO2
  go_wp2_with fail
  refine (HBg.out _ F1.out).mono ?_
  rintro _ w2 ⟨rfl, f2⟩
  have F2 := hideP (F1.out.trans f2)
  replace HO := hideP (HO.out.fr f2)
  clear f2
  obtain ⟨qs, hq, hy1, hy2, hcell, hrow⟩ := HO.out.at
  have HQ := hideP hq
  have HCe := hideP hcell
  have HRw := hideP hrow
  clear hq hy1 hy2 hcell hrow
  go_wp2_with fail
  go_loopw [7, 8, 9] (fun nv iv _ wr => ∃ i : Nat, iv = .int .i64 i ∧ i ≤ M ∧ nv = .int .i64 ((smG gs i : Nat) : Int) ∧ Fr w2 wr) (fun _ iv _ _ => M - (intOf iv).toNat)
  case atStart => exact ⟨0, rfl, Nat.zero_le _, rfl, Fr.refl _⟩
  case round =>
   obtain ⟨i, rfl, hi, rfl, hfr⟩ := hrel
   by_cases hlt : i < M
   case neg =>
    obtain rfl : i = M := by omega
    have e9 : smG gs i = nL := by rw [← HMg.out, smG_all, HG3.out, HNL.out]
    rw [e9]
    have F3 := hideP (F2.out.trans hfr)
    clear e9 hfr
    go_wp2_with fail
    go_ret
    exact ⟨rfl, F3.out⟩
   have hlt' : (i : Int) < (M : Int) := by omega
   have hig : i < gs.length := by rw [HMg.out]; exact hlt
   have him : i < m.length := by rw [HMm.out]; exact hlt
   have hiq : i < qs.length := by rw [HQ.out]; exact him
   obtain ⟨b, o, rfl, hb, c0'⟩ := HCe.out i hiq
   obtain ⟨h1, h2⟩ := HRw.out i hiq him
   obtain ⟨r1, r2⟩ := HRow.out i him hig
   have hst := smG_step hig
   have hle := smG_le gs (i + 1)
   rw [HG3.out, HNL.out] at hle
   rw [r1] at h1 h2
   have hno := fun k (h : k < i) => HNo.out i k hig h
   generalize gs[i] = g at *
   obtain ⟨gk, gl⟩ := g
   simp only at h1 h2 r1 r2 hst hno
   rw [List.length_append, r2, List.length_singleton] at h2
   obtain ⟨q, hqq⟩ : ∃ q, qs[i] = q := ⟨_, rfl⟩
   rw [hqq] at c0' h1 h2
   obtain ⟨qa, qn, qc⟩ := q
   simp only [Sq.v] at c0' h1 h2
   subst h2
   obtain ⟨qa', qc', qe, qcap, qat⟩ := h1
   simp only [Value.slice.injEq] at qe
   obtain ⟨rfl, hqe, rfl⟩ := qe
   have hqcap : (nc : Int) ≤ (qc : Int) := by rw [← hqe] at qcap; omega
   obtain ⟨gb, go, rfl, hgb, hat⟩ : ∃ b o, qa = some ⟨b, o, none⟩ ∧ b < w2.heap.size ∧ At cdV w2 b o (gk ++ [BG.cntR gl.length]) := by
    rcases qat with h | h
    · simp at h
    · exact h
   have hIs : IsL cdV w2 (.slice (some ⟨gb, go, none⟩) nc qc) gk := by
    have := IsL.upto (E := cdV) (w := w2) (a := some ⟨gb, go, none⟩) (m := (gk ++ [BG.cntR gl.length]).length) (c := qc) (l := gk ++ [BG.cntR gl.length]) ⟨_, qc, rfl, qcap, .inr ⟨gb, go, rfl, hgb, hat⟩⟩ nc (by rw [List.length_append, r2]; omega)
    rw [List.take_append_of_le_length (by omega), List.take_of_length_le (by omega)] at this
    exact this
   obtain ⟨dz0, d1, dz2⟩ := hat.v3 nc (by rw [List.length_append, r2, List.length_singleton]; omega)
   have hgt : (gk ++ [BG.cntR gl.length])[nc]'(by rw [List.length_append, r2, List.length_singleton]; omega) = BG.cntR gl.length := by
    rw [List.getElem_append_right (by omega)]
    simp
   rw [hgt] at d1
   have HGk := hideP r2
   have HD1 := hideP (show w2.cell? ⟨gb, go + nc * 3 + 1, none⟩ = some (.int .i64 (gl.length : Int)) from d1)
   have HIs := hideP hIs
   have HC0 := hideP c0'
   have HNo2 := hideP hno
   have HSt := hideP hst
   obtain ⟨s0, hs0⟩ : ∃ s, smG gs i = s := ⟨_, rfl⟩
   rw [hs0] at hst ⊢
   have HS0 := hideP hs0
   have hs1 : s0 + gl.length ≤ nL := by rw [hst] at hle; exact hle
   obtain ⟨gn, hgn⟩ : ∃ n, gl.length = n := ⟨_, rfl⟩
   rw [hgn] at HD1 HSt hs1
   have cc0 := (Below.cell hfr (World.block_lt_of_cell? _ _ c0')).trans c0'
   have HFr := hideP hfr
   have hn1 : (nc : Int) < (nc : Int) + 1 := by omega
   have hn0 : (0 : Int) ≤ (nc : Int) := by omega
   clear dz0 dz2 qat hat d1 hgt hIs c0' hno hst hs0 hle hqe qcap hqq r1 r2 hfr hgn hb
   go_wp2_with fail
   clear cc0
   go_loopw [9] (fun kv wr => ∃ k : Nat, kv = .int .i64 k ∧ k ≤ i ∧ Fr w2 wr) (fun kv _ => i - (intOf kv).toNat)
   case atStart => exact ⟨0, rfl, Nat.zero_le _, HFr.out⟩
   case round =>
    clear HFr
    obtain ⟨k, rfl, hk, hfr⟩ := hrel
    have cc0 := (Below.cell hfr (World.block_lt_of_cell? _ _ HC0.out)).trans HC0.out
    by_cases hkl : k < i
    case neg =>
     have hkn : ((k : Int) < (i : Int)) = False := by simp; omega
     have dd1 := (Below.cell hfr (World.block_lt_of_cell? _ _ HD1.out)).trans HD1.out
     have HF2 := hideP hfr
     clear hfr
     go_wp2_with fail
     go_roundw
     case rel => exact ⟨i + 1, by go_num, by omega, by rw [HSt.out, HS0.out]; go_num, HF2.out⟩
     case measure => simp [intOf]; omega
    have hkl' : (k : Int) < (i : Int) := by omega
    have hkM' : (k : Int) < (M : Int) := by omega
    have hkg : k < gs.length := by rw [HMg.out]; omega
    have hkm : k < m.length := by rw [HMm.out]; omega
    have hkq : k < qs.length := by rw [HQ.out]; exact hkm
    obtain ⟨b', o', e', hb', ck⟩ := HCe.out k hkq
    simp only [Option.some.injEq, Addr.mk.injEq, and_true] at e'
    obtain ⟨rfl, rfl⟩ := e'
    obtain ⟨h1, h2⟩ := HRw.out k hkq hkm
    obtain ⟨r1, r2⟩ := HRow.out k hkm hkg
    have hno := HNo2.out k hkl
    rw [r1] at h1 h2
    generalize gs[k] = g at *
    obtain ⟨kk, kl⟩ := g
    simp only at h1 h2 r2 hno
    rw [List.length_append, r2, List.length_singleton] at h2
    obtain ⟨q, hqq⟩ : ∃ q, qs[k] = q := ⟨_, rfl⟩
    rw [hqq] at ck h1 h2
    obtain ⟨ka, kn, kc⟩ := q
    simp only [Sq.v] at ck h1 h2
    subst h2
    have hkcap : (nc : Int) ≤ (kc : Int) := by
     obtain ⟨_, _, e, hc', _⟩ := h1
     simp only [Value.slice.injEq] at e
     obtain ⟨_, e1, e2⟩ := e
     rw [← e1, ← e2] at hc'
     omega
    have hIk : IsL cdV w2 (.slice ka nc kc) kk := by
     have := IsL.upto h1 nc (by rw [List.length_append, r2]; omega)
     rw [List.take_append_of_le_length (by omega), List.take_of_length_le (by omega)] at this
     exact this
    have HSr := hideP (fun W (f : Fr w2 W) => by
     have c := sameRow_any _ _ gk kk W (HIs.out.fr f) (hIk.fr f) (by have := HGk.out; omega)
     rw [hno] at c
     exact c)
    have ckk := (Below.cell hfr (World.block_lt_of_cell? _ _ ck)).trans ck
    have HS := hideP (show _ ∧ _ from ⟨cc0, ckk⟩)
    have HF2 := hideP hfr
    have hz : Fr wr wr.drew := Fr.drew (Fr.refl wr)
    clear h1 r1 r2 hno hqq ck hIk hfr hb'
    go_wp2_with fail
    go_region_held3 (fun W => W.cell? ⟨b, o + i, none⟩ = some (.slice (some ⟨gb, go, none⟩) (nc + 1) qc) ∧ W.cell? ⟨b, o + k, none⟩ = some (.slice ka (nc + 1) kc)) (first | exact HS.out | exact c2_after hz HS.out | exact c2_after hf9 HS.out) (first
     | (go_at_call 23; refine (HSr.out _ (HF2.out.trans hz)).mono ?_; rintro _ w3 ⟨rfl, f3⟩; have hf9 := hz.trans f3; clear f3))
    all_goals (
     have F9 := hideP (HF2.out.trans hf9)
     clear hf9 hz HS cc0 ckk
     go_wp2_with fail
     go_roundw
     case rel => exact ⟨k + 1, by go_num, by omega, F9.out⟩
     case measure => simp [intOf]; omega)

set_option maxRecDepth 100000 in
theorem lifted (os : Go.Os) (started : os.Started) (H : Type) (enc : TypeId × Value → H) :
  ReturnsInHanded {} Tryz.checked os 9 .any (fun w args => (Rows.groupCountsSpec.pre enc Tryz.prog Tryz.f9 [] false w args ∧ laidMetH Tryz.prog Rows.groupCountsRow.laid w) ∧ sizedMet enc Tryz.prog Tryz.f9 (OpenSpec.ofChange Rows.groupCountsSpec) false w args)
   (Rows.groupCountsSpec.post enc Tryz.prog Tryz.f9 false true false false) := by
 refine returnsInHanded_of_change_and (C := Tryz.checked) (X := fun w _ => laidMetH Tryz.prog Rows.groupCountsRow.laid w) (fun _ _ _ hh h => h.of_heap hh) own started (by kernel_rfl) Tryz.func9
  (ChangeSpec.witness_shaped (enc := enc) (C := Tryz.checked) (os := os) (X := fun w _ => laidMetH Tryz.prog Rows.groupCountsRow.laid w) false (World.laidAll Tryz.prog os Rows.groupCountsRow.laid) #[.slice none 0 0, .slice none 0 0] 8 (World.laidAll_os _ _ _)
   (World.shaped_of_ZipB (by kernel_rfl) (by kernel_rfl)) (by kernel_rfl) (by kernel_rfl) (by kernel_rfl)
   (by rw [MakeChecks.laidMetH_plain _ _ _ (by kernel_rfl)]; exact laidMet_laidAll _ (by kernel_rfl) (by kernel_rfl))) ?_
 intro W base args ds gs before hval0 hW hcnd hsz0 hL _
 have hT : Tt W := tabs_of_laid hL
 have hval : ∀ (j : Nat) t v, Tryz.f9.params[j]? = some t → args[j]? = some v → Value.okWide Tryz.prog W .any base t v := hval0
 have hsz : (DataW.weightsEach Tryz.prog (Tryz.f9.params.toList ++ Rows.groupCountsSpec.plain.varTypes Tryz.prog) (ds ++ gs)).all (· ≤ reachBytes) = true := hsz0
 have hW' := hW
 obtain ⟨p, q, hA0, hV, rfl, hfz, hnd⟩ := hW
 have hA : DataW.TrodAll enc Tryz.prog W 0 (fun _ => true) true Tryz.f9.params.toList args.toList ds p := hA0
 rw [Tryz.params9] at hA hval hsz
 obtain ⟨v0, vs0, d0, ds0, p0, q0, hargs, rfl, rfl, h0, r0⟩ := trodAll_cons hA
 obtain ⟨v1, vs1, d1, ds1, p1, q1, rfl, rfl, rfl, h1, r1⟩ := trodAll_cons r0
 obtain ⟨rfl, rfl, rfl⟩ := trodAll_nil r1
 obtain rfl : args = #[v0, v1] := by cases args; simp_all
 obtain ⟨rfl, rfl⟩ := trodVars_none hV
 obtain ⟨l0, rw0, ok0, b0⟩ := open_rws (hval 0 22 v0 rfl rfl) h0 (sized_at hsz (j := 0) rfl rfl)
 obtain ⟨l1, rw1, ok1, b1⟩ := open_its (hval 1 47 v1 rfl rfl) h1 (sized_at hsz (j := 1) rfl rfl)
 clear hA0 hval0 hsz0
 refine (walk v0 l0 v1 l1 W hT rw0 ok0 b0 rw1 ok1 b1).mono fun e W' ⟨he, bel⟩ => ?_
 subst he
 exact ⟨_, rfl, _, _, _, [], _, [], hW', trodAll_mk1 (shut_bool Tryz.underlying4 _), (trodAll_cons_mk (shut_rws h0 bel) (trodAll_cons_mk (shut_its h1 bel) trodAll_mk0)), rfl, Below.frame bel _, fun h => by cases h⟩
theorem closed : joinedFacts Tryz.prog 9 Tryz.f9 Rows.groupCountsSpec Rows.groupCountsRow = true := by
 unfold joinedFacts
 repeat' (with_reducible refine Bool.and_eq_true_iff.2 ⟨?_, ?_⟩)
 all_goals first
  | with_reducible exact HeadW.mayEnter
  | with_reducible exact laidOut
  | with_reducible exact HeadW.mapsRowed
  | with_reducible exact HeadW.stopsHeard
  | (rw [HeadW.liftsFinal]; as_aux_lemma => kernel_rfl)
  | (rw [HeadW.make]; as_aux_lemma => kernel_rfl)
  | (rw [HeadW.plainKeys]; as_aux_lemma => kernel_rfl)
  | as_aux_lemma => kernel_rfl
theorem over : Rows.groupCountsRow.holds Tryz.pinned (OpenSpec.ofChange Rows.groupCountsSpec) :=
 OpenClaim.holds_of_wide 9 Tryz.f9 rfl rfl rfl rfl rfl rfl rfl ⟨rfl, rfl, rfl, rfl, rfl⟩ rfl rfl rfl rfl rfl (by as_aux_lemma => kernel_rfl) Tryz.func9 closed
  (of_decide_eq_true (by as_aux_lemma => kernel_rfl)) (by unfold Func.isWrapper; first | (rw [if_pos (by decide +kernel)]; kernel_rfl) | (rw [if_neg (by decide +kernel)]; exact ⟨rfl, rfl⟩))
  (fun os started H enc _ => lifted os started H enc)
theorem card : Rows.GroupCountsCardSaid :=
 Claim7.holds_tied_plain_at .later [] [.data, .data, .data, .data, .data, .data, .pinned] true (true, "3d9200482c1a8c9d4c0c2901940aba6e6f6453fca408f5f0e6919f8376bce52c") false
  over (fun _ h => by cases h) (by as_aux_lemma => kernel_rfl) (fun _ h => by cases h) groupCounts_row_tie rfl ⟨rfl, rfl⟩ HeadW.main rfl
  (fun f fn hf hfn => by
   obtain rfl : f = 9 := Option.some.inj ((show Tryz.prog.funcNamed "starling/starlinglaw.GroupCounts" = some 9 by as_aux_lemma => kernel_rfl).symm.trans hf) |>.symm
   obtain rfl : fn = Tryz.f9 := (Option.some.inj (Tryz.func9.symm.trans hfn)).symm
   exact ⟨HeadW.looks.symm, fun j t ht => by
    rw [Tryz.params9] at ht
    have hm : t ∈ [22, 47] := by simpa using Array.mem_of_getElem? ht
    have hall : ([22, 47].all fun u => !Tryz.prog.wantsStandIn u) = true := by as_aux_lemma => kernel_rfl
    exact (show Tryz.prog.wantsStandIn t = false by simpa using List.all_eq_true.1 hall t hm)⟩)
  (by as_aux_lemma => kernel_rfl)
end Go.Proofs.YtaabandfjdnkjaaGreatDoor.groupCountsProof
namespace Go.Proofs.YtaabandfjdnkjaaGreatDoor
theorem groupCounts_holds : Rows.GroupCountsCardSaid := groupCountsProof.card
end Go.Proofs.YtaabandfjdnkjaaGreatDoor
