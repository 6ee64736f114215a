/-
  What the document's own PushOf and NotOf answer.
-/
import Derived.Test.YtjboeabddnnlcaaGreatDoorReD
import Derived.Test.YtjboeabddnnlcaaGreatDoorReE
import Derived.Test.YtjboeabddnnlcaaGreatDoorEwA
namespace Go.Proofs.YtjboeabddnnlcaaGreatDoor
open Go.ChangeShapes Go.WideShapes Go.ChangeAt Go.RowKit
set_option linter.unusedVariables false
set_option linter.unusedSimpArgs false
set_option maxRecDepth 100000
set_option maxHeartbeats 4000000

/-- what is answered: a row of its own -/
def RpAns (b : Bool) (n : EX.Nd) (k : EX.F) (B : Nat) (r : Ending) (w' : World) : Prop := ∃ u, r = .returned u ∧ w'.ownsRow B 38 6 u (EV.pf b (.nd n k .nil)).flat.length (flat cdN (EV.pf b (.nd n k .nil)).flat)
/-- both keep their word of trees that have fewer nodes -/
def RpTo (N : Nat) : Prop := (∀ (n : EX.Nd) (k : EX.F) (v : Value) (W : World), (k.flat ++ [n]).length < N → (EX.F.nd n k .nil).good → (k.flat ++ [n]).length ≤ 60 → IsL cdN W v (k.flat ++ [n]) → Calls Tryz.prog 52 #[v] W fun r w' => RpAns false n k W.heap.size r w' ∧ Fr W w') ∧
  (∀ (n : EX.Nd) (k : EX.F) (v : Value) (W : World), (k.flat ++ [n]).length < N → (EX.F.nd n k .nil).good → (k.flat ++ [n]).length ≤ 60 → IsL cdN W v (k.flat ++ [n]) → Calls Tryz.prog 71 #[v] W fun r w' => RpAns true n k W.heap.size r w' ∧ Fr W w')
def EV.rt (op : Int) : EX.Nd := ⟨op, 2, EX.nul, ⟨#[]⟩⟩
theorem root_eq {n : EX.Nd} (h : EX.nchk n = 0) (hop : n.op = 16 ∨ n.op = 17) (hk : n.kids = 2) : n = ⟨n.op, 2, EX.nul, ⟨#[]⟩⟩ := by
  obtain ⟨_, _, _, h4, h5⟩ := EV.nchk_parts h
  obtain ⟨op, kids, v, nm⟩ := n
  simp only at *
  rw [hk, nul_of (h4 (by omega)), size_nil (h5 (by omega))]
theorem ll_cell {w : World} {u : Value} {ls : List (List EX.Nd)} (h : IsLL w u ls) (h0 : 0 < ls.length) : ∃ g o c, ∃ qs : List Sl, ∃ hq : qs.length = ls.length, u = .slice (some ⟨g, o, none⟩) ls.length c ∧ ls.length ≤ c ∧ (∀ i (h1 : i < qs.length), w.cell? ⟨g, o + i, none⟩ = some (.slice qs[i].a qs[i].n qs[i].c)) ∧ ∀ i (h1 : i < qs.length) (h2 : i < ls.length), IsL cdN w qs[i].v ls[i] := by
  obtain ⟨qs, ⟨a, c, e, hc, hcs⟩, hq, hall⟩ := h
  rcases hcs with h | ⟨g, o, rfl, _, hat⟩
  · rw [h] at hq; simp at hq; omega
  · exact ⟨g, o, c, qs, hq, by rw [e, hq], by omega, fun i hi => hat.q1 i hi, hall⟩
theorem pushOf_core (n : EX.Nd) (k : EX.F) (v : Value) (w : World) (HP : RpTo (k.flat ++ [n]).length) (hg : (EX.F.nd n k .nil).good) (hl : (k.flat ++ [n]).length ≤ 60) (h : IsL cdN w v (k.flat ++ [n])) :
    Calls Tryz.prog 52 #[v] w fun r w' => RpAns false n k w.heap.size r w' ∧ Fr w w' := by
  obtain ⟨i0, hi0, hz0, hz1, hz2⟩ := info_parts Tryz.infoN
  have HK := hideP (exprKids_any n k v w hg hl h)
  have HI := hideP h
  have hkl : k.flat.length + 1 ≤ 60 := by rw [List.length_append] at hl; exact hl
  have HPf : Hid (EV.pf false (.nd n k .nil) = if n.op = 4 then EX.F.app (EV.pf true k) .nil
    else if n.op = 16 ∨ n.op = 17 then .nd ⟨EV.flp false n.op, n.kids, n.v, n.nm⟩ (EV.pf false k) .nil
    else if false = false then .nd n k .nil
    else if EV.cpt n.op ≠ 0 then .nd ⟨EV.cpt n.op, n.kids, n.v, n.nm⟩ k .nil
    else .nd EV.notN (.nd n k .nil) .nil) := by
    unfold Hid
    conv => lhs; unfold EV.pf
    rw [show EV.pf false .nil = .nil by rw [EV.pf]]
    rfl
  have HLa := hideP (flat_set_last k.flat n (EV.cpt n.op))
  have HCt := hideP (fun W => counterOf_any n.op W)
  obtain ⟨a, cap, rfl, hcap, hcs⟩ := h
  obtain ⟨bb, o, rfl, hb, hat⟩ : ∃ b o, a = some ⟨b, o, none⟩ ∧ b < w.heap.size ∧ At cdN w b o (k.flat ++ [n]) := by
    rcases hcs with h | h
    · simp at h
    · exact h
  have c0 := (hat.nd k.flat.length (by simp)).1
  simp only [List.getElem_concat_length] at c0
  unfold RpAns at *
  obtain ⟨T, hT⟩ : ∃ T, EV.pf false (.nd n k .nil) = T := ⟨_, rfl⟩
  rw [hT] at HPf ⊢
  clear hcs hat hT
  by_cases h4 : n.op = 4
  · have h1 := EV.kids_not hg.1 h4 hg.2.1
    replace HPf := hideP (HPf.out.trans (if_pos h4))
    obtain ⟨n', k', rfl⟩ : ∃ n' k', k = .nd n' k' .nil := by
      cases k with
      | nil => cases h1
      | nd n' k' s' =>
        cases s' with
        | nd _ _ _ => simp only [EX.F.len] at h1; omega
        | nil => exact ⟨n', k', rfl⟩
    have HCa := hideP (fun W u (hu : IsL cdN W u (k'.flat ++ [n'])) => HP.2 n' k' u W (by rw [List.length_append]; simp [EX.F.flat]) hg.2.2.1 (by simp only [EX.F.flat] at hkl; omega) hu)
    unfold RpAns at HCa
    have e1 : (EX.F.nd n' k' .nil).parts = [k'.flat ++ [n']] := rfl
    rw [e1] at HK
    rw [List.length_append] at hcap HK ⊢
    simp only [List.length_cons, List.length_nil, Nat.zero_add] at hcap HK ⊢
    generalize (EX.F.nd n' k' .nil).flat.length = kf at *
    rw [h4] at c0
    have hx1 : (1 : Int) ≤ (kf : Int) + 1 := by omega
    clear HP hg hl h1 h4 HLa HCt HI
    go_enter Tryz.func52, Tryz.ntmps52
    go_wp2_with fail
    refine HK.out.mono ?_
    rintro _ w1 ⟨⟨u, rfl, hll⟩, f1⟩
    obtain ⟨g, og, gc, qs, hq, rfl, hgc, hcell, hisl⟩ := ll_cell hll (by simp)
    simp only [List.length_cons, List.length_nil, Nat.zero_add] at hq hgc ⊢
    obtain ⟨x, rfl⟩ : ∃ x, qs = [x] := by
      match qs, hq with
      | [x], _ => exact ⟨x, rfl⟩
    have d0 := show w1.cell? ⟨g, og, none⟩ = some (.slice x.a x.n x.c) from hcell 0 (by simp)
    have HQ0 := hideP (show IsL cdN w1 (.slice x.a x.n x.c) (k'.flat ++ [n']) from hisl 0 (by simp) (by simp))
    obtain ⟨xa, xn, xc⟩ := x
    simp only at d0 HQ0
    have HCb := hideP (HCa.out w1 _ HQ0.out)
    have F1 := hideP f1
    clear hcell hisl hll f1 hq
    go_wp2_with fail
    refine HCb.out.mono ?_
    rintro _ w2 ⟨⟨u2, rfl, own2⟩, f2⟩
    go_wp2_with fail
    go_ret
    refine ⟨⟨_, rfl, ?_⟩, F1.out.trans f2⟩
    rw [HPf.out, EX.F.app_nil]
    exact own_low own2 F1.out.size
  have e4 : (n.op == 4) = false := by simpa using h4
  replace HPf := hideP (HPf.out.trans (if_neg h4))
  by_cases h5 : n.op = 16 ∨ n.op = 17
  · replace HPf := hideP (HPf.out.trans (if_pos h5))
    have hk2 : n.kids = 2 := by
      obtain ⟨_, h6, h7, _⟩ := EV.nchk_parts hg.1
      rcases h5 with h5 | h5 <;> rw [h5] at h6 h7
      · have e1 : EX.kl 16 = 2 := by decide
        have e2 : EX.km 16 = 2 := by decide
        omega
      · have e1 : EX.kl 17 = 2 := by decide
        have e2 : EX.km 17 = 2 := by decide
        omega
    have hroot := root_eq hg.1 h5 hk2
    obtain ⟨n1, k1, n2, k2, rfl⟩ : ∃ n1 k1 n2 k2, k = .nd n1 k1 (.nd n2 k2 .nil) := by
      have h6 := hg.2.1
      rw [hk2] at h6
      match k, h6 with
      | .nd n1 k1 (.nd n2 k2 .nil), _ => exact ⟨n1, k1, n2, k2, rfl⟩
      | .nil, h => simp [EX.F.len] at h
      | .nd _ _ .nil, h => simp [EX.F.len] at h
      | .nd _ _ (.nd _ _ (.nd _ _ _)), h => simp only [EX.F.len] at h; omega
    have hfl : (EX.F.nd n1 k1 (.nd n2 k2 .nil)).flat.length = (k1.flat ++ [n1]).length + (k2.flat ++ [n2]).length := by simp [EX.F.flat]; omega
    have HC0 := hideP (fun W u (hu : IsL cdN W u (k1.flat ++ [n1])) => HP.1 n1 k1 u W (by have := hfl; simp only [List.length_append, List.length_cons, List.length_nil] at this ⊢; omega) ⟨hg.2.2.1.1, hg.2.2.1.2.1, hg.2.2.1.2.2.1, trivial⟩ (by omega) hu)
    have HC1 := hideP (fun W u (hu : IsL cdN W u (k2.flat ++ [n2])) => HP.1 n2 k2 u W (by have := hfl; simp only [List.length_append, List.length_cons, List.length_nil] at this ⊢; omega) hg.2.2.1.2.2.2 (by omega) hu)
    unfold RpAns at HC0 HC1
    have hpp : (EV.pf false (EX.F.nd n1 k1 (.nd n2 k2 .nil))).flat = (EV.pf false (.nd n1 k1 .nil)).flat ++ (EV.pf false (.nd n2 k2 .nil)).flat := by
      have e9 : EX.F.nd n1 k1 (.nd n2 k2 .nil) = EX.F.app (.nd n1 k1 .nil) (.nd n2 k2 .nil) := rfl
      rw [e9, EV.pf_app, EX.F.flat_app]
    have HTf : Hid (T.flat = ((EV.pf false (.nd n1 k1 .nil)).flat ++ (EV.pf false (.nd n2 k2 .nil)).flat) ++ [EV.rt (EV.flp false n.op)]) := by
      unfold Hid
      rw [HPf.out]
      simp only [EX.F.flat]
      rw [hpp, hroot]
      rfl
    have hb1 := EV.pf_flat_len (.nd n1 k1 .nil) false
    have hb2 := EV.pf_flat_len (.nd n2 k2 .nil) false
    have e1 : (EX.F.nd n1 k1 (.nd n2 k2 .nil)).parts = [k1.flat ++ [n1], k2.flat ++ [n2]] := rfl
    rw [e1] at HK
    have e2 : (EX.F.nd n1 k1 .nil).flat = k1.flat ++ [n1] := rfl
    have e3 : (EX.F.nd n2 k2 .nil).flat = k2.flat ++ [n2] := rfl
    rw [e2] at hb1
    rw [e3] at hb2
    have hbb : (EV.pf false (.nd n1 k1 .nil)).flat.length + (EV.pf false (.nd n2 k2 .nil)).flat.length ≤ 200 := by omega
    generalize (EV.pf false (.nd n1 k1 .nil)).flat = L0 at *
    generalize (EV.pf false (.nd n2 k2 .nil)).flat = L1 at *
    generalize k1.flat ++ [n1] = P0 at *
    generalize k2.flat ++ [n2] = P1 at *
    rw [List.length_append] at hcap HK ⊢
    simp only [List.length_cons, List.length_nil, Nat.zero_add] at hcap HK ⊢
    generalize (EX.F.nd n1 k1 (.nd n2 k2 .nil)).flat.length = kf at *
    have hx1 : (1 : Int) ≤ (kf : Int) + 1 := by omega
    generalize n.op = op at *
    clear HP hg hl hroot hk2 hpp hb1 hb2 e1 e2 e3 hfl HLa HCt HI h4
    obtain ⟨M, hM⟩ : ∃ M, L0.length + L1.length = M := ⟨_, rfl⟩
    have HMm := hideP hM
    rw [hM] at hbb
    clear hM e4
    have hbb0 : L0.length + L1.length ≤ 200 := by rw [HMm.out]; exact hbb
    have HBb := hideP hbb0
    clear hbb0
    go_enter Tryz.func52, Tryz.ntmps52
    go_wp2_with fail
    refine HK.out.mono ?_
    rintro _ w1 ⟨⟨u, rfl, hll⟩, f1⟩
    obtain ⟨g, og, gc, qs, hq, rfl, hgc, hcell, hisl⟩ := ll_cell hll (by simp)
    simp only [List.length_cons, List.length_nil, Nat.zero_add, Nat.reduceAdd] at hq hgc ⊢
    obtain ⟨x, y, rfl⟩ : ∃ x y, qs = [x, y] := by
      match qs, hq with
      | [x, y], _ => exact ⟨x, y, rfl⟩
    have HS2 := hideP (show w1.cell? ⟨g, og, none⟩ = some (.slice x.a x.n x.c) ∧ w1.cell? ⟨g, og + 1, none⟩ = some (.slice y.a y.n y.c) from ⟨hcell 0 (by simp), hcell 1 (by simp)⟩)
    have HQ0 := hideP (show IsL cdN w1 (.slice x.a x.n x.c) P0 from hisl 0 (by simp) (by simp))
    have HQ1 := hideP (show IsL cdN w1 (.slice y.a y.n y.c) P1 from hisl 1 (by simp) (by simp))
    have HD0 := hideP (fun W (f : Fr w1 W) => HC0.out W _ (HQ0.out.fr f))
    have HD1 := hideP (fun W (f : Fr w1 W) => HC1.out W _ (HQ1.out.fr f))
    obtain ⟨xa, xn, xc⟩ := x
    obtain ⟨ya, yn, yc⟩ := y
    simp only at HS2 HD0 HD1
    have F1 := hideP f1
    have hgc' : (2 : Int) ≤ (gc : Int) := by omega
    clear hcell hisl hll f1 hq HC0 HC1 HQ0 HQ1
    rcases h5 with rfl | rfl
    · go_upto_region 6 with fail
      have hz := Fr.drew (Fr.refl w1)
      have HM1 : Hid (0 + L0.length ≤ maxLen ∧ (0 + L0.length) * 64 ≤ 140737488355328 ∧ (0 + L0.length) + L1.length ≤ maxLen ∧ ((0 + L0.length) + L1.length) * 64 ≤ 140737488355328) := by have := HBb.out; unfold Hid maxLen; omega
      have HE0 := hideP (fun (W : World) => own_lit0 cdN W 38 W.heap.size (Nat.le_refl _))
      go_region_held3 (fun W => W.cell? ⟨g, og, none⟩ = some (.slice xa xn xc) ∧ W.cell? ⟨g, og + 1, none⟩ = some (.slice ya yn yc)) (first | exact HS2.out | exact s2_after hz HS2.out | exact s2_after (hz.alloc _) HS2.out) (first
        | (go_at_call 52; refine (HD0.out _ hz).mono ?_; rintro _ w3 ⟨⟨u3, rfl, own3⟩, f3⟩; obtain ⟨pa, pc, rfl⟩ := own_slice own3; have HI3 := hideP (show IsL cdN w3 (.slice pa L0.length pc) L0 from isL_own (E := cdN) own3); have HOe := hideP (HE0.out w3); have hw3 := hz.trans f3; replace hz := hw3; clear HD0 own3 f3 hw3)
        | (go_at_call 52; refine (HD0.out _ (hz.alloc _)).mono ?_; rintro _ w3 ⟨⟨u3, rfl, own3⟩, f3⟩; obtain ⟨pa, pc, rfl⟩ := own_slice own3; have HI3 := hideP (show IsL cdN w3 (.slice pa L0.length pc) L0 from isL_own (E := cdN) own3); have HOe := hideP (own_fr (HE0.out w1.drew) f3); have hw3 := (hz.alloc _).trans f3; replace hz := hw3; clear HD0 own3 f3 hw3)
        | (go_at_call 52; refine (HD1.out _ hz).mono ?_; rintro _ w5 ⟨⟨u5, rfl, own5⟩, f5⟩; obtain ⟨ra, rc, rfl⟩ := own_slice own5; have HI5 := hideP (show IsL cdN w5 (.slice ra L1.length rc) L1 from isL_own (E := cdN) own5); have HO5 := hideP (own_fr HO4.out f5); have hw5 := hz.trans f5; replace hz := hw5; clear HD1 own5 f5 hw5)
        | (refine step_append_L cdN rfl _ _ 22 38 i0 _ 64 rfl Tryz.underlying22 hi0 hz0 hz1 hz2 rfl w1.heap.size _ _ _ rfl HO5.out (.slice ra L1.length rc) L1 rfl HI5.out HM1.out.2.2.1 HM1.out.2.2.2 (Fr.size hz) ?_; intro v6 w6 own6 gr6; have HO6 := hideP own6; have hw6 : Fr w1 w6 := Below.grown hz gr6 (Fr.size hz) (own_base HO5.out); replace hz := hw6; clear own6 gr6 hw6 HO5 HI5)
        | (refine step_append_L cdN rfl _ _ 22 38 i0 _ 64 rfl Tryz.underlying22 hi0 hz0 hz1 hz2 rfl w3.heap.size _ 0 [] rfl HOe.out (.slice pa L0.length pc) L0 rfl (HI3.out.fr ((Fr.refl w3).alloc _)) HM1.out.1 HM1.out.2.1 (by simp) ?_; intro v4 w4 own4 gr4; have HO4 := hideP (own_low own4 (Fr.size hz)); have hw4 : Fr w1 w4 := hz.trans (show Fr w3 w4 from Below.grown ((Fr.refl w3).alloc _) gr4 (by simp) (own_base HOe.out)); replace hz := hw4; clear own4 gr4 hw4 HOe HI3)
        | (refine step_append_L cdN rfl _ _ 22 38 i0 _ 64 rfl Tryz.underlying22 hi0 hz0 hz1 hz2 rfl w1.heap.size _ 0 [] rfl HOe.out (.slice pa L0.length pc) L0 rfl HI3.out HM1.out.1 HM1.out.2.1 (Fr.size hz) ?_; intro v4 w4 own4 gr4; have HO4 := hideP own4; have hw4 : Fr w1 w4 := Below.grown hz gr4 (Fr.size hz) (own_base HOe.out); replace hz := hw4; clear own4 gr4 hw4 HOe HI3))
      all_goals (
        have HO7 := hideP (show w6.ownsRow w1.heap.size 38 6 v6 M (flat cdN (L0 ++ L1)) from by
          have := HO6.out
          simp only [Nat.zero_add, List.nil_append, HMm.out] at this
          exact this)
        obtain ⟨va, vc, rfl⟩ := own_slice HO7.out
        have HLit := hideP (lit_one cdN w6 (EV.rt (EV.flp false 16)) 38)
        have HO8 := hideP (own_fr HO7.out ((Fr.refl w6).alloc (.cells #[.int .i64 (EV.flp false 16), .int .i64 2, .int .i64 0, .int .i64 0, .string ⟨#[]⟩, .string ⟨#[]⟩] 38)))
        have F8 := hideP ((Fr.refl w6).alloc (.cells #[.int .i64 (EV.flp false 16), .int .i64 2, .int .i64 0, .int .i64 0, .string ⟨#[]⟩, .string ⟨#[]⟩] 38))
        simp only [show EV.flp false 16 = 16 from by decide] at HLit HO8 F8
        have FZ := hideP hz
        have hs6 := Fr.size hz
        clear HO6 HO7 HS2 hz
        go_wp2_with (at_builtin; refine wpList_append_L cdN rfl _ _ 22 38 i0 _ 64 rfl Tryz.underlying22 hi0 hz0 hz1 hz2 rfl w1.heap.size _ M _ rfl HO8.out (.slice (some ⟨w6.heap.size, 0, none⟩) 1 1) [EV.rt 16] rfl HLit.out ?c3 ?c4 ?c5 ?_)
        case c3 => unfold maxLen; simp <;> omega
        case c4 => simp <;> omega
        case c5 => simp <;> omega
        intro v9 w9 own9 gr9
        have F9 := hideP (show Fr w1 w9 from Below.grown (FZ.out.trans F8.out) gr9 (by simp; omega) (own_base HO8.out))
        have HO9 := hideP own9
        clear own9 gr9
        go_wp2_with fail
        go_ret
        refine ⟨⟨_, rfl, ?_⟩, F1.out.trans F9.out⟩
        rw [HTf.out, List.length_append, List.length_append, HMm.out, List.append_assoc]
        exact own_low HO9.out F1.out.size)
    · go_upto_region 6 with fail
      have hz := Fr.drew (Fr.refl w1)
      have HM1 : Hid (0 + L0.length ≤ maxLen ∧ (0 + L0.length) * 64 ≤ 140737488355328 ∧ (0 + L0.length) + L1.length ≤ maxLen ∧ ((0 + L0.length) + L1.length) * 64 ≤ 140737488355328) := by have := HBb.out; unfold Hid maxLen; omega
      have HE0 := hideP (fun (W : World) => own_lit0 cdN W 38 W.heap.size (Nat.le_refl _))
      go_region_held3 (fun W => W.cell? ⟨g, og, none⟩ = some (.slice xa xn xc) ∧ W.cell? ⟨g, og + 1, none⟩ = some (.slice ya yn yc)) (first | exact HS2.out | exact s2_after hz HS2.out | exact s2_after (hz.alloc _) HS2.out) (first
        | (go_at_call 52; refine (HD0.out _ hz).mono ?_; rintro _ w3 ⟨⟨u3, rfl, own3⟩, f3⟩; obtain ⟨pa, pc, rfl⟩ := own_slice own3; have HI3 := hideP (show IsL cdN w3 (.slice pa L0.length pc) L0 from isL_own (E := cdN) own3); have HOe := hideP (HE0.out w3); have hw3 := hz.trans f3; replace hz := hw3; clear HD0 own3 f3 hw3)
        | (go_at_call 52; refine (HD0.out _ (hz.alloc _)).mono ?_; rintro _ w3 ⟨⟨u3, rfl, own3⟩, f3⟩; obtain ⟨pa, pc, rfl⟩ := own_slice own3; have HI3 := hideP (show IsL cdN w3 (.slice pa L0.length pc) L0 from isL_own (E := cdN) own3); have HOe := hideP (own_fr (HE0.out w1.drew) f3); have hw3 := (hz.alloc _).trans f3; replace hz := hw3; clear HD0 own3 f3 hw3)
        | (go_at_call 52; refine (HD1.out _ hz).mono ?_; rintro _ w5 ⟨⟨u5, rfl, own5⟩, f5⟩; obtain ⟨ra, rc, rfl⟩ := own_slice own5; have HI5 := hideP (show IsL cdN w5 (.slice ra L1.length rc) L1 from isL_own (E := cdN) own5); have HO5 := hideP (own_fr HO4.out f5); have hw5 := hz.trans f5; replace hz := hw5; clear HD1 own5 f5 hw5)
        | (refine step_append_L cdN rfl _ _ 22 38 i0 _ 64 rfl Tryz.underlying22 hi0 hz0 hz1 hz2 rfl w1.heap.size _ _ _ rfl HO5.out (.slice ra L1.length rc) L1 rfl HI5.out HM1.out.2.2.1 HM1.out.2.2.2 (Fr.size hz) ?_; intro v6 w6 own6 gr6; have HO6 := hideP own6; have hw6 : Fr w1 w6 := Below.grown hz gr6 (Fr.size hz) (own_base HO5.out); replace hz := hw6; clear own6 gr6 hw6 HO5 HI5)
        | (refine step_append_L cdN rfl _ _ 22 38 i0 _ 64 rfl Tryz.underlying22 hi0 hz0 hz1 hz2 rfl w3.heap.size _ 0 [] rfl HOe.out (.slice pa L0.length pc) L0 rfl (HI3.out.fr ((Fr.refl w3).alloc _)) HM1.out.1 HM1.out.2.1 (by simp) ?_; intro v4 w4 own4 gr4; have HO4 := hideP (own_low own4 (Fr.size hz)); have hw4 : Fr w1 w4 := hz.trans (show Fr w3 w4 from Below.grown ((Fr.refl w3).alloc _) gr4 (by simp) (own_base HOe.out)); replace hz := hw4; clear own4 gr4 hw4 HOe HI3)
        | (refine step_append_L cdN rfl _ _ 22 38 i0 _ 64 rfl Tryz.underlying22 hi0 hz0 hz1 hz2 rfl w1.heap.size _ 0 [] rfl HOe.out (.slice pa L0.length pc) L0 rfl HI3.out HM1.out.1 HM1.out.2.1 (Fr.size hz) ?_; intro v4 w4 own4 gr4; have HO4 := hideP own4; have hw4 : Fr w1 w4 := Below.grown hz gr4 (Fr.size hz) (own_base HOe.out); replace hz := hw4; clear own4 gr4 hw4 HOe HI3))
      all_goals (
        have HO7 := hideP (show w6.ownsRow w1.heap.size 38 6 v6 M (flat cdN (L0 ++ L1)) from by
          have := HO6.out
          simp only [Nat.zero_add, List.nil_append, HMm.out] at this
          exact this)
        obtain ⟨va, vc, rfl⟩ := own_slice HO7.out
        have HLit := hideP (lit_one cdN w6 (EV.rt (EV.flp false 17)) 38)
        have HO8 := hideP (own_fr HO7.out ((Fr.refl w6).alloc (.cells #[.int .i64 (EV.flp false 17), .int .i64 2, .int .i64 0, .int .i64 0, .string ⟨#[]⟩, .string ⟨#[]⟩] 38)))
        have F8 := hideP ((Fr.refl w6).alloc (.cells #[.int .i64 (EV.flp false 17), .int .i64 2, .int .i64 0, .int .i64 0, .string ⟨#[]⟩, .string ⟨#[]⟩] 38))
        simp only [show EV.flp false 17 = 17 from by decide] at HLit HO8 F8
        have FZ := hideP hz
        have hs6 := Fr.size hz
        clear HO6 HO7 HS2 hz
        go_wp2_with (at_builtin; refine wpList_append_L cdN rfl _ _ 22 38 i0 _ 64 rfl Tryz.underlying22 hi0 hz0 hz1 hz2 rfl w1.heap.size _ M _ rfl HO8.out (.slice (some ⟨w6.heap.size, 0, none⟩) 1 1) [EV.rt 17] rfl HLit.out ?c3 ?c4 ?c5 ?_)
        case c3 => unfold maxLen; simp <;> omega
        case c4 => simp <;> omega
        case c5 => simp <;> omega
        intro v9 w9 own9 gr9
        have F9 := hideP (show Fr w1 w9 from Below.grown (FZ.out.trans F8.out) gr9 (by simp; omega) (own_base HO8.out))
        have HO9 := hideP own9
        clear own9 gr9
        go_wp2_with fail
        go_ret
        refine ⟨⟨_, rfl, ?_⟩, F1.out.trans F9.out⟩
        rw [HTf.out, List.length_append, List.length_append, HMm.out, List.append_assoc]
        exact own_low HO9.out F1.out.size)
  have e5 : (n.op == 16) = false := by simp; omega
  have e6 : (n.op == 17) = false := by simp; omega
  replace HPf := hideP (HPf.out.trans (if_neg h5))
  have HFr : Hid (1 ≤ n.op ∧ n.op ≤ 25) := EV.op_in hg.1
  rw [List.length_append] at hcap HK HI ⊢
  simp only [List.length_cons, List.length_nil, Nat.zero_add] at hcap HK HI ⊢
  obtain ⟨kf, hkf⟩ : ∃ kf, k.flat.length = kf := ⟨_, rfl⟩
  have HKf := hideP hkf
  rw [hkf] at c0 hcap hkl HK HI HLa ⊢
  have hx1 : (1 : Int) ≤ (kf : Int) + 1 := by omega
  generalize hkk : k.flat = kk at *
  have HKK := hideP hkk
  generalize k.parts = ls at *
  obtain ⟨op, kids, v0, nm⟩ := n
  simp only at c0 HPf HCt HLa h4 h5 e4 e5 e6
  have HLk : Hid ((kk ++ [(⟨op, kids, v0, nm⟩ : EX.Nd)]).length = kf + 1) := by unfold Hid; rw [List.length_append, HKf.out]; rfl
  clear HP hg hl hkf hkk h4 h5
  replace HPf := hideP (HPf.out.trans (by first | exact if_pos rfl | exact if_pos trivial))
  go_enter Tryz.func52, Tryz.ntmps52
  go_wp2_with fail
  refine HK.out.mono ?_
  rintro _ w1 ⟨⟨u, rfl, hll⟩, f1⟩
  obtain ⟨qs9, ⟨ua, uc, rfl, _⟩, _⟩ := hll
  have F1 := hideP f1
  have HL0 := hideP (own_lit0 cdN w1 38 w1.heap.size (Nat.le_refl _))
  have FL0 := hideP ((Fr.refl w1).alloc (.cells #[] 38))
  have HI1 := hideP (HI.out.fr (F1.out.trans FL0.out))
  clear f1
  go_wp2_with (at_builtin; refine wpList_append_L cdN rfl _ _ 22 38 i0 _ 64 rfl Tryz.underlying22 hi0 hz0 hz1 hz2 rfl w1.heap.size _ 0 [] rfl HL0.out (.slice (some ⟨bb, o, none⟩) (kf + 1) cap) _ rfl HI1.out ?c3 ?c4 ?c5 ?_)
  case c3 => unfold maxLen; rw [HLk.out]; omega
  case c4 => rw [HLk.out]; omega
  case c5 => simp
  intro v3 w3 own3 gr3
  have F3 := hideP (show Fr w1 w3 from Below.grown FL0.out gr3 (by simp) (own_base HL0.out))
  have HO3 := hideP (show w3.ownsRow w1.heap.size 38 6 v3 (kf + 1) (flat cdN (kk ++ [⟨op, kids, v0, nm⟩])) from by
    have := own3
    first
      | exact this
      | (simp only [HLk.out, HKf.out, Nat.zero_add, List.nil_append] at this; exact this))
  obtain ⟨va, vc, rfl⟩ := own_slice HO3.out
  clear own3 gr3 HL0 FL0 HI1
  go_wp2_with fail
  go_ret
  refine ⟨⟨_, rfl, ?_⟩, F1.out.trans F3.out⟩
  rw [HPf.out]
  simp only [EX.F.flat]
  rw [HKK.out, List.length_append, HKf.out]
  exact own_low HO3.out F1.out.size
theorem notOf_core (n : EX.Nd) (k : EX.F) (v : Value) (w : World) (HP : RpTo (k.flat ++ [n]).length) (hg : (EX.F.nd n k .nil).good) (hl : (k.flat ++ [n]).length ≤ 60) (h : IsL cdN w v (k.flat ++ [n])) :
    Calls Tryz.prog 71 #[v] w fun r w' => RpAns true n k w.heap.size r w' ∧ Fr w w' := by
  obtain ⟨i0, hi0, hz0, hz1, hz2⟩ := info_parts Tryz.infoN
  have HK := hideP (exprKids_any n k v w hg hl h)
  have HI := hideP h
  have hkl : k.flat.length + 1 ≤ 60 := by rw [List.length_append] at hl; exact hl
  have HPf : Hid (EV.pf true (.nd n k .nil) = if n.op = 4 then EX.F.app (EV.pf false k) .nil
    else if n.op = 16 ∨ n.op = 17 then .nd ⟨EV.flp true n.op, n.kids, n.v, n.nm⟩ (EV.pf true k) .nil
    else if true = false then .nd n k .nil
    else if EV.cpt n.op ≠ 0 then .nd ⟨EV.cpt n.op, n.kids, n.v, n.nm⟩ k .nil
    else .nd EV.notN (.nd n k .nil) .nil) := by
    unfold Hid
    conv => lhs; unfold EV.pf
    rw [show EV.pf true .nil = .nil by rw [EV.pf]]
    rfl
  have HLa := hideP (flat_set_last k.flat n (EV.cpt n.op))
  have HCt := hideP (fun W => counterOf_any n.op W)
  obtain ⟨a, cap, rfl, hcap, hcs⟩ := h
  obtain ⟨bb, o, rfl, hb, hat⟩ : ∃ b o, a = some ⟨b, o, none⟩ ∧ b < w.heap.size ∧ At cdN w b o (k.flat ++ [n]) := by
    rcases hcs with h | h
    · simp at h
    · exact h
  have c0 := (hat.nd k.flat.length (by simp)).1
  simp only [List.getElem_concat_length] at c0
  unfold RpAns at *
  obtain ⟨T, hT⟩ : ∃ T, EV.pf true (.nd n k .nil) = T := ⟨_, rfl⟩
  rw [hT] at HPf ⊢
  clear hcs hat hT
  by_cases h4 : n.op = 4
  · have h1 := EV.kids_not hg.1 h4 hg.2.1
    replace HPf := hideP (HPf.out.trans (if_pos h4))
    obtain ⟨n', k', rfl⟩ : ∃ n' k', k = .nd n' k' .nil := by
      cases k with
      | nil => cases h1
      | nd n' k' s' =>
        cases s' with
        | nd _ _ _ => simp only [EX.F.len] at h1; omega
        | nil => exact ⟨n', k', rfl⟩
    have HCa := hideP (fun W u (hu : IsL cdN W u (k'.flat ++ [n'])) => HP.1 n' k' u W (by rw [List.length_append]; simp [EX.F.flat]) hg.2.2.1 (by simp only [EX.F.flat] at hkl; omega) hu)
    unfold RpAns at HCa
    have e1 : (EX.F.nd n' k' .nil).parts = [k'.flat ++ [n']] := rfl
    rw [e1] at HK
    rw [List.length_append] at hcap HK ⊢
    simp only [List.length_cons, List.length_nil, Nat.zero_add] at hcap HK ⊢
    generalize (EX.F.nd n' k' .nil).flat.length = kf at *
    rw [h4] at c0
    have hx1 : (1 : Int) ≤ (kf : Int) + 1 := by omega
    clear HP hg hl h1 h4 HLa HCt HI
    go_enter Tryz.func71, Tryz.ntmps71
    go_wp2_with fail
    refine HK.out.mono ?_
    rintro _ w1 ⟨⟨u, rfl, hll⟩, f1⟩
    obtain ⟨g, og, gc, qs, hq, rfl, hgc, hcell, hisl⟩ := ll_cell hll (by simp)
    simp only [List.length_cons, List.length_nil, Nat.zero_add] at hq hgc ⊢
    obtain ⟨x, rfl⟩ : ∃ x, qs = [x] := by
      match qs, hq with
      | [x], _ => exact ⟨x, rfl⟩
    have d0 := show w1.cell? ⟨g, og, none⟩ = some (.slice x.a x.n x.c) from hcell 0 (by simp)
    have HQ0 := hideP (show IsL cdN w1 (.slice x.a x.n x.c) (k'.flat ++ [n']) from hisl 0 (by simp) (by simp))
    obtain ⟨xa, xn, xc⟩ := x
    simp only at d0 HQ0
    have HCb := hideP (HCa.out w1 _ HQ0.out)
    have F1 := hideP f1
    clear hcell hisl hll f1 hq
    go_wp2_with fail
    refine HCb.out.mono ?_
    rintro _ w2 ⟨⟨u2, rfl, own2⟩, f2⟩
    go_wp2_with fail
    go_ret
    refine ⟨⟨_, rfl, ?_⟩, F1.out.trans f2⟩
    rw [HPf.out, EX.F.app_nil]
    exact own_low own2 F1.out.size
  have e4 : (n.op == 4) = false := by simpa using h4
  replace HPf := hideP (HPf.out.trans (if_neg h4))
  by_cases h5 : n.op = 16 ∨ n.op = 17
  · replace HPf := hideP (HPf.out.trans (if_pos h5))
    have hk2 : n.kids = 2 := by
      obtain ⟨_, h6, h7, _⟩ := EV.nchk_parts hg.1
      rcases h5 with h5 | h5 <;> rw [h5] at h6 h7
      · have e1 : EX.kl 16 = 2 := by decide
        have e2 : EX.km 16 = 2 := by decide
        omega
      · have e1 : EX.kl 17 = 2 := by decide
        have e2 : EX.km 17 = 2 := by decide
        omega
    have hroot := root_eq hg.1 h5 hk2
    obtain ⟨n1, k1, n2, k2, rfl⟩ : ∃ n1 k1 n2 k2, k = .nd n1 k1 (.nd n2 k2 .nil) := by
      have h6 := hg.2.1
      rw [hk2] at h6
      match k, h6 with
      | .nd n1 k1 (.nd n2 k2 .nil), _ => exact ⟨n1, k1, n2, k2, rfl⟩
      | .nil, h => simp [EX.F.len] at h
      | .nd _ _ .nil, h => simp [EX.F.len] at h
      | .nd _ _ (.nd _ _ (.nd _ _ _)), h => simp only [EX.F.len] at h; omega
    have hfl : (EX.F.nd n1 k1 (.nd n2 k2 .nil)).flat.length = (k1.flat ++ [n1]).length + (k2.flat ++ [n2]).length := by simp [EX.F.flat]; omega
    have HC0 := hideP (fun W u (hu : IsL cdN W u (k1.flat ++ [n1])) => HP.2 n1 k1 u W (by have := hfl; simp only [List.length_append, List.length_cons, List.length_nil] at this ⊢; omega) ⟨hg.2.2.1.1, hg.2.2.1.2.1, hg.2.2.1.2.2.1, trivial⟩ (by omega) hu)
    have HC1 := hideP (fun W u (hu : IsL cdN W u (k2.flat ++ [n2])) => HP.2 n2 k2 u W (by have := hfl; simp only [List.length_append, List.length_cons, List.length_nil] at this ⊢; omega) hg.2.2.1.2.2.2 (by omega) hu)
    unfold RpAns at HC0 HC1
    have hpp : (EV.pf true (EX.F.nd n1 k1 (.nd n2 k2 .nil))).flat = (EV.pf true (.nd n1 k1 .nil)).flat ++ (EV.pf true (.nd n2 k2 .nil)).flat := by
      have e9 : EX.F.nd n1 k1 (.nd n2 k2 .nil) = EX.F.app (.nd n1 k1 .nil) (.nd n2 k2 .nil) := rfl
      rw [e9, EV.pf_app, EX.F.flat_app]
    have HTf : Hid (T.flat = ((EV.pf true (.nd n1 k1 .nil)).flat ++ (EV.pf true (.nd n2 k2 .nil)).flat) ++ [EV.rt (EV.flp true n.op)]) := by
      unfold Hid
      rw [HPf.out]
      simp only [EX.F.flat]
      rw [hpp, hroot]
      rfl
    have hb1 := EV.pf_flat_len (.nd n1 k1 .nil) true
    have hb2 := EV.pf_flat_len (.nd n2 k2 .nil) true
    have e1 : (EX.F.nd n1 k1 (.nd n2 k2 .nil)).parts = [k1.flat ++ [n1], k2.flat ++ [n2]] := rfl
    rw [e1] at HK
    have e2 : (EX.F.nd n1 k1 .nil).flat = k1.flat ++ [n1] := rfl
    have e3 : (EX.F.nd n2 k2 .nil).flat = k2.flat ++ [n2] := rfl
    rw [e2] at hb1
    rw [e3] at hb2
    have hbb : (EV.pf true (.nd n1 k1 .nil)).flat.length + (EV.pf true (.nd n2 k2 .nil)).flat.length ≤ 200 := by omega
    generalize (EV.pf true (.nd n1 k1 .nil)).flat = L0 at *
    generalize (EV.pf true (.nd n2 k2 .nil)).flat = L1 at *
    generalize k1.flat ++ [n1] = P0 at *
    generalize k2.flat ++ [n2] = P1 at *
    rw [List.length_append] at hcap HK ⊢
    simp only [List.length_cons, List.length_nil, Nat.zero_add] at hcap HK ⊢
    generalize (EX.F.nd n1 k1 (.nd n2 k2 .nil)).flat.length = kf at *
    have hx1 : (1 : Int) ≤ (kf : Int) + 1 := by omega
    generalize n.op = op at *
    clear HP hg hl hroot hk2 hpp hb1 hb2 e1 e2 e3 hfl HLa HCt HI h4
    obtain ⟨M, hM⟩ : ∃ M, L0.length + L1.length = M := ⟨_, rfl⟩
    have HMm := hideP hM
    rw [hM] at hbb
    clear hM e4
    have hbb0 : L0.length + L1.length ≤ 200 := by rw [HMm.out]; exact hbb
    have HBb := hideP hbb0
    clear hbb0
    go_enter Tryz.func71, Tryz.ntmps71
    go_wp2_with fail
    refine HK.out.mono ?_
    rintro _ w1 ⟨⟨u, rfl, hll⟩, f1⟩
    obtain ⟨g, og, gc, qs, hq, rfl, hgc, hcell, hisl⟩ := ll_cell hll (by simp)
    simp only [List.length_cons, List.length_nil, Nat.zero_add, Nat.reduceAdd] at hq hgc ⊢
    obtain ⟨x, y, rfl⟩ : ∃ x y, qs = [x, y] := by
      match qs, hq with
      | [x, y], _ => exact ⟨x, y, rfl⟩
    have HS2 := hideP (show w1.cell? ⟨g, og, none⟩ = some (.slice x.a x.n x.c) ∧ w1.cell? ⟨g, og + 1, none⟩ = some (.slice y.a y.n y.c) from ⟨hcell 0 (by simp), hcell 1 (by simp)⟩)
    have HQ0 := hideP (show IsL cdN w1 (.slice x.a x.n x.c) P0 from hisl 0 (by simp) (by simp))
    have HQ1 := hideP (show IsL cdN w1 (.slice y.a y.n y.c) P1 from hisl 1 (by simp) (by simp))
    have HD0 := hideP (fun W (f : Fr w1 W) => HC0.out W _ (HQ0.out.fr f))
    have HD1 := hideP (fun W (f : Fr w1 W) => HC1.out W _ (HQ1.out.fr f))
    obtain ⟨xa, xn, xc⟩ := x
    obtain ⟨ya, yn, yc⟩ := y
    simp only at HS2 HD0 HD1
    have F1 := hideP f1
    have hgc' : (2 : Int) ≤ (gc : Int) := by omega
    clear hcell hisl hll f1 hq HC0 HC1 HQ0 HQ1
    rcases h5 with rfl | rfl
    · go_upto_region 6 with fail
      have hz := Fr.drew (Fr.refl w1)
      have HM1 : Hid (0 + L0.length ≤ maxLen ∧ (0 + L0.length) * 64 ≤ 140737488355328 ∧ (0 + L0.length) + L1.length ≤ maxLen ∧ ((0 + L0.length) + L1.length) * 64 ≤ 140737488355328) := by have := HBb.out; unfold Hid maxLen; omega
      have HE0 := hideP (fun (W : World) => own_lit0 cdN W 38 W.heap.size (Nat.le_refl _))
      go_region_held3 (fun W => W.cell? ⟨g, og, none⟩ = some (.slice xa xn xc) ∧ W.cell? ⟨g, og + 1, none⟩ = some (.slice ya yn yc)) (first | exact HS2.out | exact s2_after hz HS2.out | exact s2_after (hz.alloc _) HS2.out) (first
        | (go_at_call 71; refine (HD0.out _ hz).mono ?_; rintro _ w3 ⟨⟨u3, rfl, own3⟩, f3⟩; obtain ⟨pa, pc, rfl⟩ := own_slice own3; have HI3 := hideP (show IsL cdN w3 (.slice pa L0.length pc) L0 from isL_own (E := cdN) own3); have HOe := hideP (HE0.out w3); have hw3 := hz.trans f3; replace hz := hw3; clear HD0 own3 f3 hw3)
        | (go_at_call 71; refine (HD0.out _ (hz.alloc _)).mono ?_; rintro _ w3 ⟨⟨u3, rfl, own3⟩, f3⟩; obtain ⟨pa, pc, rfl⟩ := own_slice own3; have HI3 := hideP (show IsL cdN w3 (.slice pa L0.length pc) L0 from isL_own (E := cdN) own3); have HOe := hideP (own_fr (HE0.out w1.drew) f3); have hw3 := (hz.alloc _).trans f3; replace hz := hw3; clear HD0 own3 f3 hw3)
        | (go_at_call 71; refine (HD1.out _ hz).mono ?_; rintro _ w5 ⟨⟨u5, rfl, own5⟩, f5⟩; obtain ⟨ra, rc, rfl⟩ := own_slice own5; have HI5 := hideP (show IsL cdN w5 (.slice ra L1.length rc) L1 from isL_own (E := cdN) own5); have HO5 := hideP (own_fr HO4.out f5); have hw5 := hz.trans f5; replace hz := hw5; clear HD1 own5 f5 hw5)
        | (refine step_append_L cdN rfl _ _ 22 38 i0 _ 64 rfl Tryz.underlying22 hi0 hz0 hz1 hz2 rfl w1.heap.size _ _ _ rfl HO5.out (.slice ra L1.length rc) L1 rfl HI5.out HM1.out.2.2.1 HM1.out.2.2.2 (Fr.size hz) ?_; intro v6 w6 own6 gr6; have HO6 := hideP own6; have hw6 : Fr w1 w6 := Below.grown hz gr6 (Fr.size hz) (own_base HO5.out); replace hz := hw6; clear own6 gr6 hw6 HO5 HI5)
        | (refine step_append_L cdN rfl _ _ 22 38 i0 _ 64 rfl Tryz.underlying22 hi0 hz0 hz1 hz2 rfl w3.heap.size _ 0 [] rfl HOe.out (.slice pa L0.length pc) L0 rfl (HI3.out.fr ((Fr.refl w3).alloc _)) HM1.out.1 HM1.out.2.1 (by simp) ?_; intro v4 w4 own4 gr4; have HO4 := hideP (own_low own4 (Fr.size hz)); have hw4 : Fr w1 w4 := hz.trans (show Fr w3 w4 from Below.grown ((Fr.refl w3).alloc _) gr4 (by simp) (own_base HOe.out)); replace hz := hw4; clear own4 gr4 hw4 HOe HI3)
        | (refine step_append_L cdN rfl _ _ 22 38 i0 _ 64 rfl Tryz.underlying22 hi0 hz0 hz1 hz2 rfl w1.heap.size _ 0 [] rfl HOe.out (.slice pa L0.length pc) L0 rfl HI3.out HM1.out.1 HM1.out.2.1 (Fr.size hz) ?_; intro v4 w4 own4 gr4; have HO4 := hideP own4; have hw4 : Fr w1 w4 := Below.grown hz gr4 (Fr.size hz) (own_base HOe.out); replace hz := hw4; clear own4 gr4 hw4 HOe HI3))
      all_goals (
        have HO7 := hideP (show w6.ownsRow w1.heap.size 38 6 v6 M (flat cdN (L0 ++ L1)) from by
          have := HO6.out
          simp only [Nat.zero_add, List.nil_append, HMm.out] at this
          exact this)
        obtain ⟨va, vc, rfl⟩ := own_slice HO7.out
        have HLit := hideP (lit_one cdN w6 (EV.rt (EV.flp true 16)) 38)
        have HO8 := hideP (own_fr HO7.out ((Fr.refl w6).alloc (.cells #[.int .i64 (EV.flp true 16), .int .i64 2, .int .i64 0, .int .i64 0, .string ⟨#[]⟩, .string ⟨#[]⟩] 38)))
        have F8 := hideP ((Fr.refl w6).alloc (.cells #[.int .i64 (EV.flp true 16), .int .i64 2, .int .i64 0, .int .i64 0, .string ⟨#[]⟩, .string ⟨#[]⟩] 38))
        simp only [show EV.flp true 16 = 17 from by decide] at HLit HO8 F8
        have FZ := hideP hz
        have hs6 := Fr.size hz
        clear HO6 HO7 HS2 hz
        go_wp2_with (at_builtin; refine wpList_append_L cdN rfl _ _ 22 38 i0 _ 64 rfl Tryz.underlying22 hi0 hz0 hz1 hz2 rfl w1.heap.size _ M _ rfl HO8.out (.slice (some ⟨w6.heap.size, 0, none⟩) 1 1) [EV.rt 17] rfl HLit.out ?c3 ?c4 ?c5 ?_)
        case c3 => unfold maxLen; simp <;> omega
        case c4 => simp <;> omega
        case c5 => simp <;> omega
        intro v9 w9 own9 gr9
        have F9 := hideP (show Fr w1 w9 from Below.grown (FZ.out.trans F8.out) gr9 (by simp; omega) (own_base HO8.out))
        have HO9 := hideP own9
        clear own9 gr9
        go_wp2_with fail
        go_ret
        refine ⟨⟨_, rfl, ?_⟩, F1.out.trans F9.out⟩
        rw [HTf.out, List.length_append, List.length_append, HMm.out, List.append_assoc]
        exact own_low HO9.out F1.out.size)
    · go_upto_region 6 with fail
      have hz := Fr.drew (Fr.refl w1)
      have HM1 : Hid (0 + L0.length ≤ maxLen ∧ (0 + L0.length) * 64 ≤ 140737488355328 ∧ (0 + L0.length) + L1.length ≤ maxLen ∧ ((0 + L0.length) + L1.length) * 64 ≤ 140737488355328) := by have := HBb.out; unfold Hid maxLen; omega
      have HE0 := hideP (fun (W : World) => own_lit0 cdN W 38 W.heap.size (Nat.le_refl _))
      go_region_held3 (fun W => W.cell? ⟨g, og, none⟩ = some (.slice xa xn xc) ∧ W.cell? ⟨g, og + 1, none⟩ = some (.slice ya yn yc)) (first | exact HS2.out | exact s2_after hz HS2.out | exact s2_after (hz.alloc _) HS2.out) (first
        | (go_at_call 71; refine (HD0.out _ hz).mono ?_; rintro _ w3 ⟨⟨u3, rfl, own3⟩, f3⟩; obtain ⟨pa, pc, rfl⟩ := own_slice own3; have HI3 := hideP (show IsL cdN w3 (.slice pa L0.length pc) L0 from isL_own (E := cdN) own3); have HOe := hideP (HE0.out w3); have hw3 := hz.trans f3; replace hz := hw3; clear HD0 own3 f3 hw3)
        | (go_at_call 71; refine (HD0.out _ (hz.alloc _)).mono ?_; rintro _ w3 ⟨⟨u3, rfl, own3⟩, f3⟩; obtain ⟨pa, pc, rfl⟩ := own_slice own3; have HI3 := hideP (show IsL cdN w3 (.slice pa L0.length pc) L0 from isL_own (E := cdN) own3); have HOe := hideP (own_fr (HE0.out w1.drew) f3); have hw3 := (hz.alloc _).trans f3; replace hz := hw3; clear HD0 own3 f3 hw3)
        | (go_at_call 71; refine (HD1.out _ hz).mono ?_; rintro _ w5 ⟨⟨u5, rfl, own5⟩, f5⟩; obtain ⟨ra, rc, rfl⟩ := own_slice own5; have HI5 := hideP (show IsL cdN w5 (.slice ra L1.length rc) L1 from isL_own (E := cdN) own5); have HO5 := hideP (own_fr HO4.out f5); have hw5 := hz.trans f5; replace hz := hw5; clear HD1 own5 f5 hw5)
        | (refine step_append_L cdN rfl _ _ 22 38 i0 _ 64 rfl Tryz.underlying22 hi0 hz0 hz1 hz2 rfl w1.heap.size _ _ _ rfl HO5.out (.slice ra L1.length rc) L1 rfl HI5.out HM1.out.2.2.1 HM1.out.2.2.2 (Fr.size hz) ?_; intro v6 w6 own6 gr6; have HO6 := hideP own6; have hw6 : Fr w1 w6 := Below.grown hz gr6 (Fr.size hz) (own_base HO5.out); replace hz := hw6; clear own6 gr6 hw6 HO5 HI5)
        | (refine step_append_L cdN rfl _ _ 22 38 i0 _ 64 rfl Tryz.underlying22 hi0 hz0 hz1 hz2 rfl w3.heap.size _ 0 [] rfl HOe.out (.slice pa L0.length pc) L0 rfl (HI3.out.fr ((Fr.refl w3).alloc _)) HM1.out.1 HM1.out.2.1 (by simp) ?_; intro v4 w4 own4 gr4; have HO4 := hideP (own_low own4 (Fr.size hz)); have hw4 : Fr w1 w4 := hz.trans (show Fr w3 w4 from Below.grown ((Fr.refl w3).alloc _) gr4 (by simp) (own_base HOe.out)); replace hz := hw4; clear own4 gr4 hw4 HOe HI3)
        | (refine step_append_L cdN rfl _ _ 22 38 i0 _ 64 rfl Tryz.underlying22 hi0 hz0 hz1 hz2 rfl w1.heap.size _ 0 [] rfl HOe.out (.slice pa L0.length pc) L0 rfl HI3.out HM1.out.1 HM1.out.2.1 (Fr.size hz) ?_; intro v4 w4 own4 gr4; have HO4 := hideP own4; have hw4 : Fr w1 w4 := Below.grown hz gr4 (Fr.size hz) (own_base HOe.out); replace hz := hw4; clear own4 gr4 hw4 HOe HI3))
      all_goals (
        have HO7 := hideP (show w6.ownsRow w1.heap.size 38 6 v6 M (flat cdN (L0 ++ L1)) from by
          have := HO6.out
          simp only [Nat.zero_add, List.nil_append, HMm.out] at this
          exact this)
        obtain ⟨va, vc, rfl⟩ := own_slice HO7.out
        have HLit := hideP (lit_one cdN w6 (EV.rt (EV.flp true 17)) 38)
        have HO8 := hideP (own_fr HO7.out ((Fr.refl w6).alloc (.cells #[.int .i64 (EV.flp true 17), .int .i64 2, .int .i64 0, .int .i64 0, .string ⟨#[]⟩, .string ⟨#[]⟩] 38)))
        have F8 := hideP ((Fr.refl w6).alloc (.cells #[.int .i64 (EV.flp true 17), .int .i64 2, .int .i64 0, .int .i64 0, .string ⟨#[]⟩, .string ⟨#[]⟩] 38))
        simp only [show EV.flp true 17 = 16 from by decide] at HLit HO8 F8
        have FZ := hideP hz
        have hs6 := Fr.size hz
        clear HO6 HO7 HS2 hz
        go_wp2_with (at_builtin; refine wpList_append_L cdN rfl _ _ 22 38 i0 _ 64 rfl Tryz.underlying22 hi0 hz0 hz1 hz2 rfl w1.heap.size _ M _ rfl HO8.out (.slice (some ⟨w6.heap.size, 0, none⟩) 1 1) [EV.rt 16] rfl HLit.out ?c3 ?c4 ?c5 ?_)
        case c3 => unfold maxLen; simp <;> omega
        case c4 => simp <;> omega
        case c5 => simp <;> omega
        intro v9 w9 own9 gr9
        have F9 := hideP (show Fr w1 w9 from Below.grown (FZ.out.trans F8.out) gr9 (by simp; omega) (own_base HO8.out))
        have HO9 := hideP own9
        clear own9 gr9
        go_wp2_with fail
        go_ret
        refine ⟨⟨_, rfl, ?_⟩, F1.out.trans F9.out⟩
        rw [HTf.out, List.length_append, List.length_append, HMm.out, List.append_assoc]
        exact own_low HO9.out F1.out.size)
  have e5 : (n.op == 16) = false := by simp; omega
  have e6 : (n.op == 17) = false := by simp; omega
  replace HPf := hideP (HPf.out.trans (if_neg h5))
  have HFr : Hid (1 ≤ n.op ∧ n.op ≤ 25) := EV.op_in hg.1
  rw [List.length_append] at hcap HK HI ⊢
  simp only [List.length_cons, List.length_nil, Nat.zero_add] at hcap HK HI ⊢
  obtain ⟨kf, hkf⟩ : ∃ kf, k.flat.length = kf := ⟨_, rfl⟩
  have HKf := hideP hkf
  rw [hkf] at c0 hcap hkl HK HI HLa ⊢
  have hx1 : (1 : Int) ≤ (kf : Int) + 1 := by omega
  generalize hkk : k.flat = kk at *
  have HKK := hideP hkk
  generalize k.parts = ls at *
  obtain ⟨op, kids, v0, nm⟩ := n
  simp only at c0 HPf HCt HLa h4 h5 e4 e5 e6
  have HLk : Hid ((kk ++ [(⟨op, kids, v0, nm⟩ : EX.Nd)]).length = kf + 1) := by unfold Hid; rw [List.length_append, HKf.out]; rfl
  clear HP hg hl hkf hkk h4 h5
  replace HPf := hideP (HPf.out.trans (by first | exact if_neg (by simp) | exact if_neg not_false))
  by_cases h6 : EV.cpt op ≠ 0
  · replace HPf := hideP (HPf.out.trans (if_pos h6))
    generalize EV.cpt op = cp at *
    have q1 : (cp != 0) = true := by simpa using h6
    go_enter Tryz.func71, Tryz.ntmps71
    go_wp2_with fail
    refine HK.out.mono ?_
    rintro _ w1 ⟨⟨u, rfl, hll⟩, f1⟩
    obtain ⟨qs9, ⟨ua, uc, rfl, _⟩, _⟩ := hll
    have F1 := hideP f1
    have HL0 := hideP (own_lit0 cdN w1 38 w1.heap.size (Nat.le_refl _))
    have FL0 := hideP ((Fr.refl w1).alloc (.cells #[] 38))
    have HI1 := hideP (HI.out.fr (F1.out.trans FL0.out))
    clear f1
    go_wp2_with (at_builtin; refine wpList_append_L cdN rfl _ _ 22 38 i0 _ 64 rfl Tryz.underlying22 hi0 hz0 hz1 hz2 rfl w1.heap.size _ 0 [] rfl HL0.out (.slice (some ⟨bb, o, none⟩) (kf + 1) cap) _ rfl HI1.out ?c3 ?c4 ?c5 ?_)
    case c3 => unfold maxLen; rw [HLk.out]; omega
    case c4 => rw [HLk.out]; omega
    case c5 => simp
    intro v3 w3 own3 gr3
    have F3 := hideP (show Fr w1 w3 from Below.grown FL0.out gr3 (by simp) (own_base HL0.out))
    have HO3 := hideP (show w3.ownsRow w1.heap.size 38 6 v3 (kf + 1) (flat cdN (kk ++ [⟨op, kids, v0, nm⟩])) from by
      have := own3
      first
        | exact this
        | (simp only [HLk.out, HKf.out, Nat.zero_add, List.nil_append] at this; exact this))
    obtain ⟨va, vc, rfl⟩ := own_slice HO3.out
    clear own3 gr3 HL0 FL0 HI1
    go_wp2_with fail
    refine (HCt.out _).mono ?_
    rintro _ w4 ⟨rfl, f4⟩
    have HO4 := hideP (own_fr HO3.out f4)
    have F4 := hideP (F3.out.trans f4)
    clear f4
    go_wp2_with fail
    refine (HCt.out _).mono ?_
    rintro _ w5 ⟨rfl, f5⟩
    have HO5 := hideP (own_fr HO4.out f5)
    obtain ⟨g, rfl, hgb, hgl, hkc⟩ : ∃ g, va = some ⟨g, 0, none⟩ ∧ w1.heap.size ≤ g ∧ (∃ cur, w5.heap[g]? = some (.cells cur 38 (0, 0)) ∧ kf * 6 < cur.size) ∧ kf + 1 ≤ vc := by
      rcases HO5.out.2 with ⟨e, h0⟩ | ⟨g, cap', cur, e, h2, h3, h4, h5, h6, h7⟩
      · cases h0
      · cases e
        exact ⟨g, rfl, h2, ⟨cur, h3, by rw [h6]; omega⟩, h4⟩
    obtain ⟨cur, hcur, hcs⟩ := hgl
    have y0 := Blk.frozen (T := 38) hcur (kf * 6)
    obtain ⟨z, hz⟩ : ∃ z, w5.cell? ⟨g, kf * 6, none⟩ = some z := ⟨cur[kf * 6], Blk.cell (T := 38) hcur (kf * 6) (by rw [Array.getElem?_eq_getElem hcs])⟩
    have F5 := hideP (F4.out.trans f5)
    have HGb := hideP hgb
    clear f5 hcur hgb hcs
    go_wp2_with fail
    go_ret
    refine ⟨⟨_, rfl, ?_⟩, (F1.out.trans F5.out).setC g (kf * 6) _ (Nat.le_trans F1.out.size HGb.out)⟩
    rw [HPf.out]
    simp only [EX.F.flat]
    rw [HKK.out, List.length_append, HKf.out, ← HLa.out]
    exact own_low (own_put HO5.out) F1.out.size
  · have h6' : EV.cpt op = 0 := by omega
    replace HPf := hideP (HPf.out.trans (if_neg h6))
    rw [h6'] at HCt
    clear h6 h6' HLa
    go_enter Tryz.func71, Tryz.ntmps71
    go_wp2_with fail
    refine HK.out.mono ?_
    rintro _ w1 ⟨⟨u, rfl, hll⟩, f1⟩
    obtain ⟨qs9, ⟨ua, uc, rfl, _⟩, _⟩ := hll
    have F1 := hideP f1
    have HL0 := hideP (own_lit0 cdN w1 38 w1.heap.size (Nat.le_refl _))
    have FL0 := hideP ((Fr.refl w1).alloc (.cells #[] 38))
    have HI1 := hideP (HI.out.fr (F1.out.trans FL0.out))
    clear f1
    go_wp2_with (at_builtin; refine wpList_append_L cdN rfl _ _ 22 38 i0 _ 64 rfl Tryz.underlying22 hi0 hz0 hz1 hz2 rfl w1.heap.size _ 0 [] rfl HL0.out (.slice (some ⟨bb, o, none⟩) (kf + 1) cap) _ rfl HI1.out ?c3 ?c4 ?c5 ?_)
    case c3 => unfold maxLen; rw [HLk.out]; omega
    case c4 => rw [HLk.out]; omega
    case c5 => simp
    intro v3 w3 own3 gr3
    have F3 := hideP (show Fr w1 w3 from Below.grown FL0.out gr3 (by simp) (own_base HL0.out))
    have HO3 := hideP (show w3.ownsRow w1.heap.size 38 6 v3 (kf + 1) (flat cdN (kk ++ [⟨op, kids, v0, nm⟩])) from by
      have := own3
      first
        | exact this
        | (simp only [HLk.out, HKf.out, Nat.zero_add, List.nil_append] at this; exact this))
    obtain ⟨va, vc, rfl⟩ := own_slice HO3.out
    clear own3 gr3 HL0 FL0 HI1
    go_wp2_with fail
    refine (HCt.out _).mono ?_
    rintro _ w4 ⟨rfl, f4⟩
    have HLit := hideP (lit_one cdN w4 EV.notN 38)
    have HO4 := hideP (own_fr HO3.out (f4.alloc (.cells #[.int .i64 4, .int .i64 1, .int .i64 0, .int .i64 0, .string ⟨#[]⟩, .string ⟨#[]⟩] 38)))
    have F4 := hideP ((F3.out.trans f4).alloc (.cells #[.int .i64 4, .int .i64 1, .int .i64 0, .int .i64 0, .string ⟨#[]⟩, .string ⟨#[]⟩] 38))
    have hs4 := (F3.out.trans f4).size
    clear f4
    go_wp2_with (at_builtin; refine wpList_append_L cdN rfl _ _ 22 38 i0 _ 64 rfl Tryz.underlying22 hi0 hz0 hz1 hz2 rfl w1.heap.size _ (kf + 1) _ rfl HO4.out (.slice (some ⟨w4.heap.size, 0, none⟩) 1 1) [EV.notN] rfl HLit.out ?c3 ?c4 ?c5 ?_)
    case c3 => unfold maxLen; simp <;> omega
    case c4 => simp <;> omega
    case c5 => simp <;> omega
    intro v5 w5 own5 gr5
    have F5 := hideP (show Fr w1 w5 from Below.grown F4.out gr5 (by simp; omega) (own_base HO4.out))
    have HN5 := hideP own5
    clear own5 gr5
    go_wp2_with fail
    go_ret
    refine ⟨⟨_, rfl, ?_⟩, F1.out.trans F5.out⟩
    rw [HPf.out]
    simp only [EX.F.flat]
    rw [HKK.out, List.length_append, List.length_append, HKf.out, List.append_assoc]
    exact own_low HN5.out F1.out.size
theorem rpTo : ∀ N, RpTo N
  | 0 => ⟨fun n k v W h => by simp at h, fun n k v W h => by simp at h⟩
  | N + 1 => ⟨fun n k v W h hg hl hi => pushOf_core n k v W ⟨fun n' k' v' W' h' => (rpTo N).1 n' k' v' W' (by omega), fun n' k' v' W' h' => (rpTo N).2 n' k' v' W' (by omega)⟩ hg hl hi,
    fun n k v W h hg hl hi => notOf_core n k v W ⟨fun n' k' v' W' h' => (rpTo N).1 n' k' v' W' (by omega), fun n' k' v' W' h' => (rpTo N).2 n' k' v' W' (by omega)⟩ hg hl hi⟩
end Go.Proofs.YtjboeabddnnlcaaGreatDoor
