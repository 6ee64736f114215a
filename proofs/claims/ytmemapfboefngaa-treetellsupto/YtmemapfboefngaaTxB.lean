/-
  What the document's Check of a tree answers.
-/
import Derived.Test.YtmemapfboefngaaTxA
import Derived.Test.YtmemapfboefngaaGtL
namespace Go.Proofs.Ytmemapfboefngaa
open Go.ChangeShapes Go.WideShapes Go.ChangeAt Go.RowKit
set_option linter.unusedVariables false
set_option linter.unusedSimpArgs false
set_option maxRecDepth 100000
set_option maxHeartbeats 4000000
namespace TK
theorem lastK_snoc (st : Option ByteArray) (l : List Pr) (p : Pr) : lastK st (l ++ [p]) = some p.k := by
  unfold lastK
  rw [List.getLast?_append]
  simp
theorem lE_end {m : Nat} {st : Option ByteArray} : er (lE m st []) = 0 := rfl
theorem uE_sums {below : Nat} {u : List Int} {us : List (List Int)} (h : ¬ below < 2) : uE below (u :: us) = if (!u.any bad && decide (u.sum = (below : Int))) = true then uE u.length us else 1 := by
  rw [uE_step, if_neg h]
  by_cases h1 : u.any bad = true
  · rw [if_pos h1, h1, if_neg (by simp)]
  · have h1' : u.any bad = false := by simpa using h1
    rw [if_neg h1, h1']
    by_cases h2 : u.sum = (below : Int)
    · rw [if_neg (by simp [h2]), if_pos (by simp [h2])]
    · rw [if_pos h2, if_neg (by simp [h2])]
end TK
theorem treeCheck_any (p q : Value) (L : List (List TK.Pr)) (U : List (List Int)) (w : World) (h : IsT w p q L U) (hL : L.length ≤ 9223372036854775806) (hR : ∀ r ∈ L, r.length ≤ 9223372036854775806) (hS : ∀ r ∈ L, ∀ x ∈ r, x.k.size ≤ 140737488351232) (hU : U.length ≤ 9223372036854775806) (hUr : ∀ u ∈ U, u.length ≤ 17592186044416) :
    Calls Try.prog 13 #[.agg #[p, q]] w fun e w' => e = .returned (.int .i64 ((TK.chk L U : Nat) : Int)) ∧ Fr w w' := by
  obtain ⟨i0, hi0, hz0, hz1, hz2⟩ := info_parts Try.infoPr
  have HK : Hid (TK.chk L U = if 64 < L.length ∨ 8 < U.length then 2 else if TK.er (TK.lE L.length none L) ≠ 0 then TK.er (TK.lE L.length none L) else if TK.uE L.length U ≠ 0 then TK.uE L.length U else if 64 < L.flatten.length then 2 else 0) := rfl
  obtain ⟨pa, pc, rfl⟩ := h.l.slice
  obtain ⟨qa, qc, rfl⟩ := h.u.slice
  obtain ⟨nT, NT⟩ : ∃ n, L.length = n := ⟨_, rfl⟩
  obtain ⟨mT, MT⟩ : ∃ n, U.length = n := ⟨_, rfl⟩
  rw [NT] at h hL HK ⊢
  rw [MT] at h hU HK ⊢
  obtain ⟨W0, hW0⟩ : ∃ W0, w.alloc (.cells #[.slice pa nT pc, .slice qa mT qc] 25) = W0 := ⟨_, rfl⟩
  have f0 : Fr w W0 := by rw [← hW0]; exact (Fr.refl w).alloc _
  have b0 : Blk W0 w.heap.size #[.slice pa nT pc, .slice qa mT qc] 25 := by rw [← hW0]; exact Blk.new w _ _
  have x0 := b0.cell 0 (u := .slice pa nT pc) rfl
  have x1 := b0.cell 1 (u := .slice qa mT qc) rfl
  have HX := hideP (show _ ∧ _ from ⟨x0, x1⟩)
  obtain ⟨qs, hq0, hy1, hy2, ha0, har0⟩ := (h.l.fr f0).at
  obtain ⟨ps, hp0, hy3, hy4, hb0, hbr0⟩ := (h.u.fr f0).at
  have HQ := hideP hq0
  have HA := hideP ha0
  have HAr := hideP har0
  have HP := hideP hp0
  have HB := hideP hb0
  have HBr := hideP hbr0
  have HF0 := hideP f0
  have HNT := hideP NT
  have HMT := hideP MT
  have HRb := hideP hR
  have HSb := hideP hS
  have HUb := hideP hUr
  clear h f0 b0 hq0 ha0 har0 hp0 hb0 hbr0 hy1 hy2 hy3 hy4 hR hS hUr NT MT
  generalize TK.chk L U = C at *
  by_cases h64 : 64 < nT
  · have HE := hideP (HK.out.trans (if_pos (.inl h64)))
    have h64' : (64 : Int) < (nT : Int) := by omega
    go_enter Try.func13, Try.ntmps13
    go_wp2_with fail
    go_ret
    exact ⟨by rw [HE.out]; rfl, HF0.out⟩
  have h64' : ((64 : Int) < (nT : Int)) = False := by simp; omega
  by_cases h8 : 8 < mT
  · have HE := hideP (HK.out.trans (if_pos (.inr h8)))
    have h8' : (8 : Int) < (mT : Int) := by omega
    go_enter Try.func13, Try.ntmps13
    go_wp2_with fail
    go_ret
    exact ⟨by rw [HE.out]; rfl, HF0.out⟩
  have h8' : ((8 : Int) < (mT : Int)) = False := by simp; omega
  replace HK := hideP (HK.out.trans (if_neg (by omega)))
  obtain ⟨R, hR⟩ : ∃ R, TK.lE nT none L = R := ⟨_, rfl⟩
  rw [hR] at HK
  have HR := hideP hR
  clear hR
  have hbad : TK.er R ≠ 0 → C = TK.er R := fun e => HK.out.trans (if_pos e)
  have hgood : TK.er R = 0 → C = if TK.uE nT U ≠ 0 then TK.uE nT U else if 64 < L.flatten.length then 2 else 0 := fun e => HK.out.trans (if_neg (by simp [e]))
  have HBad := hideP hbad
  have HGood := hideP hgood
  clear hbad hgood HK
  go_enter Try.func13, Try.ntmps13
  go_wp2_with fail
  clear x0 x1
  go_loopw [3, 4, 5, 6, 7] (fun ov iv _ _ _ wr => ∃ i : Nat, iv = .int .i64 i ∧ i ≤ nT ∧ R = TK.lE nT (TK.lastK none (L.take i).flatten) (L.drop i) ∧ (L.take i).flatten.length ≤ 4 * i ∧ wr.ownsRow W0.heap.size 38 2 ov (L.take i).flatten.length (flat cdPr (L.take i).flatten) ∧ Fr W0 wr) (fun _ iv _ _ _ _ => nT - (intOf iv).toNat)
  case atStart => exact ⟨0, rfl, Nat.zero_le _, HR.out.symm, by simp, World.ownsRow_nil _ _ _ _, Fr.refl _⟩
  case round =>
    obtain ⟨i, rfl, hi, hRi, hfl, hown, hfr⟩ := hrel
    obtain ⟨fa, fc, rfl⟩ := own_slice hown
    have k0 := (Below.cell hfr (World.block_lt_of_cell? _ _ HX.out.1)).trans HX.out.1
    have k1 := (Below.cell hfr (World.block_lt_of_cell? _ _ HX.out.2)).trans HX.out.2
    by_cases hlt : i < nT
    case neg =>
      obtain rfl : i = nT := by omega
      have ht : L.take i = L := by rw [← HNT.out, List.take_length]
      have hd : L.drop i = [] := by rw [← HNT.out, List.drop_length]
      rw [hd] at hRi
      rw [ht] at hfl hown ⊢
      have HG := hideP (HGood.out (by rw [hRi]; rfl))
      obtain ⟨nF, NF⟩ : ∃ n, L.flatten.length = n := ⟨_, rfl⟩
      rw [NF] at hfl hown HG ⊢
      have HF := hideP hfr
      clear hRi hown hfr ht hd NF HA HAr HQ HR HBad HGood HRb HSb
      obtain ⟨R2, hR2⟩ : ∃ R, TK.uE i U = R := ⟨_, rfl⟩
      rw [hR2] at HG
      have HR2 := hideP hR2
      clear hR2
      go_wp2_with fail
      clear k0 k1
      go_loopw [8, 9] (fun bv iv wr => ∃ (j below : Nat), iv = .int .i64 j ∧ bv = .int .i64 (below : Int) ∧ j ≤ mT ∧ below ≤ 17592186044416 ∧ R2 = TK.uE below (U.drop j) ∧ Fr W0 wr) (fun _ iv _ => mT - (intOf iv).toNat)
      case atStart => exact ⟨0, i, rfl, rfl, Nat.zero_le _, by omega, HR2.out.symm, HF.out⟩
      case round =>
        clear HF
        obtain ⟨j, below, rfl, rfl, hj, hbl, hRj, hfr⟩ := hrel
        have k0 := (Below.cell hfr (World.block_lt_of_cell? _ _ HX.out.1)).trans HX.out.1
        have k1 := (Below.cell hfr (World.block_lt_of_cell? _ _ HX.out.2)).trans HX.out.2
        by_cases hjl : j < mT
        case neg =>
          obtain rfl : j = mT := by omega
          have hd : U.drop j = [] := by rw [← HMT.out, List.drop_length]
          rw [hd, TK.uE] at hRj
          have HF := hideP hfr
          have HRj := hideP hRj
          clear hRj hfr hd
          by_cases e1 : 1 < below
          · have HE := hideP (show C = 1 by rw [HG.out, HRj.out, if_pos e1]; rfl)
            have e1' : (1 : Int) < (below : Int) := by omega
            go_wp2_with fail
            go_ret
            exact ⟨by rw [HE.out]; rfl, HF0.out.trans HF.out⟩
          have e1' : ((1 : Int) < (below : Int)) = False := by simp; omega
          replace HG := hideP (show C = if 64 < nF then 2 else 0 by rw [HG.out, HRj.out, if_neg e1]; rfl)
          by_cases e6 : 64 < nF
          · have HE := hideP (HG.out.trans (if_pos e6))
            have e6' : (64 : Int) < (nF : Int) := by omega
            go_wp2_with fail
            go_ret
            exact ⟨by rw [HE.out]; rfl, HF0.out.trans HF.out⟩
          · have HE := hideP (HG.out.trans (if_neg e6))
            have e6' : ((64 : Int) < (nF : Int)) = False := by simp; omega
            go_wp2_with fail
            go_ret
            exact ⟨by rw [HE.out]; rfl, HF0.out.trans HF.out⟩
        have hjU : j < U.length := by rw [HMT.out]; exact hjl
        have hjq : j < ps.length := by rw [HP.out]; exact hjU
        have hjl' : (j : Int) < (mT : Int) := by omega
        obtain ⟨b, o, rfl, hb, c0⟩ := HB.out j hjq
        obtain ⟨h1, h2⟩ := HBr.out j hjq hjU
        have d0 := (Below.cell hfr (World.block_lt_of_cell? _ _ c0)).trans c0
        have hub := HUb.out _ (List.getElem_mem hjU)
        rw [List.drop_eq_getElem_cons hjU] at hRj
        generalize hrr : U[j] = u at *
        clear hrr
        generalize hrest : U.drop (j + 1) = rest at *
        have HRest := hideP hrest
        obtain ⟨x, hx⟩ : ∃ x, ps[j] = x := ⟨_, rfl⟩
        rw [hx] at c0 d0 h1 h2
        obtain ⟨xa, xn, xc⟩ := x
        simp only [Sq.v] at c0 d0 h1 h2
        have HSm := hideP (fun W (f : Fr W0 W) => sums_any _ u (below : Int) W (h1.fr f) hub ⟨by omega, by omega⟩)
        have HC0 := hideP c0
        have HF := hideP hfr
        have HRj := hideP hRj
        have HU2 := hideP (show xn = u.length from h2)
        clear c0 h1 h2 hfr hx hrest hRj
        by_cases e2 : below < 2
        · have e2' : (below : Int) < 2 := by omega
          have HE := hideP (show C = 1 by
            rw [HG.out, HRj.out]
            have : TK.uE below (u :: rest) = 1 := by rw [TK.uE_step, if_pos e2]
            rw [this]; rfl)
          go_wp2_with fail
          go_ret
          exact ⟨by rw [HE.out]; rfl, HF0.out.trans HF.out⟩
        have e2' : ((below : Int) < 2) = False := by simp; omega
        replace HRj := hideP (HRj.out.trans (TK.uE_sums e2))
        obtain ⟨v, hv⟩ : ∃ v, (!u.any TK.bad && decide (u.sum = (below : Int))) = v := ⟨_, rfl⟩
        rw [hv] at HRj HSm
        clear hv
        go_wp2_with fail
        refine (HSm.out _ HF.out).mono ?_
        rintro _ w1 ⟨rfl, f1⟩
        replace HF := hideP (HF.out.trans f1)
        have k0 := (Below.cell HF.out (World.block_lt_of_cell? _ _ HX.out.1)).trans HX.out.1
        have k1 := (Below.cell HF.out (World.block_lt_of_cell? _ _ HX.out.2)).trans HX.out.2
        have d0 := (Below.cell HF.out (World.block_lt_of_cell? _ _ HC0.out)).trans HC0.out
        clear f1
        cases v with
        | false =>
          have HE := hideP (show C = 1 by rw [HG.out, show R2 = 1 from HRj.out.trans (if_neg Bool.false_ne_true)]; rfl)
          go_wp2_with fail
          go_ret
          exact ⟨by rw [HE.out]; rfl, HF0.out.trans HF.out⟩
        | true =>
          replace HRj := hideP (HRj.out.trans (if_pos rfl))
          go_wp2_with fail
          go_roundw
          case rel => exact ⟨j + 1, xn, by go_num, rfl, by omega, by rw [HU2.out]; exact hub, by rw [HRj.out, HRest.out, HU2.out], HF.out⟩
          case measure => simp [intOf]; omega
    have hltL : i < L.length := by rw [HNT.out]; exact hlt
    have hltq : i < qs.length := by rw [HQ.out]; exact hltL
    have hlt' : (i : Int) < (nT : Int) := by omega
    obtain ⟨b, o, rfl, hb, c0⟩ := HA.out i hltq
    obtain ⟨h1, h2⟩ := HAr.out i hltq hltL
    have hst : (L.take (i + 1)).flatten = (L.take i).flatten ++ L[i] := by
      rw [List.take_succ_eq_append_getElem hltL, List.flatten_append]; simp
    rw [List.drop_eq_getElem_cons hltL, TK.lE_step] at hRi
    have hr2 := HSb.out _ (List.getElem_mem hltL)
    have hfb : ∀ x ∈ (L.take i).flatten, x.k.size ≤ 140737488351232 := by
      intro x hx
      obtain ⟨r', h1', h2'⟩ := List.mem_flatten.1 hx
      exact HSb.out r' (List.mem_of_mem_take h1') x h2'
    generalize hrr : L[i] = r at *
    clear hrr
    generalize hrest : L.drop (i + 1) = rest at *
    have HRest := hideP hrest
    obtain ⟨x, hx⟩ : ∃ x, qs[i] = x := ⟨_, rfl⟩
    rw [hx] at c0 h1 h2
    obtain ⟨xa, xn, xc⟩ := x
    simp only [Sq.v] at c0 h1 h2
    subst h2
    obtain ⟨xa', xc', e1, hcap, hat⟩ := h1
    simp only [Value.slice.injEq] at e1
    obtain ⟨rfl, _, rfl⟩ := e1
    obtain ⟨fs, hfs⟩ : ∃ fs, (L.take i).flatten = fs := ⟨_, rfl⟩
    rw [hfs] at hown hst hfl hRi hfb ⊢
    have HFb := hideP hfb
    clear hfb
    obtain ⟨fs', hfs'⟩ : ∃ fs', (L.take (i + 1)).flatten = fs' := ⟨_, rfl⟩
    rw [hfs'] at hst
    have HFs := hideP hfs'
    have HSt := hideP hst
    have HRi := hideP hRi
    have HAt := hideP hat
    have HO := hideP hown
    have HF := hideP hfr
    have HSr := hideP hr2
    have HC0 := hideP c0
    have d0 := (Below.cell hfr (World.block_lt_of_cell? _ _ c0)).trans c0
    have HK0 := hideP (show _ ∧ _ from ⟨k0, k1⟩)
    have hfl' : fs.length ≤ 256 := by omega
    have HFl := hideP hfl
    clear hfs hfs' hst hRi hat hown hfr hr2 c0 hcap hx hrest hfl
    have hbd : TK.szOk nT r.length = false → TK.er R = 1 := fun h => by rw [HRi.out, if_pos h]; rfl
    have HBd := hideP (fun h => show C = 1 by rw [HBad.out (by rw [hbd h]; decide), hbd h])
    clear hbd
    by_cases e0 : r.length = 0
    · have HE := hideP (HBd.out (by unfold TK.szOk; simp [e0]))
      have e0' : ((r.length : Int) == 0) = true := by simp [e0]
      have e0'' : (r.length : Int) = 0 := by omega
      clear HRi HAt e0
      go_wp2_with fail
      go_ret
      exact ⟨by rw [HE.out]; rfl, HF0.out.trans HF.out⟩
    have e0' : ((r.length : Int) == 0) = false := by simp; exact fun h => e0 (by rw [h]; rfl)
    by_cases e4 : 4 < r.length
    · have HE := hideP (HBd.out (by unfold TK.szOk; simp [e4]))
      have e4' : (4 : Int) < (r.length : Int) := by omega
      clear HRi HAt
      go_wp2_with fail
      go_ret
      exact ⟨by rw [HE.out]; rfl, HF0.out.trans HF.out⟩
    have e4' : ((4 : Int) < (r.length : Int)) = False := by simp; omega
    obtain ⟨rn, hrn⟩ : ∃ n, r.length = n := ⟨_, rfl⟩
    have HRn := hideP hrn
    rw [hrn] at e0 e0' e4 e4' d0
    have HOk := hideP (fun (e : TK.szOk nT r.length = true) => show R = TK.lN nT rest (TK.pE (TK.lastK none fs) r) from by rw [HRi.out, if_neg (by rw [e]; decide)])
    clear HRi hrn
    by_cases ex : rn = 1 ∧ 1 < nT
    · have HE := hideP (HBd.out (by rw [HRn.out]; unfold TK.szOk; simp [ex.1, ex.2]))
      have e1 : ((rn : Int) == 1) = true := by simp; omega
      have e1' : (rn : Int) = 1 := by omega
      have e2 : (1 : Int) < (nT : Int) := by omega
      clear ex HAt
      go_wp2_with fail
      go_ret
      exact ⟨by rw [HE.out]; rfl, HF0.out.trans HF.out⟩
    have HOk2 := hideP (HOk.out (by rw [HRn.out]; unfold TK.szOk; simp [e0]; omega))
    clear HOk HBd
    have hways : ((rn : Int) == 1) = false ∨ (((rn : Int) == 1) = true ∧ ((1 : Int) < (nT : Int)) = False) := by
      by_cases e : rn = 1
      · right; exact ⟨by simp [e], by simp; omega⟩
      · left; simp; omega
    clear ex
    rcases hways with e1 | ⟨e1, e2⟩
    all_goals (go_wp2_with fail)
    all_goals (
      clear d0 k0 k1
      go_loopw [3, 6, 7] (fun ov iv _ wr => ∃ (j : Nat), iv = .int .i64 j ∧ j ≤ rn ∧ TK.pE (TK.lastK none fs) r = TK.pE (TK.lastK none (fs ++ r.take j)) (r.drop j) ∧ wr.ownsRow W0.heap.size 38 2 ov (fs ++ r.take j).length (flat cdPr (fs ++ r.take j)) ∧ Fr W0 wr) (fun _ iv _ _ => rn - (intOf iv).toNat)
      case atStart => exact ⟨0, rfl, Nat.zero_le _, by simp, by simpa using HO.out, HF.out⟩
      case round =>
        clear HO HF
        obtain ⟨j, rfl, hj, hPj, hown, hfr⟩ := hrel
        obtain ⟨ga, gc, rfl⟩ := own_slice hown
        have k0 := (Below.cell hfr (World.block_lt_of_cell? _ _ HX.out.1)).trans HX.out.1
        have k1 := (Below.cell hfr (World.block_lt_of_cell? _ _ HX.out.2)).trans HX.out.2
        have d0 := (Below.cell hfr (World.block_lt_of_cell? _ _ HC0.out)).trans HC0.out
        rw [HRn.out] at d0
        by_cases hjl : j < rn
        case neg =>
          obtain rfl : j = rn := by omega
          have ht : r.take j = r := by rw [← HRn.out, List.take_length]
          have hd : r.drop j = [] := by rw [← HRn.out, List.drop_length]
          rw [ht, hd] at hPj
          rw [ht, ← HSt.out] at hown ⊢
          have HN := hideP (show R = TK.lE nT (TK.lastK none fs') rest by rw [HOk2.out, hPj, HSt.out]; rfl)
          have HLn := hideP (show fs'.length ≤ 4 * (i + 1) by rw [HSt.out, List.length_append, HRn.out]; have := HFl.out; omega)
          have HO := hideP hown
          have HF := hideP hfr
          clear hPj hown hfr ht hd
          go_wp2_with fail
          go_roundw
          case rel => exact ⟨i + 1, by go_num, by omega, by rw [HFs.out, HRest.out]; exact HN.out, by rw [HFs.out]; exact HLn.out, by rw [HFs.out]; exact HO.out, HF.out⟩
          case measure => simp [intOf]; omega
        have hjr : j < r.length := by rw [HRn.out]; exact hjl
        have hjl' : (j : Int) < (rn : Int) := by omega
        obtain ⟨gb, go, rfl, hgb, hat⟩ : ∃ b o, xa = some ⟨b, o, none⟩ ∧ b < W0.heap.size ∧ At cdPr W0 b o r := by
          rcases HAt.out with h | h
          · subst h; simp at hjr
          · exact h
        obtain ⟨c1, c2⟩ := hat.p2 j hjr
        have d1 := (Below.cell hfr (World.block_lt_of_cell? _ _ c1)).trans c1
        have d2 := (Below.cell hfr (World.block_lt_of_cell? _ _ c2)).trans c2
        have hks := HSr.out _ (List.getElem_mem hjr)
        have hst2 : r.take (j + 1) = r.take j ++ [r[j]] := List.take_succ_eq_append_getElem hjr
        rw [List.drop_eq_getElem_cons hjr, TK.pE_step] at hPj
        generalize hpp : r[j] = y at *
        clear hpp c1 c2 hat
        obtain ⟨k, n⟩ := y
        simp only at d1 d2 hks hPj hst2
        have hst3 : fs ++ r.take (j + 1) = (fs ++ r.take j) ++ [⟨k, n⟩] := by rw [hst2, List.append_assoc]
        have hsb : ∀ x ∈ fs ++ r.take j, x.k.size ≤ 140737488351232 := by
          intro x hx
          rcases List.mem_append.1 hx with hx | hx
          · exact HFb.out x hx
          · exact HSr.out x (List.mem_of_mem_take hx)
        have hsn : (fs ++ r.take j).length ≤ 1000 := by rw [List.length_append, List.length_take]; omega
        obtain ⟨sl, hsl⟩ : ∃ sl, fs ++ r.take j = sl := ⟨_, rfl⟩
        rw [hsl] at hown hPj hst3 hsb hsn ⊢
        obtain ⟨sl', hsl'⟩ : ∃ sl', fs ++ r.take (j + 1) = sl' := ⟨_, rfl⟩
        rw [hsl'] at hst3
        have HSl := hideP hsl'
        have HS3 := hideP hst3
        have bp := Blk.new wr #[.string k, .int .i64 n] 38
        have HBp := hideP bp
        have HF := hideP (hfr.alloc (.cells #[.string k, .int .i64 n] 38))
        have HO := hideP (own_fr hown ((Fr.refl wr).alloc (.cells #[.string k, .int .i64 n] 38)))
        have HPj := hideP hPj
        have HPk := hideP (show ∀ c, TK.pE (TK.lastK none fs) r = .error c → c ≠ 0 → C = c from fun c e e2 => by
          have : R = .error c := by rw [HOk2.out, e]; rfl
          have e3 : TK.er R = c := by rw [this]; rfl
          rw [HBad.out (by rw [e3]; exact e2), e3])
        have p0 := HBp.out.cell 0 (u := .string k) rfl
        have p1 := HBp.out.cell 1 (u := .int .i64 n) rfl
        clear bp hst2 hst3 hsl hsl' hown hfr hPj
        by_cases e40 : 40 < k.size
        · have e40' : (40 : Int) < (k.size : Int) := by omega
          have HE := hideP (HPk.out 2 (HPj.out.trans (if_pos e40)) (by decide))
          go_wp2_with fail
          go_ret
          exact ⟨by rw [HE.out]; rfl, HF0.out.trans HF.out⟩
        have e40' : ((40 : Int) < (k.size : Int)) = False := by simp; omega
        replace HPj := hideP (HPj.out.trans (if_neg e40))
        obtain ⟨m, hm⟩ : ∃ m, sl.length = m := ⟨_, rfl⟩
        rw [hm] at HO hsn ⊢
        have HM := hideP hm
        clear e40
        rcases Nat.eq_zero_or_pos m with hm0 | hm0
        · have hs0 : sl = [] := List.length_eq_zero_iff.1 (hm.trans hm0)
          have HPj2 := hideP (HPj.out.trans (if_neg (by rw [hs0]; exact fun h => Bool.noConfusion h)))
          clear hm hs0
          subst hm0
          go_wp2_with fail
          generalize hwz : (wr.alloc (.cells #[.string k, .int .i64 n] 38)) = wz at *
          have hzz : wr.heap.size ≤ wz.heap.size := by rw [← hwz, World.size_alloc]; omega
          clear hwz
          go_region
          have HF2 := hideP (Fr.drew HF.out)
          have HO2 := hideP (own_fr HO.out ((Fr.drew (Fr.refl wz)).alloc (.cells #[.string k, .int .i64 n] 38)))
          have HLit := hideP (lit_one cdPr wz.drew ⟨k, n⟩ 38)
          have hszz : W0.heap.size ≤ wz.heap.size := HF.out.size
          go_wp2_with (at_builtin; refine wpList_append_L cdPr rfl _ _ 28 38 i0 _ 24 rfl Try.underlying28 hi0 hz0 hz1 hz2 rfl W0.heap.size _ 0 _ rfl HO2.out (.slice (some ⟨wz.drew.heap.size, 0, none⟩) 1 1) [⟨k, n⟩] rfl HLit.out ?c3 ?c4 ?c5 ?_)
          case c3 => unfold maxLen; simp <;> omega
          case c4 => simp <;> omega
          case c5 => simp <;> omega
          intro v2 wB own2 gr2
          have HN2 := hideP (show wB.ownsRow W0.heap.size 38 2 v2 sl'.length (flat cdPr sl') from by
            rw [HS3.out, List.length_append, HM.out]
            exact own2)
          have FB := hideP (show Fr W0 wB from Below.grown (HF2.out.alloc _) gr2 (by simp <;> omega) (own_base HO2.out))
          clear own2 gr2
          go_wp2_with fail
          go_roundw
          case rel => exact ⟨j + 1, by go_num, by omega, by rw [HSl.out, HS3.out, TK.lastK_snoc]; exact HPj2.out, by rw [HSl.out]; exact HN2.out, FB.out⟩
          case measure => simp [intOf]; omega
        · obtain ⟨y, hy, hly⟩ : ∃ y, sl[m - 1]? = some y ∧ TK.lastK none sl = some y.k := by
            have : m - 1 < sl.length := by omega
            refine ⟨sl[m - 1], List.getElem?_eq_getElem this, ?_⟩
            unfold TK.lastK
            rw [List.getLast?_eq_getElem?, hm, List.getElem?_eq_getElem this]
          have hmy : m - 1 < sl.length := by omega
          have hyb := hsb y (List.mem_of_getElem? hy)
          rw [hly] at HPj
          obtain ⟨m', rfl⟩ : ∃ m', m = m' + 1 := ⟨m - 1, by omega⟩
          obtain ⟨g, rfl, z1, z2, z3, z4, z5, z6, z7⟩ := own_parts HO.out (by omega)
          clear z1 z2 z3 z4 z5 z6 z7
          have hil := isL_own (E := cdPr) (l := sl) (by rw [hm]; exact HO.out)
          obtain ⟨ia, ic, ie, _, iat⟩ := hil
          simp only [Value.slice.injEq] at ie
          obtain ⟨rfl, hie, rfl⟩ := ie
          clear hie
          obtain ⟨g2, o2, e2, hg2, hat2⟩ : ∃ b o, some (⟨g, 0, none⟩ : Addr) = some ⟨b, o, none⟩ ∧ b < (wr.alloc (.cells #[.string k, .int .i64 n] 38)).heap.size ∧ At cdPr (wr.alloc (.cells #[.string k, .int .i64 n] 38)) b o sl := by
            rcases iat with h | h
            · rw [h] at hmy; simp at hmy
            · exact h
          simp only [Option.some.injEq, Addr.mk.injEq] at e2
          obtain ⟨rfl, rfl, _⟩ := e2
          obtain ⟨q0, q1⟩ := hat2.p2 m' (by omega)
          have hyy : sl[m']'(by omega) = y := by
            rw [show m' + 1 - 1 = m' by omega, List.getElem?_eq_getElem (by omega)] at hy
            exact Option.some.inj hy
          rw [hyy] at q0 q1
          obtain ⟨yk, yn⟩ := y
          simp only at q0 q1 hyb hly
          have HT := hideP (fun W => textLess_t yk k W hyb hks)
          have hw1 : IntKind.i64.wrap (m' : Int) = (m' : Int) := by rw [IntKind.wrap_i64]; omega
          have hw2 : IntKind.i64.wrap ((m' : Int) + 1 - 1) = (m' : Int) := by rw [IntKind.wrap_i64]; omega
          clear hat2 iat hyy hy hly hmy q1 hm hw2 hsb hm0
          go_wp2_with fail
          generalize hwz : (wr.alloc (.cells #[.string k, .int .i64 n] 38)) = wz at *
          clear hwz
          have hz : Fr wz wz.drew := Fr.drew (Fr.refl wz)
          rw [Nat.zero_add] at q0
          have HS2 := hideP (show _ ∧ _ from ⟨q0, p0⟩)
          have q9 : (0 : Int) < (m' : Int) + 1 := by omega
          have q8 : (m' : Int) < (m' : Int) + 1 := by omega
          have q7 : (0 : Int) ≤ (m' : Int) := by omega
          clear p1
          go_region_held3 (fun W => W.cell? ⟨g, m' * 2, none⟩ = some (.string yk) ∧ W.cell? ⟨wr.heap.size, 0, none⟩ = some (.string k)) (first | exact HS2.out | exact c2_after hz HS2.out | exact c2_after f9 HS2.out) (first
            | (go_at_call 29; refine (HT.out _).mono ?_; rintro _ w3 ⟨rfl, f3⟩; have f9 := hz.trans f3; clear f3))
          all_goals (
            have HF2 := hideP (HF.out.trans f9)
            have HO2 := hideP (own_fr HO.out (f9.alloc (.cells #[.string k, .int .i64 n] 38)))
            have HLit := hideP (lit_one cdPr w3 ⟨k, n⟩ 38)
            have hszz : W0.heap.size ≤ w3.heap.size := HF2.out.size
            have p0 := (HBp.out.fr f9).cell 0 (u := .string k) rfl
            have p1 := (HBp.out.fr f9).cell 1 (u := .int .i64 n) rfl
            clear f9 hz
            cases hb : TK.lt yk k with
            | false =>
              have HE := hideP (HPk.out 4 (HPj.out.trans (if_pos hb)) (by decide))
              clear hb
              go_wp2_with fail
              go_ret
              exact ⟨by rw [HE.out]; rfl, HF0.out.trans HF2.out⟩
            | true =>
              have HPj2 := hideP (HPj.out.trans (if_neg (by show ¬ TK.lt yk k = false; rw [hb]; decide)))
              clear hb
              go_wp2_with (at_builtin; refine wpList_append_L cdPr rfl _ _ 28 38 i0 _ 24 rfl Try.underlying28 hi0 hz0 hz1 hz2 rfl W0.heap.size _ (m' + 1) _ rfl HO2.out (.slice (some ⟨w3.heap.size, 0, none⟩) 1 1) [⟨k, n⟩] rfl HLit.out ?c3 ?c4 ?c5 ?_)
              case c3 => unfold maxLen; simp <;> omega
              case c4 => simp <;> omega
              case c5 => simp <;> omega
              intro v2 wB own2 gr2
              have HN2 := hideP (show wB.ownsRow W0.heap.size 38 2 v2 sl'.length (flat cdPr sl') from by
                rw [HS3.out, List.length_append, HM.out]
                exact own2)
              have FB := hideP (show Fr W0 wB from Below.grown (HF2.out.alloc _) gr2 (by simp <;> omega) (own_base HO2.out))
              clear own2 gr2
              go_wp2_with fail
              go_roundw
              case rel => exact ⟨j + 1, by go_num, by omega, by rw [HSl.out, HS3.out, TK.lastK_snoc]; exact HPj2.out, by rw [HSl.out]; exact HN2.out, FB.out⟩
              case measure => simp [intOf]; omega))
end Go.Proofs.Ytmemapfboefngaa
