/-
  What the document's JoinOf answers.
-/
import Derived.Test.YtbcfdhimngoplaaGreatDoorBpH
import Derived.Test.YtbcfdhimngoplaaGreatDoorGqF
namespace Go.Proofs.YtbcfdhimngoplaaGreatDoor
open Go.ChangeShapes Go.WideShapes Go.ChangeAt Go.RowKit
set_option linter.unusedVariables false
set_option linter.unusedSimpArgs false
set_option maxRecDepth 100000
set_option maxHeartbeats 2000000
theorem own_empty (W : World) : (W.alloc (.cells #[] 56)).ownsRow W.heap.size 56 3 (.slice (some ⟨W.heap.size, 0, none⟩) 0 0) 0 (flat cdV []) := own_lit0 cdV W 56 W.heap.size (Nat.le_refl _)
theorem join_next {a b : List (List VM.Vl)} {i : Nat} (h : i < a.length) : BM.join (a.take (i + 1)) b = BM.join (a.take i) b ++ b.map (a[i] ++ ·) := by
 rw [List.take_succ_eq_append_getElem h]
 show BM.pairs _ _ _ = _
 rw [BM.pairs_append]
 simp [BM.pairs, BM.join]
theorem map_next {b : List (List VM.Vl)} {x : List VM.Vl} {k : Nat} (h : k < b.length) : (b.take (k + 1)).map (x ++ ·) = (b.take k).map (x ++ ·) ++ [x ++ b[k]] := by
 rw [List.take_succ_eq_append_getElem h, List.map_append]
 rfl
set_option maxHeartbeats 4000000 in
theorem joinOf_any (va vb : Value) (al bl : List (List VM.Vl)) (w : World) (ha : IsRR w va al) (hb : IsRR w vb bl) (hla : al.length ≤ 9223372036854775806) (hra : ∀ r ∈ al, r.length ≤ 9223372036854775806) (hlb : bl.length ≤ 9223372036854775806) (hrb : ∀ r ∈ bl, r.length ≤ 9223372036854775806) :
  Calls Tryz.prog 22 #[va, vb] w fun r w' => RA w.heap.size (BG.jn al bl) r w' ∧ Fr w w' := by
 have HCa := hideP (rowsCheck_any va al w ha hla hra)
 have HCb := hideP (fun W (f : Fr w W) => rowsCheck_any vb bl W (hb.fr f) hlb hrb)
 have HWa := hideP (fun W (f : Fr w W) => rwidth_any va al W (ha.fr f))
 have HWb := hideP (fun W (f : Fr w W) => rwidth_any vb bl W (hb.fr f))
 have HA := hideP ha
 have HB := hideP hb
 obtain ⟨aa, ac, rfl⟩ := ha.slice
 obtain ⟨ba, bc, rfl⟩ := hb.slice
 clear ha hb hra hrb
 by_cases ca : BG.chk al = 0
 case neg =>
  have HJ := hideP (show BG.jn al bl = .error (BG.chk al) by unfold BG.jn; rw [if_pos ca])
  rw [HJ.out]
  clear HJ HWa HWb HCb HA HB
  generalize BG.chk al = z at *
  have g1 : ((z : Int) != 0) = true := by simp; omega
  have g3 : ((z : Int) == 0) = false := by simp; omega
  have g2 : ¬ ((z : Int) = 0) := by omega
  go_enter Tryz.func22, Tryz.ntmps22
  go_wp2_with fail
  refine HCa.out.mono ?_
  rintro _ w1 ⟨rfl, f1⟩
  have F1 := hideP f1
  clear f1 HCa
  go_wp2_with fail
  go_ret2
  exact ⟨rfl, F1.out⟩
 rw [ca] at HCa
 by_cases cb : BG.chk bl = 0
 case neg =>
  have HJ := hideP (show BG.jn al bl = .error (BG.chk bl) by unfold BG.jn; rw [if_neg (by simp [ca]), if_pos cb])
  rw [HJ.out]
  clear HJ HWa HWb ca HA HB
  generalize BG.chk bl = z at *
  have g1 : ((z : Int) != 0) = true := by simp; omega
  have g3 : ((z : Int) == 0) = false := by simp; omega
  have g2 : ¬ ((z : Int) = 0) := by omega
  go_enter Tryz.func22, Tryz.ntmps22
  go_wp2_with fail
  refine HCa.out.mono ?_
  rintro _ w1 ⟨rfl, f1⟩
  have F1 := hideP f1
  clear f1 HCa
  go_wp2_with fail
  refine (HCb.out _ F1.out).mono ?_
  rintro _ w2 ⟨rfl, f2⟩
  have F2 := hideP (F1.out.trans f2)
  clear f2 HCb F1
  go_wp2_with fail
  go_ret2
  exact ⟨rfl, F2.out⟩
 rw [cb] at HCb
 obtain ⟨a40, aall⟩ := BG.chk_all ca
 obtain ⟨b40, ball⟩ := BG.chk_all cb
 have hwa : BG.wd al ≤ 8 := by
  cases al with
  | nil => simp [BG.wd]
  | cons x t => exact ((BG.chk_all ca).2 x (by simp)).1
 have hwb : BG.wd bl ≤ 8 := by
  cases bl with
  | nil => simp [BG.wd]
  | cons x t => exact ((BG.chk_all cb).2 x (by simp)).1
 have hjn : BG.jn al bl = if 8 < BG.wd al + BG.wd bl ∨ 40 < al.length * bl.length then .error 2 else .ok (BM.join al bl) := by unfold BG.jn; rw [if_neg (by simp [ca]), if_neg (by simp [cb])]
 rw [hjn]
 have HAll := hideP (show ∀ r ∈ al, r.length ≤ 8 from fun r hr => (aall r hr).1)
 have HBll := hideP (show ∀ r ∈ bl, r.length ≤ 8 from fun r hr => (ball r hr).1)
 generalize BG.wd al = wa at *
 generalize BG.wd bl = wb at *
 clear hjn ca cb aall ball
 have hm : (al.length : Int) * (bl.length : Int) ≤ 1600 := by
  have : al.length * bl.length ≤ 40 * 40 := Nat.mul_le_mul a40 b40
  have h2 : ((al.length * bl.length : Nat) : Int) ≤ ((40 * 40 : Nat) : Int) := by omega
  simpa using h2
 have hm0 : 0 ≤ (al.length : Int) * (bl.length : Int) := Int.mul_nonneg (by omega) (by omega)
 by_cases hw : 8 < wa + wb ∨ 40 < al.length * bl.length
 ·
  rw [if_pos hw]
  have hd : 8 < wa + wb ∨ (40 : Int) < (al.length : Int) * (bl.length : Int) := by
   rcases hw with h | h
   · exact .inl h
   ·
    right
    have h2 : ((40 : Nat) : Int) < ((al.length * bl.length : Nat) : Int) := by omega
    simpa using h2
  obtain ⟨m9, hm9⟩ : ∃ m : Int, (al.length : Int) * (bl.length : Int) = m := ⟨_, rfl⟩
  rw [hm9] at hm hm0 hd
  clear hw HA HB HAll HBll
  generalize al.length = na at *
  generalize bl.length = nb at *
  go_enter Tryz.func22, Tryz.ntmps22
  go_wp2_with fail
  refine HCa.out.mono ?_
  rintro _ w1 ⟨rfl, f1⟩
  have F1 := hideP f1
  clear f1 HCa
  go_wp2_with fail
  refine (HCb.out _ F1.out).mono ?_
  rintro _ w2 ⟨rfl, f2⟩
  have F2 := hideP (F1.out.trans f2)
  clear f2 HCb F1
  go_wp2_with fail
  refine (HWa.out _ F2.out).mono ?_
  rintro _ w3 ⟨rfl, f3⟩
  have F3 := hideP (F2.out.trans f3)
  clear f3 HWa F2
  go_wp2_with fail
  refine (HWb.out _ F3.out).mono ?_
  rintro _ w4 ⟨rfl, f4⟩
  have F4 := hideP (F3.out.trans f4)
  clear f4 HWb F3
  by_cases h8 : 8 < wa + wb
  ·
   have h8Z : (8 : Int) < (wa : Int) + (wb : Int) := by omega
   go_wp2_with fail
   go_ret2
   exact ⟨rfl, F4.out⟩
  ·
   have h8Z : ((8 : Int) < (wa : Int) + (wb : Int)) = False := by simp; omega
   have hmZ : (40 : Int) < m9 := by omega
   go_wp2_with fail
   go_ret2
   exact ⟨rfl, F4.out⟩
 rw [if_neg hw]
 have hd : wa + wb ≤ 8 ∧ al.length * bl.length ≤ 40 := by omega
 obtain ⟨hd1, hd2⟩ := hd
 have hmZ : (al.length : Int) * (bl.length : Int) ≤ 40 := by
  have h2 : ((al.length * bl.length : Nat) : Int) ≤ ((40 : Nat) : Int) := by omega
  simpa using h2
 obtain ⟨m9, hm9⟩ : ∃ m : Int, (al.length : Int) * (bl.length : Int) = m := ⟨_, rfl⟩
 rw [hm9] at hm hm0 hmZ
 have h8Z : ((8 : Int) < (wa : Int) + (wb : Int)) = False := by simp; omega
 have hmF : ((40 : Int) < m9) = False := by simp; omega
 obtain ⟨qa, hqa, _, _, hcellA, hrowA⟩ := HA.out.at
 obtain ⟨qb, hqb, _, _, hcellB, hrowB⟩ := HB.out.at
 have HCeA := hideP hcellA
 have HRoA := hideP hrowA
 have HCeB := hideP hcellB
 have HRoB := hideP hrowB
 have HD := hideP hd2
 clear hcellA hrowA hcellB hrowB hw hd2
 obtain ⟨na, hna⟩ : ∃ n, al.length = n := ⟨_, rfl⟩
 obtain ⟨nb, hnb⟩ : ∃ n, bl.length = n := ⟨_, rfl⟩
 have HNa := hideP hna
 have HNb := hideP hnb
 have HQa := hideP (hqa.trans hna)
 have HQb := hideP (hqb.trans hnb)
 rw [hna] at HCa hm9 a40 HD ⊢
 rw [hnb] at hm9 b40 HD ⊢
 replace HCb := hideP (show ∀ W, Fr w W → Calls Tryz.prog 47 #[.slice ba nb bc] W fun e w' => e = .returned (.int .i64 0) ∧ Fr W w' from fun W f => by have := HCb.out W f; rw [hnb] at this; exact this)
 replace HWa := hideP (show ∀ W, Fr w W → Calls Tryz.prog 51 #[.slice aa na ac] W fun e w' => e = .returned (.int .i64 (wa : Int)) ∧ Fr W w' from fun W f => by have := HWa.out W f; rw [hna] at this; exact this)
 replace HWb := hideP (show ∀ W, Fr w W → Calls Tryz.prog 51 #[.slice ba nb bc] W fun e w' => e = .returned (.int .i64 (wb : Int)) ∧ Fr W w' from fun W f => by have := HWb.out W f; rw [hnb] at this; exact this)
 clear hqa hqb hna hnb HA HB hla hlb
 obtain ⟨iS, hiS, hS0, hS1, hS2⟩ := info_parts Tryz.infoVs9
 obtain ⟨iV, hiV, hV0, hV1, hV2⟩ := info_parts Tryz.infoV9
 go_enter Tryz.func22, Tryz.ntmps22
 go_wp2_with fail
 refine HCa.out.mono ?_
 rintro _ w1 ⟨rfl, f1⟩
 have F1 := hideP f1
 clear f1 HCa
 go_wp2_with fail
 refine (HCb.out _ F1.out).mono ?_
 rintro _ w2 ⟨rfl, f2⟩
 have F2 := hideP (F1.out.trans f2)
 clear f2 HCb F1
 go_wp2_with fail
 refine (HWa.out _ F2.out).mono ?_
 rintro _ w3 ⟨rfl, f3⟩
 have F3 := hideP (F2.out.trans f3)
 clear f3 HWa F2
 go_wp2_with fail
 refine (HWb.out _ F3.out).mono ?_
 rintro _ w4 ⟨rfl, f4⟩
 have F4 := hideP (F3.out.trans f4)
 clear f4 HWb F3
 go_wp2_with fail
 clear h8Z hmF hmZ hm hm0 hm9 hwa hwb hd1
 go_loopw [7, 8, 9] (fun ov iv _ wr => ∃ i : Nat, iv = .int .i64 i ∧ i ≤ na ∧ ORR w.heap.size wr ov (BM.join (al.take i) bl) ∧ Fr w wr) (fun _ iv _ _ => na - (intOf iv).toNat)
 case atStart => exact ⟨0, rfl, Nat.zero_le _, ORR.nil _ _, F4.out⟩
 case round =>
  obtain ⟨i, rfl, hi, hO, hfr⟩ := hrel
  by_cases hlt : i < na
  case neg =>
   obtain rfl : i = na := by omega
   have hlt' : ¬ ((i : Int) < (i : Int)) := by omega
   have e9 : al.take i = al := by rw [← HNa.out]; exact List.take_length
   rw [e9] at hO
   obtain ⟨oa, oc, rfl⟩ := hO.slice
   have HO := hideP hO
   have HF := hideP hfr
   clear hO hfr e9 F4
   obtain ⟨n, hn⟩ : ∃ n, (BM.join al bl).length = n := ⟨_, rfl⟩
   rw [hn] at HO ⊢
   clear hn
   go_wp2_with fail
   go_ret2
   exact ⟨⟨_, rfl, HO.out⟩, HF.out⟩
  have hlt' : (i : Int) < (na : Int) := by omega
  have hia : i < al.length := by rw [HNa.out]; exact hlt
  have hst := join_next (b := bl) hia
  obtain ⟨b, o, rfl, hbb, c0⟩ := HCeA.out i (by rw [HQa.out]; exact hlt)
  obtain ⟨h1, h2⟩ := HRoA.out i (by rw [HQa.out]; exact hlt) hia
  have hx8 := HAll.out _ (List.getElem_mem hia)
  have hPl : (BM.join (al.take i) bl).length + nb ≤ 40 := by
   rw [BG.join_len, List.length_take, Nat.min_eq_left (by omega), HNb.out]
   have h3 : (i + 1) * nb ≤ na * nb := Nat.mul_le_mul_right _ hlt
   have h4 := HD.out
   rw [Nat.add_mul, Nat.one_mul] at h3
   omega
  generalize al[i] = x at *
  obtain ⟨q, hqq⟩ : ∃ q, (qa[i]'(by rw [HQa.out]; exact hlt)) = q := ⟨_, rfl⟩
  rw [hqq] at c0 h1 h2
  clear hqq hia
  obtain ⟨xa, xn, xc⟩ := q
  simp only [Sq.v] at c0 h1 h2
  subst h2
  generalize BM.join (al.take i) bl = P at *
  have HSt := hideP hst
  have HX := hideP h1
  have HPl := hideP hPl
  have HC0 := hideP c0
  have HO := hideP hO
  have HF := hideP hfr
  clear hst h1 hPl c0 hO hfr F4
  obtain ⟨oa, oc, rfl⟩ := HO.out.slice
  obtain ⟨pn, hpn⟩ : ∃ n, P.length = n := ⟨_, rfl⟩
  rw [hpn] at HPl
  go_wp2_with fail
  obtain ⟨w0, rfl⟩ : ∃ x, x = wr := ⟨_, rfl⟩
  go_loopw [7, 9] (fun ov kv W => ∃ k : Nat, kv = .int .i64 k ∧ k ≤ nb ∧ ORR w.heap.size W ov (P ++ (bl.take k).map (x ++ ·)) ∧ Fr w W) (fun _ kv _ => nb - (intOf kv).toNat)
  case atStart => exact ⟨0, rfl, Nat.zero_le _, by rw [List.take_zero, List.map_nil, List.append_nil]; exact HO.out, HF.out⟩
  case round =>
   clear HO HF
   obtain ⟨k, rfl, hk, hO, hfr⟩ := hrel
   have hpk : (P ++ (bl.take k).map (x ++ ·)).length = pn + k := by rw [List.length_append, List.length_map, List.length_take, hpn, HNb.out]; omega
   obtain ⟨oa, oc, rfl⟩ := hO.slice
   rw [hpk]
   by_cases hlk : k < nb
   case neg =>
    obtain rfl : k = nb := by omega
    have hlk' : ¬ ((k : Int) < (k : Int)) := by omega
    have e9 : bl.take k = bl := by rw [← HNb.out]; exact List.take_length
    rw [hpk, e9, ← HSt.out] at hO
    have HO := hideP hO
    have HF := hideP hfr
    clear hO hfr e9 hpk
    go_wp2_with fail
    go_roundw
    case rel => exact ⟨i + 1, by go_num, by omega, HO.out, HF.out⟩
    case measure => simp [intOf]; omega
   have hlk' : (k : Int) < (nb : Int) := by omega
   have hkb : k < bl.length := by rw [HNb.out]; exact hlk
   have hst := map_next (x := x) hkb
   obtain ⟨b2, o2, rfl, hbb2, c2⟩ := HCeB.out k (by rw [HQb.out]; exact hlk)
   obtain ⟨h1, h2⟩ := HRoB.out k (by rw [HQb.out]; exact hlk) hkb
   have hy8 := HBll.out _ (List.getElem_mem hkb)
   generalize bl[k] = y at *
   obtain ⟨q, hqq⟩ : ∃ q, (qb[k]'(by rw [HQb.out]; exact hlk)) = q := ⟨_, rfl⟩
   rw [hqq] at c2 h1 h2
   clear hqq hkb
   obtain ⟨ya, yn, yc⟩ := q
   simp only [Sq.v] at c2 h1 h2
   subst h2
   have hst' : P ++ (bl.take (k + 1)).map (x ++ ·) = (P ++ (bl.take k).map (x ++ ·)) ++ [x ++ y] := by rw [hst, List.append_assoc]
   generalize P ++ (bl.take k).map (x ++ ·) = R at *
   have HSt2 := hideP hst'
   have HY := hideP h1
   have HC2 := hideP c2
   have HO := hideP hO
   have HF := hideP hfr
   have HPk := hideP hpk
   obtain ⟨qs, q1, q2, q3⟩ := hO
   rw [hpk] at q1
   have HQ1 := hideP q1
   have HQ2 := hideP q2
   have HQ3 := hideP q3
   have HPn := hideP HPl.out
   have hpn40 : pn + k + 1 ≤ 40 := by have := HPl.out; omega
   have c0' := (Below.cell hfr (World.block_lt_of_cell? _ _ HC0.out)).trans HC0.out
   have c2' := (Below.cell hfr (World.block_lt_of_cell? _ _ c2)).trans c2
   have hfa : Fr wr (wr.alloc (.cells #[] 56)) := (Fr.refl _).alloc _
   have c0a := (Below.cell hfa (World.block_lt_of_cell? _ _ c0')).trans c0'
   have c2a := (Below.cell hfa (World.block_lt_of_cell? _ _ c2')).trans c2'
   have HFa := hideP (Fr.drew hfa)
   have HL0 := hideP (own_fr (own_empty wr) (Fr.drew (Fr.refl _)))
   have HXr := hideP (HX.out.fr (hfr.trans HFa.out))
   have HYr := hideP (HY.out.fr hfr)
   have HC2r := hideP c2'
   obtain ⟨xl, hxl⟩ : ∃ n, x.length = n := ⟨_, rfl⟩
   obtain ⟨yl, hyl⟩ : ∃ n, y.length = n := ⟨_, rfl⟩
   rw [hxl] at hx8 c0' c0a HXr HX HC0
   rw [hyl] at hy8 c2' c2a HYr HY HC2 HC2r
   have HXl := hideP hxl
   have HYl := hideP hyl
   have hsz : w.heap.size ≤ wr.heap.size := hfr.size
   clear hst hst' h1 c2 hfr hpk q1 q2 q3 hfa hxl hyl
   go_wp2_with fail
   go_region_law (first
    | (refine step_append_L cdV rfl _ _ 31 56 iV _ 32 rfl Tryz.underlying31 hiV hV0 hV1 hV2 rfl wr.heap.size (.slice (some ⟨wr.heap.size, 0, none⟩) 0 0) 0 [] rfl HL0.out (.slice xa xl xc) x rfl HXr.out (by rw [HXl.out]; unfold maxLen; omega) (by rw [HXl.out]; omega) HFa.out.size ?_; intro v2 wB own2 gr2; have hFB : Hid (Fr wr wB) := Below.grown HFa.out gr2 HFa.out.size (own_base HL0.out); have e1 := (Below.cell hFB.out (World.block_lt_of_cell? _ _ HC2r.out)).trans HC2r.out; have HO2 := hideP (show wB.ownsRow wr.heap.size 56 3 v2 xl (flat cdV x) from by have e9 := own2; rw [List.nil_append, Nat.zero_add, HXl.out] at e9; exact e9); clear own2 gr2)
    | (refine step_append_L cdV rfl _ _ 31 56 iV _ 32 rfl Tryz.underlying31 hiV hV0 hV1 hV2 rfl wr.heap.size v2 xl x rfl HO2.out (.slice ya yl yc) y rfl (HYr.out.fr hFB.out) (by rw [HYl.out]; unfold maxLen; omega) (by rw [HYl.out]; omega) hFB.out.size ?_; intro v3 wC own3 gr3; have hFC : Hid (Fr wr wC) := Below.grown hFB.out gr3 hFB.out.size (own_base HO2.out); rw [HYl.out] at own3; obtain ⟨za, zc, rfl⟩ := own_slice own3; have HO3 := hideP own3; have HFD := hideP (hFC.out.alloc (.cells #[.slice za (xl + yl) zc] 31)); have HP1 := hideP (own_fr HQ1.out HFD.out); have HLit := hideP (lit_one cdS wC ⟨za, xl + yl, zc⟩ 31); clear own3 gr3)
    | (refine step_append_L cdS rfl _ _ 22 31 iS _ 24 rfl Tryz.underlying22 hiS hS0 hS1 hS2 rfl w.heap.size (.slice oa (pn + k) oc) (pn + k) qs rfl HP1.out (.slice (some ⟨wC.heap.size, 0, none⟩) 1 1) [⟨za, xl + yl, zc⟩] rfl HLit.out (by unfold maxLen; simp; omega) (by simp; omega) (Nat.le_trans hsz HFD.out.size) ?_; intro v4 wD own4 gr4; have FD := hideP (show Fr w wD from Below.grown (HF.out.trans HFD.out) gr4 (Nat.le_trans hsz HFD.out.size) (own_base HP1.out)); have HO4 := hideP own4; have HG4 := hideP gr4; clear own4 gr4))
   all_goals (
    have hlen : (x ++ y).length = xl + yl := by rw [List.length_append, HXl.out, HYl.out]
    have hsn := ORR.snoc (q := ⟨za, xl + yl, zc⟩) (l := x ++ y) (by rw [HPk.out]; exact HP1.out) HQ2.out (fun j h1 h2 => own_fr (HQ3.out j h1 h2) HFD.out) (by
     rw [hlen]
     exact own_fr (own_low HO3.out hsz) ((Fr.refl _).alloc _)) (by rw [HPk.out]; exact HO4.out) HG4.out
    rw [← HSt2.out] at hsn
    have HSn := hideP hsn
    clear hsn hlen HO4 HG4 HO3 HP1 HLit
    go_wp2_with fail
    go_roundw
    case rel => exact ⟨k + 1, by go_num, by omega, HSn.out, FD.out⟩
    case measure => simp [intOf]; omega)
end Go.Proofs.YtbcfdhimngoplaaGreatDoor
