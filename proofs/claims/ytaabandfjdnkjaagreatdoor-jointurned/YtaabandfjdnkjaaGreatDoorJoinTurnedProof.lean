/-
  Proved: for all two lists of rows JoinTurned answers true: joined the other way round, each row's halves changed about, the same rows are there as often. No condition but the form's own reach.
-/
import Derived.Test.YtaabandfjdnkjaaGreatDoorGqG
import Derived.Test.YtaabandfjdnkjaaGreatDoorGqF
import Derived.Test.YtaabandfjdnkjaaGreatDoorBjB
import Derived.Test.YtaabandfjdnkjaaGreatDoorBnA
namespace Go.Proofs.YtaabandfjdnkjaaGreatDoor.joinTurnedProof
open Go.ChangeShapes Go.WideShapes Go.ChangeAt Go.RowKit
open Go.ChangeMaps (open_string shut_string)
set_option linter.unusedVariables false
set_option linter.unusedSimpArgs false
set_option maxRecDepth 100000
set_option maxHeartbeats 2000000
set_option maxHeartbeats 4000000
theorem rwidth_any (v : Value) (ls : List (List VM.Vl)) (w : World) (h : IsRR w v ls) : Calls Tryz.prog 21 #[v] w fun e w' => e = .returned (.int .i64 ((BG.wd ls : Nat) : Int)) ∧ Fr w w' := by
 obtain ⟨a, c, rfl⟩ := h.slice
 obtain ⟨qs, hq, _, hc, hcell, hrow⟩ := h.at
 by_cases h0 : ls.length = 0
 ·
  have hl : ls = [] := List.length_eq_zero_iff.1 h0
  have hw : BG.wd ls = 0 := by rw [hl]; rfl
  rw [hw, h0]
  clear hcell hrow
  go_enter Tryz.func21, Tryz.ntmps21
  go_wp2_with fail
  go_ret
  exact ⟨rfl, by first | exact Fr.refl _ | exact (Fr.refl _).alloc _⟩
 ·
  obtain ⟨b, o, rfl, hb, c0⟩ := hcell 0 (by omega)
  obtain ⟨h1, h2⟩ := hrow 0 (by omega) (by omega)
  have hw : BG.wd ls = qs[0].n := by
   rw [h2]
   unfold BG.wd
   cases ls with
   | nil => simp at h0
   | cons r t => rfl
  rw [hw]
  rw [Nat.add_zero] at c0
  obtain ⟨qa, hqa⟩ : ∃ qa, qs[0].a = qa := ⟨_, rfl⟩
  obtain ⟨qn, hqn⟩ : ∃ qn, qs[0].n = qn := ⟨_, rfl⟩
  obtain ⟨qc, hqc⟩ : ∃ qc, qs[0].c = qc := ⟨_, rfl⟩
  rw [hqa, hqn, hqc] at c0
  rw [hqn]
  clear hcell hrow h1 h2 hw hqa hqn hqc h
  have hq9 : 0 < ls.length := by omega
  clear h0 hq
  generalize ls.length = n at *
  have q0 : ((n : Int) == 0) = false := beq_false_of_ne (by omega)
  have q1 : ¬ ((n : Int) = 0) := by omega
  have q2 : (0 : Int) < (n : Int) := by omega
  go_enter Tryz.func21, Tryz.ntmps21
  go_wp2_with fail
  go_ret
  exact ⟨rfl, by first | exact Fr.refl _ | exact (Fr.refl _).alloc _⟩
def tn (k : Nat) (r : List VM.Vl) : List VM.Vl := r.drop k ++ r.take k
def mix (k : Nat) (l : List (List VM.Vl)) (i : Nat) : List (List VM.Vl) := (l.take i).map (tn k) ++ l.drop i
theorem mix_len (k : Nat) (l : List (List VM.Vl)) (i : Nat) (h : i ≤ l.length) : (mix k l i).length = l.length := by
 unfold mix
 rw [List.length_append, List.length_map, List.length_take, List.length_drop]; omega
theorem mix_at {k : Nat} {l : List (List VM.Vl)} {i : Nat} (h : i < l.length) : (mix k l i)[i]'(by rw [mix_len k l i (by omega)]; exact h) = l[i] := by
 unfold mix
 rw [List.getElem_append_right (by rw [List.length_map, List.length_take]; omega), List.getElem_drop]
 congr 1
 rw [List.length_map, List.length_take]; omega
theorem mix_step {k : Nat} {l : List (List VM.Vl)} {i : Nat} (h : i < l.length) : (mix k l i).set i (tn k l[i]) = mix k l (i + 1) := by
 have hl : ((l.take i).map (tn k)).length = i := by rw [List.length_map, List.length_take]; omega
 unfold mix
 rw [List.set_append_right _ _ (by omega), hl, Nat.sub_self, List.drop_eq_getElem_cons h, List.set_cons_zero, List.take_succ_eq_append_getElem h, List.map_append, List.append_assoc]
 rfl
theorem mix_zero (k : Nat) (l : List (List VM.Vl)) : mix k l 0 = l := by simp [mix]
theorem mix_all (k : Nat) (l : List (List VM.Vl)) : mix k l l.length = l.map (tn k) := by simp [mix]
theorem own_lit1 (W : World) : (W.alloc (.cells #[] 26)).ownsRow W.heap.size 26 3 (.slice (some ⟨W.heap.size, 0, none⟩) 0 0) 0 (flat cdV []) := own_lit0 cdV W 26 W.heap.size (Nat.le_refl _)
theorem isL_behind {W : World} {a : Option Addr} {n c : Nat} {l : List VM.Vl} (h : IsL cdV W (.slice a n c) l) (k : Nat) (hn : l.length = n) (hk : k ≤ n) : IsL cdV W (.slice (if c = k then a else Option.map (fun x => x.add (k * 3)) a) (n - k) (c - k)) (l.drop k) := by
 obtain ⟨a', cap, e, hc, hh⟩ := h
 cases e
 have hd : (l.drop k).length = l.length - k := List.length_drop
 rcases hh with h0 | ⟨b, o, rfl, hb, hat⟩
 ·
  refine ⟨_, c - k, by rw [hd], by rw [hd]; omega, .inl ?_⟩
  rw [h0]; simp
 ·
  by_cases e : c = k
  ·
   refine ⟨_, c - k, by rw [hd], by rw [hd]; omega, .inl ?_⟩
   exact List.drop_eq_nil_of_le (by omega)
  ·
   rw [if_neg e]
   have := isL_cut (E := cdV) (n := l.length) (c := c) rfl hb hat k (l.length - k) (by omega) hc (some ⟨b, o + k * 3, none⟩) (.inr rfl)
   rw [List.take_of_length_le (by rw [hd]; omega)] at this
   show IsL cdV W (.slice (some ((⟨b, o, none⟩ : Addr).add (k * 3))) (l.length - k) (c - k)) (l.drop k)
   rw [Addr.add_lit]
   exact this
theorem isL_first {W : World} {a : Option Addr} {n c : Nat} {l : List VM.Vl} (h : IsL cdV W (.slice a n c) l) (k : Nat) (hk : k ≤ l.length) : IsL cdV W (.slice a k c) (l.take k) := by
 obtain ⟨a', cap, e, hc, hh⟩ := h
 cases e
 refine ⟨a, c, by rw [List.length_take, Nat.min_eq_left hk], by rw [List.length_take]; omega, ?_⟩
 rcases hh with h0 | ⟨b, o, e, hb, hat⟩
 · left; rw [h0]; simp
 ·
  right
  refine ⟨b, o, e, hb, ?_⟩
  intro j u hj
  refine hat j u ?_
  have hs : flat cdV l = flat cdV (l.take k) ++ flat cdV (l.drop k) := by rw [← flat_app, List.take_append_drop]
  rw [hs, List.getElem?_append_left (List.getElem?_eq_some_iff.1 hj).1]
  exact hj
theorem walk (v0 : Value) (l0 : List (List VM.Vl)) (v1 : Value) (l1 : List (List VM.Vl)) (w : World) (hTt : Tt w) (rw0 : IsRR w v0 l0) (ok0 : ∀ y ∈ l0, y.length * 32 ≤ 140737488351232 ∧ ∀ z ∈ y, EV.gd z ∧ z.s.size ≤ 140737488351232) (b0 : l0.length * 24 ≤ 140737488351232) (rw1 : IsRR w v1 l1) (ok1 : ∀ y ∈ l1, y.length * 32 ≤ 140737488351232 ∧ ∀ z ∈ y, EV.gd z ∧ z.s.size ≤ 140737488351232) (b1 : l1.length * 24 ≤ 140737488351232) :
  Calls Tryz.prog 8 #[v0, v1] w fun e w' => e = .returned (.bool true) ∧ Fr w w' := by
 have HBg := hideP (fun (W : World) (f : Fr w W) => bagBegun_any W (hTt.tn.fr f) (hTt.tb.fr f))
 have HR0 := hideP rw0
 have HR1 := hideP rw1
 have HOk0 := hideP (fun r (hr : r ∈ l0) => show r.length ≤ 9223372036854775806 by have := (ok0 r hr).1; omega)
 have HOk1 := hideP (fun r (hr : r ∈ l1) => show r.length ≤ 9223372036854775806 by have := (ok1 r hr).1; omega)
 have k1 := join_any v0 v1 l0 l1 w rw0 rw1 (by omega) HOk0.out (by omega) HOk1.out
 have k2 := hideP (fun W (f : Fr w W) => join_any v1 v0 l1 l0 W (rw1.fr f) (rw0.fr f) (by omega) HOk1.out (by omega) HOk0.out)
 have HWi := hideP (fun (W : World) (f : Fr w W) => rwidth_any v1 l1 W (rw1.fr f))
 obtain ⟨A0, c0, rfl⟩ := rw0.slice
 obtain ⟨A1, c1, rfl⟩ := rw1.slice
 clear rw0 rw1 ok0 ok1 b0 b1
 rcases jn_both (a := l0) (b := l1) with ⟨c, d, e1, e2⟩ | ⟨e1, e2, h0, h1, h40⟩
 ·
  have g1 := BG.jn_ne e1
  have g2 := BG.jn_ne e2
  rw [e1] at k1
  rw [e2] at k2
  have K1 := hideP k1
  have hc1 : ((c : Int) != 0) = true := by simp; omega
  have hc2 : ((c : Int) == 0) = false := by simp; omega
  have hc3 : ¬ ((c : Int) = 0) := by omega
  have hd1 : ((d : Int) != 0) = true := by simp; omega
  have hd2 : ((d : Int) == 0) = false := by simp; omega
  have hd3 : ¬ ((d : Int) = 0) := by omega
  clear k1 e1 e2 g1 g2
  go_enter Tryz.func8, Tryz.ntmps8
  go_wp2_with fail
  refine K1.out.mono ?_
  rintro _ w1 ⟨rfl, f1⟩
  have F1 := hideP f1
  clear f1 K1
  go_wp2_with fail
  refine (k2.out _ F1.out).mono ?_
  rintro _ w2 ⟨rfl, f2⟩
  have F2 := hideP (F1.out.trans f2)
  clear f2
  go_wp2_with fail
  refine (HBg.out _ F2.out).mono ?_
  rintro _ w3 ⟨rfl, f3⟩
  have F3 := hideP (F2.out.trans f3)
  clear f3
  go_wp2_with fail
  go_ret
  exact ⟨rfl, F3.out⟩
 ·
  have hp := BG.jn_turned (a := l0) h1
  have hjl : (BM.join l1 l0).length = l1.length * l0.length := BG.join_len l1 l0
  have hml : (BM.join l0 l1).length = l0.length * l1.length := BG.join_len l0 l1
  have hrow : ∀ r ∈ BM.join l1 l0, BG.wd l1 ≤ r.length ∧ r.length ≤ 16 := by
   intro r hr
   obtain ⟨x, hx, y, hy, rfl⟩ := BG.join_mem hr
   obtain ⟨q1, _, q2⟩ := (BG.chk_all h1).2 x hx
   obtain ⟨q3, _, _⟩ := (BG.chk_all h0).2 y hy
   rw [List.length_append]
   omega
  have hrm : ∀ r ∈ BM.join l0 l1, r.length ≤ 16 := by
   intro r hr
   obtain ⟨x, hx, y, hy, rfl⟩ := BG.join_mem hr
   obtain ⟨q1, _, q2⟩ := (BG.chk_all h0).2 x hx
   obtain ⟨q3, _, _⟩ := (BG.chk_all h1).2 y hy
   rw [List.length_append]
   omega
  have hab : (l0.length : Int) * (l1.length : Int) = ((l0.length * l1.length : Nat) : Int) := by simp
  rw [e1] at k1
  rw [e2] at k2
  obtain ⟨nl, hnl⟩ : ∃ n, BM.join l1 l0 = n := ⟨_, rfl⟩
  obtain ⟨ml, hml'⟩ : ∃ n, BM.join l0 l1 = n := ⟨_, rfl⟩
  rw [hnl] at k2 hp hjl hrow
  rw [hml'] at k1 hp hml hrm
  obtain ⟨W, hW⟩ : ∃ W, BG.wd l1 = W := ⟨_, rfl⟩
  rw [hW] at HWi hp hrow
  obtain ⟨M, hM⟩ : ∃ M, l0.length * l1.length = M := ⟨_, rfl⟩
  have hM1 : l1.length * l0.length = M := by rw [Nat.mul_comm]; exact hM
  rw [hM] at hml hab h40
  rw [hM1] at hjl
  have K1 := hideP k1
  have HP := hideP hp
  have HJl := hideP hjl
  have HMl := hideP hml
  have HRow := hideP hrow
  have HRm := hideP hrm
  obtain ⟨n0, hn0⟩ : ∃ n, l0.length = n := ⟨_, rfl⟩
  obtain ⟨n1, hn1⟩ : ∃ n, l1.length = n := ⟨_, rfl⟩
  rw [hn0] at K1 k2 HR0 hab ⊢
  rw [hn1] at K1 k2 HR1 HWi hab ⊢
  clear k1 e1 e2 hp hjl hml hrow hrm hnl hml' hW hM hM1 h0 h1 hn0 hn1
  have hwab : IntKind.i64.wrap ((n0 : Int) * (n1 : Int)) = (M : Int) := by rw [hab, IntKind.wrap_i64]; omega
  go_enter Tryz.func8, Tryz.ntmps8
  go_wp2_with fail
  refine K1.out.mono ?_
  rintro _ w1 ⟨⟨u, rfl, hO⟩, f1⟩
  obtain ⟨ma, mc, rfl⟩ := hO.slice
  have F1 := hideP f1
  have hO' := hO.rows
  rw [HMl.out] at hO' ⊢
  have HM := hideP hO'
  clear f1 K1 hO hO'
  go_wp2_with fail
  refine (k2.out _ F1.out).mono ?_
  rintro _ w2 ⟨⟨u, rfl, hO⟩, f2⟩
  obtain ⟨na, nc, rfl⟩ := hO.slice
  rw [HJl.out] at hO ⊢
  have HN := hideP hO
  have F2 := hideP (F1.out.trans f2)
  have HB1 := hideP f2
  clear f2 hO
  go_wp2_with fail
  refine (HBg.out _ F2.out).mono ?_
  rintro _ w3 ⟨rfl, f3⟩
  have F3 := hideP (F2.out.trans f3)
  replace HN := hideP (HN.out.fr f3)
  replace HB1 := hideP (HB1.out.trans f3)
  clear f3
  go_wp2_with fail
  refine (HWi.out _ F3.out).mono ?_
  rintro _ w4 ⟨rfl, f4⟩
  have F4 := hideP (F3.out.trans f4)
  replace HN := hideP (HN.out.fr f4)
  replace HB1 := hideP (HB1.out.trans f4)
  clear f4
  obtain ⟨i0, hi0, hz0, hz1, hz2⟩ := info_parts Tryz.infoV9
  go_wp2_with fail
  go_loopw [10] (fun iv wr => ∃ i : Nat, iv = .int .i64 i ∧ i ≤ M ∧ ORR w1.heap.size wr (.slice na M nc) (mix W nl i) ∧ Fr w1 wr) (fun iv _ => M - (intOf iv).toNat)
  case atStart => exact ⟨0, rfl, Nat.zero_le _, by rw [mix_zero]; exact HN.out, HB1.out⟩
  case round =>
   clear HN HB1
   obtain ⟨i, rfl, hi, hown, hfr⟩ := hrel
   by_cases hlt : i < M
   case neg =>
    obtain rfl : i = M := by omega
    have hall : mix W nl i = nl.map (tn W) := by rw [← HJl.out, mix_all]
    rw [hall] at hown
    have HN2 := hideP hown.rows
    have F5 := hideP (F1.out.trans hfr)
    have HM2 := hideP (HM.out.fr hfr)
    clear hown hfr hall
    go_wp2_with fail
    refine (sameBag_perm _ _ ml (nl.map (tn W)) wr HM2.out HN2.out (fun r => (oft_perm HP.out r).symm) (by rw [List.length_map, HMl.out, HJl.out]) (by rw [HMl.out]; omega) (fun r hr => by have := HRm.out r hr; omega) (fun r hr => by
     obtain ⟨x, hx, rfl⟩ := List.mem_map.1 hr
     have := (HRow.out x hx).2
     unfold tn
     rw [List.length_append, List.length_drop, List.length_take]; omega)).mono ?_
    rintro _ w6 ⟨rfl, f6⟩
    go_wp2_with fail
    go_ret
    exact ⟨rfl, F5.out.trans f6⟩
   have hlt' : (i : Int) < (M : Int) := by omega
   have hin : i < nl.length := by rw [HJl.out]; exact hlt
   have hiM : i < (mix W nl i).length := by rw [mix_len W nl i (by omega)]; exact hin
   obtain ⟨qs, o1, o2, o3⟩ := hown
   have hiq : i < qs.length := by rw [o2]; exact hiM
   have o4 := o3 i hiq hiM
   rw [mix_at hin] at o4
   have hIs := (ORR.rows ⟨qs, o1, o2, o3⟩)
   obtain ⟨qs', hq', hy1, hy2, hcell, hrw'⟩ := hIs.at
   clear hy1 hy2
   have HOw := hideP (show ORR w1.heap.size wr (.slice na M nc) (mix W nl i) from ⟨qs, o1, o2, o3⟩)
   have o1' : wr.ownsRow w1.heap.size 42 1 (.slice na M nc) M (flat cdS qs) := by
    have e : (mix W nl i).length = M := by rw [mix_len W nl i (by omega), HJl.out]
    rw [e] at o1
    exact o1
   obtain ⟨g, cur, rfl, hgB, hgb, _⟩ := own_put (i := i) (u := .slice none 0 0) o1' hlt
   obtain ⟨b', o', e', hb', c0'⟩ := hcell i (by rw [hq']; exact hiM)
   simp only [Option.some.injEq, Addr.mk.injEq, and_true] at e'
   obtain ⟨rfl, rfl⟩ := e'
   rw [Nat.zero_add] at c0'
   obtain ⟨h1, h2⟩ := hrw' i (by rw [hq']; exact hiM) hiM
   have hr1 := (HRow.out _ (List.getElem_mem hin)).1
   have hr2 := (HRow.out _ (List.getElem_mem hin)).2
   have hstp := mix_step (k := W) hin
   simp only [mix_at hin] at h1 h2
   generalize nl[i] = r at *
   obtain ⟨q, hqq⟩ : ∃ q, qs'[i]'(by rw [hq']; exact hiM) = q := ⟨_, rfl⟩
   rw [hqq] at c0' h1 h2
   obtain ⟨ra, rn, rc⟩ := q
   simp only [Sq.v] at c0' h1 h2
   obtain ⟨L, hL⟩ : ∃ L, r.length = L := ⟨_, rfl⟩
   have HL := hideP hL
   rw [hL] at h2 hr1 hr2
   subst h2
   have HIs := hideP h1
   have hcap : (rn : Int) ≤ (rc : Int) := by
    obtain ⟨_, _, e, hc', _⟩ := h1
    simp only [Value.slice.injEq] at e
    obtain ⟨_, e1, e2⟩ := e
    rw [← e2, ← e1] at hc'
    omega
   have hW1 : (W : Int) ≤ (rn : Int) := by omega
   have hW2 : (W : Int) ≤ (rc : Int) := by omega
   have hW0 : (0 : Int) ≤ (W : Int) := by omega
   have HF := hideP hfr
   have HC0 := hideP c0'
   have HSt := hideP hstp
   have hfz := hgb.frozen i
   have HGb := hideP hgb
   have HGB := hideP hgB
   clear o1 o2 o3 o4 hIs hcell hrw' o1' h1 hqq hb' hL hfr hstp hgb hgB
   have hfa : Fr wr (wr.alloc (.cells #[] 26)) := (Fr.refl _).alloc _
   have c0a := (Below.cell hfa (World.block_lt_of_cell? _ _ c0')).trans c0'
   have HFa := hideP hfa
   clear hfa
   have HA1 := hideP (isL_first HIs.out W (by rw [HL.out]; exact hr1))
   have HL0 := hideP (own_fr (own_lit1 wr) (Fr.drew (Fr.refl _)))
   have HDr := hideP ((isL_behind HIs.out W HL.out hr1).fr (Fr.drew HFa.out))
   have HWr := hideP hr1
   have HTk := hideP (show (r.take W).length = W by rw [List.length_take, HL.out]; omega)
   have HDl := hideP (show (r.drop W).length = rn - W by rw [List.length_drop, HL.out])
   go_wp2_with fail
   go_region_law (first
    | (refine step_append_L cdV rfl _ _ 42 26 i0 _ 32 rfl Tryz.underlying42 hi0 hz0 hz1 hz2 rfl wr.heap.size (.slice (some ⟨wr.heap.size, 0, none⟩) 0 0) 0 [] rfl HL0.out (.slice (if rc = W then ra else Option.map (fun x => x.add (W * 3)) ra) (rn - W) (rc - W)) (r.drop W) rfl HDr.out (by rw [HDl.out]; unfold maxLen; omega) (by rw [HDl.out]; omega) (Fr.drew HFa.out).size ?_; intro v2 wB own2 gr2; have hFB : Hid (Fr wr wB) := Below.grown (Fr.drew HFa.out) gr2 (Fr.drew HFa.out).size (own_base HL0.out); have e1 := (Below.cell hFB.out (World.block_lt_of_cell? _ _ HC0.out)).trans HC0.out; have HO2 := hideP (show wB.ownsRow wr.heap.size 26 3 v2 (rn - W) (flat cdV (r.drop W)) from by have e9 := own2; rw [List.nil_append, Nat.zero_add, HDl.out] at e9; exact e9); clear own2 gr2)
    | (refine step_append_L cdV rfl _ _ 42 26 i0 _ 32 rfl Tryz.underlying42 hi0 hz0 hz1 hz2 rfl wr.heap.size v2 (rn - W) (r.drop W) rfl HO2.out (.slice ra W rc) (r.take W) rfl (HA1.out.fr hFB.out) (by rw [HTk.out]; unfold maxLen; omega) (by rw [HTk.out]; omega) hFB.out.size ?_; intro v3 wC own3 gr3; have hFC : Hid (Fr wr wC) := Below.grown hFB.out gr3 hFB.out.size (own_base HO2.out); have e2 := (Below.cell hFC.out (World.block_lt_of_cell? _ _ HC0.out)).trans HC0.out; have e3 := (HGb.out.fr hFC.out).frozen i; rw [HTk.out, Nat.sub_add_cancel HWr.out] at own3; obtain ⟨xa, xc, rfl⟩ := own_slice own3; have HO3 := hideP own3; clear own3 gr3))
   all_goals (
    have hlen : (tn W r).length = rn := by unfold tn; rw [List.length_append, HDl.out, HTk.out]; have := HWr.out; omega
    have hx : wC.ownsRow w1.heap.size 26 3 (Sq.v ⟨xa, rn, xc⟩) (tn W r).length (flat cdV (tn W r)) := by
     rw [hlen]
     exact own_low HO3.out HF.out.size
    obtain ⟨g', e', _, _, _, hput⟩ := ORR.put (HOw.out.fr hFC.out) hiM hx
    simp only [Option.some.injEq, Addr.mk.injEq, and_true] at e'
    subst e'
    rw [HSt.out] at hput
    have HPu := hideP (show ORR w1.heap.size (wC.setCell ⟨g, i, none⟩ (.slice xa rn xc)) (.slice (some ⟨g, 0, none⟩) M nc) (mix W nl (i + 1)) from hput)
    have HFn := hideP (show Fr w1 (wC.setCell ⟨g, i, none⟩ (.slice xa rn xc)) from Below.setCell (HF.out.trans hFC.out) HGB.out _)
    clear hlen hx hput e1 e2 e3 c0' c0a hfz
    go_wp2_with fail
    go_roundw
    case rel => exact ⟨i + 1, by go_num, by omega, HPu.out, HFn.out⟩
    case measure => simp [intOf]; omega)

set_option maxRecDepth 100000 in
theorem lifted (os : Go.Os) (started : os.Started) (H : Type) (enc : TypeId × Value → H) :
  ReturnsInHanded {} Tryz.checked os 8 .any (fun w args => (Rows.joinTurnedSpec.pre enc Tryz.prog Tryz.f8 [] false w args ∧ laidMetH Tryz.prog Rows.joinTurnedRow.laid w) ∧ sizedMet enc Tryz.prog Tryz.f8 (OpenSpec.ofChange Rows.joinTurnedSpec) false w args)
   (Rows.joinTurnedSpec.post enc Tryz.prog Tryz.f8 false true false false) := by
 refine returnsInHanded_of_change_and (C := Tryz.checked) (X := fun w _ => laidMetH Tryz.prog Rows.joinTurnedRow.laid w) (fun _ _ _ hh h => h.of_heap hh) own started (by kernel_rfl) Tryz.func8
  (ChangeSpec.witness_shaped (enc := enc) (C := Tryz.checked) (os := os) (X := fun w _ => laidMetH Tryz.prog Rows.joinTurnedRow.laid w) false (World.laidAll Tryz.prog os Rows.joinTurnedRow.laid) #[.slice none 0 0, .slice none 0 0] 8 (World.laidAll_os _ _ _)
   (World.shaped_of_ZipB (by kernel_rfl) (by kernel_rfl)) (by kernel_rfl) (by kernel_rfl) (by kernel_rfl)
   (by rw [MakeChecks.laidMetH_plain _ _ _ (by kernel_rfl)]; exact laidMet_laidAll _ (by kernel_rfl) (by kernel_rfl))) ?_
 intro W base args ds gs before hval0 hW hcnd hsz0 hL _
 have hT : Tt W := tabs_of_laid hL
 have hval : ∀ (j : Nat) t v, Tryz.f8.params[j]? = some t → args[j]? = some v → Value.okWide Tryz.prog W .any base t v := hval0
 have hsz : (DataW.weightsEach Tryz.prog (Tryz.f8.params.toList ++ Rows.joinTurnedSpec.plain.varTypes Tryz.prog) (ds ++ gs)).all (· ≤ reachBytes) = true := hsz0
 have hW' := hW
 obtain ⟨p, q, hA0, hV, rfl, hfz, hnd⟩ := hW
 have hA : DataW.TrodAll enc Tryz.prog W 0 (fun _ => true) true Tryz.f8.params.toList args.toList ds p := hA0
 rw [Tryz.params8] at hA hval hsz
 obtain ⟨v0, vs0, d0, ds0, p0, q0, hargs, rfl, rfl, h0, r0⟩ := trodAll_cons hA
 obtain ⟨v1, vs1, d1, ds1, p1, q1, rfl, rfl, rfl, h1, r1⟩ := trodAll_cons r0
 obtain ⟨rfl, rfl, rfl⟩ := trodAll_nil r1
 obtain rfl : args = #[v0, v1] := by cases args; simp_all
 obtain ⟨rfl, rfl⟩ := trodVars_none hV
 obtain ⟨l0, rw0, ok0, b0⟩ := open_rws (hval 0 22 v0 rfl rfl) h0 (sized_at hsz (j := 0) rfl rfl)
 obtain ⟨l1, rw1, ok1, b1⟩ := open_rws (hval 1 22 v1 rfl rfl) h1 (sized_at hsz (j := 1) rfl rfl)
 clear hA0 hval0 hsz0
 refine (walk v0 l0 v1 l1 W hT rw0 ok0 b0 rw1 ok1 b1).mono fun e W' ⟨he, bel⟩ => ?_
 subst he
 exact ⟨_, rfl, _, _, _, [], _, [], hW', trodAll_mk1 (shut_bool Tryz.underlying4 _), (trodAll_cons_mk (shut_rws h0 bel) (trodAll_cons_mk (shut_rws h1 bel) trodAll_mk0)), rfl, Below.frame bel _, fun h => by cases h⟩
theorem closed : joinedFacts Tryz.prog 8 Tryz.f8 Rows.joinTurnedSpec Rows.joinTurnedRow = true := by
 unfold joinedFacts
 repeat' (with_reducible refine Bool.and_eq_true_iff.2 ⟨?_, ?_⟩)
 all_goals first
  | with_reducible exact HeadW.mayEnter
  | with_reducible exact laidOut
  | with_reducible exact HeadW.mapsRowed
  | with_reducible exact HeadW.stopsHeard
  | (rw [HeadW.liftsFinal]; as_aux_lemma => kernel_rfl)
  | (rw [HeadW.make]; as_aux_lemma => kernel_rfl)
  | (rw [HeadW.plainKeys]; as_aux_lemma => kernel_rfl)
  | as_aux_lemma => kernel_rfl
theorem over : Rows.joinTurnedRow.holds Tryz.pinned (OpenSpec.ofChange Rows.joinTurnedSpec) :=
 OpenClaim.holds_of_wide 8 Tryz.f8 rfl rfl rfl rfl rfl rfl rfl ⟨rfl, rfl, rfl, rfl, rfl⟩ rfl rfl rfl rfl rfl (by as_aux_lemma => kernel_rfl) Tryz.func8 closed
  (of_decide_eq_true (by as_aux_lemma => kernel_rfl)) (by unfold Func.isWrapper; first | (rw [if_pos (by decide +kernel)]; kernel_rfl) | (rw [if_neg (by decide +kernel)]; exact ⟨rfl, rfl⟩))
  (fun os started H enc _ => lifted os started H enc)
theorem card : Rows.JoinTurnedCardSaid :=
 Claim7.holds_tied_plain_at .later [] [.data, .data, .data, .data, .data, .data, .pinned] true (true, "3d9200482c1a8c9d4c0c2901940aba6e6f6453fca408f5f0e6919f8376bce52c") false
  over (fun _ h => by cases h) (by as_aux_lemma => kernel_rfl) (fun _ h => by cases h) joinTurned_row_tie rfl ⟨rfl, rfl⟩ HeadW.main rfl
  (fun f fn hf hfn => by
   obtain rfl : f = 8 := Option.some.inj ((show Tryz.prog.funcNamed "starling/starlinglaw.JoinTurned" = some 8 by as_aux_lemma => kernel_rfl).symm.trans hf) |>.symm
   obtain rfl : fn = Tryz.f8 := (Option.some.inj (Tryz.func8.symm.trans hfn)).symm
   exact ⟨HeadW.looks.symm, fun j t ht => by
    rw [Tryz.params8] at ht
    have hm : t ∈ [22, 22] := by simpa using Array.mem_of_getElem? ht
    have hall : ([22, 22].all fun u => !Tryz.prog.wantsStandIn u) = true := by as_aux_lemma => kernel_rfl
    exact (show Tryz.prog.wantsStandIn t = false by simpa using List.all_eq_true.1 hall t hm)⟩)
  (by as_aux_lemma => kernel_rfl)
end Go.Proofs.YtaabandfjdnkjaaGreatDoor.joinTurnedProof
namespace Go.Proofs.YtaabandfjdnkjaaGreatDoor
theorem joinTurned_holds : Rows.JoinTurnedCardSaid := joinTurnedProof.card
end Go.Proofs.YtaabandfjdnkjaaGreatDoor
