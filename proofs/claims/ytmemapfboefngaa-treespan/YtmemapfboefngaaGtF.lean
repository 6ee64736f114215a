/-
  What belongs together: TtB, TtC.
-/
import Derived.Test.YtmemapfboefngaaTtA
namespace Go.Proofs.Ytmemapfboefngaa
open Go.ChangeShapes Go.WideShapes Go.ChangeAt Go.RowKit
set_option linter.unusedVariables false
set_option linter.unusedSimpArgs false
set_option maxRecDepth 100000
set_option maxHeartbeats 2000000
def zP : Value := .agg #[.string ⟨#[]⟩, .int .i64 0]
theorem flat_take {α : Type} (E : Cd α) (l : List α) (i : Nat) : (flat E l).take (i * E.k) = flat E (l.take i) := by
  rcases Nat.le_total i l.length with h | h
  · conv => lhs; rw [← List.take_append_drop i l, flat_app]
    exact take_of_app (by rw [flat_len, List.length_take]; congr 1; omega)
  · rw [List.take_of_length_le h, List.take_of_length_le]
    rw [flat_len]; exact Nat.mul_le_mul_right _ h
theorem flat_drop {α : Type} (E : Cd α) (l : List α) (i : Nat) : (flat E l).drop (i * E.k) = flat E (l.drop i) := by
  rcases Nat.le_total i l.length with h | h
  · conv => lhs; rw [← List.take_append_drop i l, flat_app]
    exact List.drop_left' (by rw [flat_len, List.length_take]; congr 1; omega)
  · rw [List.drop_of_length_le h, List.drop_of_length_le]
    · rfl
    · rw [flat_len]; exact Nat.mul_le_mul_right _ h
/-- two splices that make room and fill it -/
theorem splice_ins {α : Type} {X Z vs : List α} {i m : Nat} (hv : vs.length = m) (hZ : Z.length = m + (X.length - i)) (hi : i ≤ X.length) :
    splice (splice (X.take i ++ Z) i vs) (i + m) (X.drop i) = X.take i ++ vs ++ X.drop i := by
  subst hv
  have h1 : (X.take i).length = i := by rw [List.length_take]; omega
  unfold splice
  rw [List.take_left' h1]
  have h2 : (X.take i ++ Z).drop (i + vs.length) = Z.drop vs.length := by
    rw [List.drop_append, h1, List.drop_of_length_le (by omega)]
    simp
  rw [h2, ← List.append_assoc (X.take i) vs, ← List.append_assoc]
  have h3 : (X.take i ++ vs ++ Z.drop vs.length).take (i + vs.length) = X.take i ++ vs := List.take_left' (by rw [List.length_append, h1])
  have h4 : (X.take i ++ vs ++ Z.drop vs.length).drop (i + vs.length + (X.drop i).length) = [] := List.drop_of_length_le (by simp only [List.length_append, h1, List.length_drop, hZ]; omega)
  rw [h3, h4, List.append_nil]
/-- the same in one row that has room -/
theorem splice_shift {α : Type} {X Y vs : List α} {i m : Nat} (hv : vs.length = m) (hY : Y.length = m) (hi : i ≤ X.length) :
    splice (splice (X ++ Y) (i + m) (X.drop i)) i vs = X.take i ++ vs ++ X.drop i := by
  subst hv
  unfold splice
  have e1 : (X ++ Y).drop (i + vs.length + (X.drop i).length) = [] := List.drop_of_length_le (by rw [List.length_append, List.length_drop]; omega)
  rw [e1, List.append_nil]
  have h1 : ((X ++ Y).take (i + vs.length)).length = i + vs.length := by rw [List.length_take, List.length_append]; omega
  rw [List.drop_left' h1]
  have h2 : ((X ++ Y).take (i + vs.length) ++ X.drop i).take i = X.take i := by
    rw [List.take_append_of_le_length (by rw [h1]; omega), List.take_take, Nat.min_eq_left (by omega), List.take_append_of_le_length hi]
  rw [h2, List.append_assoc]
theorem insertP_any (v : Value) (r : List TK.Pr) (i : Nat) (p : TK.Pr) (B gx : Nat) (w : World) (h : w.ownsRow B 38 2 v r.length (flat cdPr r)) (hB : B ≤ w.heap.size) (hi : i ≤ r.length) (hr : r.length ≤ 100)
    (hx : Blk w gx #[.string p.k, .int .i64 p.n] 38) (hne : v.ownBlock ≠ some gx) (ob : Option Nat) (hob : v.ownBlock = ob) :
    Calls Try.prog 38 #[v, .int .i64 (i : Int), .slice (some ⟨gx, 0, none⟩) 1 1] w fun e w' => ∃ v', e = .returned v' ∧ w'.ownsRow B 38 2 v' (r.length + 1) (flat cdPr (r.take i ++ p :: r.drop i)) ∧ w.grownBy w' ob ∧ Lies w ob v' := by
  rw [hob] at hne
  obtain ⟨i0, hi0, hz0, hz1, hz2⟩ := info_parts Try.infoPr
  have hnews : ∀ j u, (flat cdPr [p])[j]? = some u → w.cell? ((⟨gx, 0, none⟩ : Addr).add j) = some u := by
    intro j u hj
    rw [Addr.add_lit, Nat.zero_add]
    refine hx.cell j ?_
    have : flat cdPr [p] = [.string p.k, .int .i64 p.n] := rfl
    rw [this] at hj
    simpa using hj
  have HN := hideP hnews
  clear hnews
  obtain ⟨n, hn⟩ : ∃ n, r.length = n := ⟨_, rfl⟩
  rw [hn] at h hi hr ⊢
  have HLen := hideP hn
  clear hn
  obtain ⟨X, hX⟩ : ∃ X, flat cdPr r = X := ⟨_, rfl⟩
  have HX := hideP hX
  rw [hX] at h
  clear hX
  have HFin := hideP (show flat cdPr (r.take i ++ p :: r.drop i) = X.take (i * 2) ++ flat cdPr [p] ++ X.drop (i * 2) by
    rw [← HX.out, flat_app, ← flat_take cdPr r i, show p :: r.drop i = [p] ++ r.drop i from rfl, flat_app, ← flat_drop cdPr r i, List.append_assoc]
    rfl)
  have HXl := hideP (show X.length = n * 2 by rw [← HX.out, flat_len, HLen.out]; rfl)
  have HX1 := hideP (show ∀ u ∈ X, u.oneCell' = true by rw [← HX.out]; exact flat_one cdPr r)
  have HP1 := hideP (flat_one cdPr [p])
  generalize flat cdPr (r.take i ++ p :: r.drop i) = FIN at HFin ⊢
  clear HX
  by_cases hin : i = n
  · subst hin
    have HO := hideP h
    obtain ⟨va, vc, rfl⟩ := own_slice h
    have HOb := hideP (fun n c => (ownBlock_slice va n c i vc).trans hob)
    clear h hob
    have hmx : (i : Int) + 1 ≤ 101 := by omega
    have hbq : ((i : Int) == (i : Int)) = true := by simp
    go_enter Try.func38, Try.ntmps38
    go_wp2_with (at_builtin; refine wpList_append_O cdPr rfl _ _ 28 38 i0 zP 24 rfl Try.underlying28 hi0 hz0 hz1 hz2 rfl B _ i X rfl HO.out ⟨gx, 0, none⟩ 1 1 [p] rfl rfl HN.out ?c4 ?c5 hB ?_)
    all_goals first
      | (unfold maxLen; omega)
      | omega
      | skip
    all_goals (
      intro v' w1 hown hgrow hlies _
      rw [HOb.out] at hgrow hlies
      have H1 := hideP (show w1.ownsRow B 38 2 v' (i + 1) FIN by
        rw [HFin.out, List.take_of_length_le (by rw [HXl.out]; exact Nat.le_refl _), List.drop_of_length_le (by rw [HXl.out]; exact Nat.le_refl _), List.append_nil]
        exact hown)
      have H2 := hideP hgrow
      have H3 := hideP hlies
      clear hown hgrow hlies
      go_wp2_with fail
      go_ret
      exact ⟨v', rfl, H1.out, H2.out, H3.out⟩)
  have hlt : i < n := by omega
  obtain ⟨va, vc, rfl⟩ := own_slice h
  have HOb := hideP (fun n' c' => (ownBlock_slice va n' c' n vc).trans hob)
  obtain ⟨g, rfl, _, hnc, hcm, hBg, hgs, hsh, hfz⟩ := own_parts h (by omega)
  have hog : some g = ob := hob
  have hnex : g ≠ gx := fun e => hne (by rw [← hog, e])
  have HO := hideP h
  have HOg := hideP hog
  clear h hog hob
  have hc63 : (vc : Int) ≤ 9223372036854775807 := by unfold maxLen at hcm; omega
  by_cases hroom : n + 1 ≤ vc
  · have hsz : ∀ w, (Go.sizeOf 38).run Try.prog w = .ok 2 w := fun w => by simp [sizeOf, typeInfo, hi0, hz1]
    have hov : ∀ lb cb, (callFunc 56 #[.slice (some ⟨gx, 0, none⟩) 1 1, .slice (some ⟨g, (i + 1) * 2, none⟩) lb cb]).run Try.prog w = .ok (.value (.bool false)) w := fun lb cb => by
      rw [run_callFunc_extern Try.func56 (by kernel_rfl) (by kernel_rfl) (by kernel_rfl) (e := Extern.SlicesOverlaps.overlaps #[28, 28] #[4]) (by kernel_rfl),
        Lib.run_overlaps_apart w 28 4 38 Try.underlying28 2 hsz ⟨gx, 0, none⟩ ⟨g, (i + 1) * 2, none⟩ 1 1 lb cb (Ne.symm hnex) 38 38 2 (vc * 2) (by unfold Blk at hx; simp [World.shape?, hx]) hsh (by omega) (hx.frozen 0) (hx.frozen 2)]
      rfl
    obtain ⟨Y, hY, hmore⟩ := own_more HO.out 1 hroom
    have HM := hideP hmore
    have HYl := hideP hY
    have HB := hideP hB
    have HX2 := hideP hx
    have hbq : ((i : Int) == (n : Int)) = false := by simp; omega
    have hrm : ((vc : Int) < (n : Int) + 1) = False := by simp; omega
    have hci : ¬ (vc = i) := by omega
    have hci1 : ¬ (vc = i + 1) := by omega
    have hr1 : (n : Int) + 1 ≤ (vc : Int) := by omega
    have HLi := hideP (show ∀ j u, (X.drop (i * 2))[j]? = some u → w.cell? ((⟨g, i * 2, none⟩ : Addr).add j) = some u from fun j u hj => by
      rw [Addr.add_lit]
      have hh : X[i * 2 + j]? = some u := by rw [List.getElem?_drop] at hj; exact hj
      have := HO.out.cells (g := g) rfl _ u hh
      rw [Addr.add_lit, Nat.zero_add] at this
      exact this)
    have HM2 := hideP (show Nat.min (n + 1 - i) (n + 1 - (i + 1)) = n - i by simp only [Nat.min_def]; split <;> omega)
    have HM1 := hideP (show Nat.min 1 (n + 1 - i) = 1 by simp only [Nat.min_def]; split <;> omega)
    have HL1 := hideP (show (flat cdPr [p]).length = 1 * 2 from rfl)
    have HQ1 := hideP (show i * 2 + (flat cdPr [p]).length ≤ (n + 1) * 2 by rw [HL1.out]; omega)
    have HL2 := hideP (show (X.drop (i * 2)).length = (n - i) * 2 by rw [List.length_drop, HXl.out]; omega)
    have HQ2 := hideP (show (i + 1) * 2 + (X.drop (i * 2)).length ≤ (n + 1) * 2 by rw [HL2.out]; omega)
    have HX3 := hideP (show ∀ u ∈ X.drop (i * 2), u.oneCell' = true from fun u hu => HX1.out u (List.mem_of_mem_drop hu))
    have HR := hideP (show splice (splice (X ++ Y) ((i + 1) * 2) (X.drop (i * 2))) (i * 2) (flat cdPr [p]) = FIN by
      rw [HFin.out, show (i + 1) * 2 = i * 2 + 2 by omega]
      exact splice_shift rfl (by rw [HYl.out]) (by rw [HXl.out]; omega))
    generalize X.drop (i * 2) = Xd at HLi HL2 HQ2 HX3 HR
    generalize X ++ Y = XY at HM HR
    have hw1 : IntKind.i64.wrap ((i : Int) + 1) = (i : Int) + 1 := by rw [IntKind.wrap_i64]; omega
    have hb1 : (0 : Int) ≤ (i : Int) + 1 := by omega
    have hb2 : (i : Int) + 1 ≤ (n : Int) + 1 := by omega
    have hb3 : (i : Int) ≤ (n : Int) := by omega
    have hb4 : (i : Int) ≤ (n : Int) + 1 := by omega
    have ht1 : ((i : Int) + 1).toNat = i + 1 := by omega
    clear hY hmore hB hx hne hsh hfz hsz
    go_enter Try.func38, Try.ntmps38
    go_wp2_with (simp only [hov])
    go_region_law (refine step_copy_O rfl _ _ 28 28 38 i0 2 rfl Try.underlying28 hi0 hz1 B (n + 1) g vc 38 XY HM.out ((i + 1) * 2) (n + 1 - (i + 1)) (vc - (i + 1)) ⟨g, i * 2, none⟩ (n + 1 - i) (vc - i) (n - i) (by simp [Act.eval, Act.put]) (by simp [Act.eval, Act.put]) HM2.out Xd HL2.out HLi.out HQ2.out HX3.out ?_; intro w1 hown1 hg1)
    have HO1 := hideP hown1
    have HG1 := hideP (show w.grownBy w1 (some g) from Grown.drew hg1)
    have HN1 := hideP (show ∀ j u, (flat cdPr [p])[j]? = some u → w1.cell? ((⟨gx, 0, none⟩ : Addr).add j) = some u from fun j u hj => by
      rw [Addr.add_lit]
      have := HN.out j u hj
      rw [Addr.add_lit] at this
      exact HG1.out.cell this (by simp; exact Ne.symm hnex))
    clear hown1 hg1
    go_wp2_with (refine wpList_copy_O rfl (.tmp 80) (.tmp 81) 28 28 38 i0 2 rfl Try.underlying28 hi0 hz1 B (n + 1) g vc 38 _ HO1.out (i * 2) (n + 1 - i) (vc - i) ⟨gx, 0, none⟩ 1 1 1 rfl rfl HM1.out (flat cdPr [p]) HL1.out HN1.out HQ1.out HP1.out ?_)
    intro w2 hown2 hg2
    have HO2 := hideP hown2
    have HG2 := hideP (Grown.trans HG1.out hg2)
    clear hown2 hg2
    go_wp2_with fail
    go_ret
    exact ⟨_, rfl, by rw [← HR.out]; exact HO2.out, by rw [← HOg.out]; exact HG2.out, .inl (by rw [← HOg.out]; rfl)⟩
  · have HB := hideP hB
    have HX2 := hideP hx
    have hbq : ((i : Int) == (n : Int)) = false := by simp; omega
    have hrm : (vc : Int) < (n : Int) + 1 := by omega
    have hkk : (n : Int) + 1 - (i : Int) = ((n + 1 - i : Nat) : Int) := by omega
    have hci : ¬ (vc = i) := by omega
    clear hB hx hne hsh hfz
    go_enter Try.func38, Try.ntmps38
    go_wp2_with (at_builtin; refine wpList_zeros_O rfl _ _ 28 38 3 i0 zP 2 24 .i64 .i64 rfl Try.underlying28 Try.underlying3 hi0 hz0 hz1 hz2 rfl (by decide) B n g vc X HO.out i (n + 1 - i) (n + 1) (by omega) rfl rfl hi (by omega) (by omega) (by unfold maxLen; omega) (by omega) ?_)
    intro G w1 Z hown hZ hG hfr
    have HO1 := hideP hown
    have HF1 := hideP hfr
    have HN1 := hideP (show ∀ j u, (flat cdPr [p])[j]? = some u → w1.cell? ((⟨gx, 0, none⟩ : Addr).add j) = some u from fun j u hj => by
      rw [Addr.add_lit]
      have := HN.out j u hj
      rw [Addr.add_lit] at this
      exact (Below.cell hfr HX2.out.lt).trans this)
    have HZ := hideP hZ
    have hGi : ¬ (G = i) := by omega
    have hGi1 : ¬ (G = i + 1) := by omega
    clear hown hfr hZ
    have hl1 : (flat cdPr [p]).length = 1 * 2 := rfl
    have hm1 : Nat.min 1 (n + 1 - i) = 1 := by simp only [Nat.min_def]; split <;> omega
    have hf1 : i * 2 + (flat cdPr [p]).length ≤ (n + 1) * 2 := by rw [hl1]; omega
    have HL1 := hideP hl1
    have HM1 := hideP hm1
    have HQ1 := hideP hf1
    clear hl1 hm1 hf1
    go_wp2_with (refine wpList_copy_O rfl (.tmp 43) (.tmp 44) 28 28 38 i0 2 rfl Try.underlying28 hi0 hz1 w.heap.size (n + 1) w.heap.size G 38 (X.take (i * 2) ++ Z) HO1.out (i * 2) (n + 1 - i) (G - i) ⟨gx, 0, none⟩ 1 1 1 rfl rfl HM1.out (flat cdPr [p]) HL1.out HN1.out HQ1.out HP1.out ?_)
    intro w2 hown2 hg2
    have HO2 := hideP hown2
    have HF2 := hideP (Grown.new HF1.out hg2 (Nat.le_refl _))
    clear hown2 hg2
    have HS2 := hideP (show ∀ j u, (X.drop (i * 2))[j]? = some u → w2.cell? ((⟨g, i * 2, none⟩ : Addr).add j) = some u from fun j u hj => by
      rw [Addr.add_lit]
      have hh : X[i * 2 + j]? = some u := by rw [List.getElem?_drop] at hj; exact hj
      have := HO.out.cells (g := g) rfl _ u hh
      rw [Addr.add_lit, Nat.zero_add] at this
      exact (Below.cell HF2.out hgs).trans this)
    have HM2 := hideP (show Nat.min (n - i) (n + 1 - (i + 1)) = n - i by simp only [Nat.min_def]; split <;> omega)
    have HL2 := hideP (show (X.drop (i * 2)).length = (n - i) * 2 by rw [List.length_drop, HXl.out]; omega)
    have HQ2 := hideP (show (i + 1) * 2 + (X.drop (i * 2)).length ≤ (n + 1) * 2 by rw [HL2.out]; omega)
    have HX3 := hideP (show ∀ u ∈ X.drop (i * 2), u.oneCell' = true from fun u hu => HX1.out u (List.mem_of_mem_drop hu))
    have HR := hideP (show splice (splice (X.take (i * 2) ++ Z) (i * 2) (flat cdPr [p])) ((i + 1) * 2) (X.drop (i * 2)) = FIN by
      rw [HFin.out, show (i + 1) * 2 = i * 2 + 2 by omega]
      exact splice_ins rfl (by rw [HZ.out, HXl.out]; omega) (by rw [HXl.out]; omega))
    have hw1 : IntKind.i64.wrap ((i : Int) + 1) = (i : Int) + 1 := by rw [IntKind.wrap_i64]; omega
    have hb1 : (0 : Int) ≤ (i : Int) + 1 := by omega
    have hb2 : (i : Int) + 1 ≤ (n : Int) + 1 := by omega
    have hb3 : (i : Int) ≤ (n : Int) := by omega
    have ht1 : ((i : Int) + 1).toNat = i + 1 := by omega
    clear HO1 HN1
    generalize splice (X.take (i * 2) ++ Z) (i * 2) (flat cdPr [p]) = Y2 at HO2 HR
    generalize X.drop (i * 2) = Xd at HS2 HL2 HQ2 HX3 HR
    go_wp2_with fail
    go_region_law (refine step_copy_O rfl _ _ 28 28 38 i0 2 rfl Try.underlying28 hi0 hz1 w.heap.size (n + 1) w.heap.size G 38 Y2 HO2.out ((i + 1) * 2) (n + 1 - (i + 1)) (G - (i + 1)) ⟨g, i * 2, none⟩ (n - i) (vc - i) (n - i) (by simp [Act.eval, Act.put]) (by simp [Act.eval, Act.put]) HM2.out Xd HL2.out HS2.out HQ2.out HX3.out ?_; intro w3 hown3 hg3)
    have HO3 := hideP hown3
    have HF3 := hideP (Grown.new (Fr.drew HF2.out) hg3 (Nat.le_refl _))
    clear hown3 hg3
    go_wp2_with fail
    go_ret
    exact ⟨_, rfl, own_low (by rw [← HR.out]; exact HO3.out) HB.out, Grown.fr HF3.out, .inr ⟨_, rfl, Nat.le_refl _⟩⟩
end Go.Proofs.Ytmemapfboefngaa
namespace Go.Proofs.Ytmemapfboefngaa
open Go.ChangeShapes Go.WideShapes Go.ChangeAt Go.RowKit
set_option linter.unusedVariables false
set_option linter.unusedSimpArgs false
set_option maxRecDepth 100000
set_option maxHeartbeats 2000000
theorem deleteP_any (v : Value) (r : List TK.Pr) (i : Nat) (B : Nat) (w : World) (h : w.ownsRow B 38 2 v r.length (flat cdPr r)) (hB : B ≤ w.heap.size) (hi : i < r.length) (hr : r.length ≤ 100) (ob : Option Nat) (hob : v.ownBlock = ob) :
    Calls Try.prog 44 #[v, .int .i64 (i : Int), .int .i64 ((i : Int) + 1)] w fun e w' => ∃ v', e = .returned v' ∧ w'.ownsRow B 38 2 v' (r.length - 1) (flat cdPr (r.take i ++ r.drop (i + 1))) ∧ w.grownBy w' ob ∧ Lies w ob v' := by
  obtain ⟨i0, hi0, hz0, hz1, hz2⟩ := info_parts Try.infoPr
  obtain ⟨n, hn⟩ : ∃ n, r.length = n := ⟨_, rfl⟩
  rw [hn] at h hi hr ⊢
  have HLen := hideP hn
  clear hn
  obtain ⟨va, vc, rfl⟩ := own_slice h
  obtain ⟨g, rfl, _, hnc, hcm, hBg, hgs, hsh, hfz⟩ := own_parts h (by omega)
  have HOb := hideP (show some g = ob from hob)
  have HO := hideP h
  have HC := hideP (own_cut h i (by omega))
  have hc63 : (vc : Int) ≤ 9223372036854775807 := by unfold maxLen at hcm; omega
  have HB := hideP hB
  obtain ⟨l, hl⟩ : ∃ l, r.drop (i + 1) = l := ⟨_, rfl⟩
  have hll : l.length = n - (i + 1) := by rw [← hl, List.length_drop, HLen.out]
  have HFin := hideP (show flat cdPr (r.take i ++ r.drop (i + 1)) = (flat cdPr r).take (i * 2) ++ flat cdPr l by rw [hl, flat_app, ← flat_take cdPr r i]; rfl)
  obtain ⟨A, hA, hsrc⟩ : ∃ A : Addr, (if vc = i + 1 then (some (⟨g, 0, none⟩ : Addr)) else some ⟨g, (i + 1) * 2, none⟩) = some A ∧ Hid (∀ t u, (flat cdPr l)[t]? = some u → w.drew.cell? (A.add t) = some u) := by
    by_cases hc : vc = i + 1
    · refine ⟨⟨g, 0, none⟩, by rw [if_pos hc], fun t u hu => ?_⟩
      have : l = [] := List.length_eq_zero_iff.1 (by omega)
      rw [this] at hu
      simp [flat] at hu
    · refine ⟨⟨g, (i + 1) * 2, none⟩, by rw [if_neg hc], fun t u hu => ?_⟩
      rw [Addr.add_lit]
      have e : flat cdPr l = (flat cdPr r).drop ((i + 1) * 2) := by rw [← hl]; exact (flat_drop cdPr r (i + 1)).symm
      rw [e, List.getElem?_drop] at hu
      have := HO.out.cells (g := g) rfl _ u hu
      rw [Addr.add_lit, Nat.zero_add] at this
      exact this
  have HLL := hideP hll
  generalize flat cdPr (r.take i ++ r.drop (i + 1)) = FIN at HFin ⊢
  generalize (flat cdPr r).take (i * 2) = X1 at HC HFin
  have hw1 : IntKind.i64.wrap ((i : Int) + 1) = (i : Int) + 1 := by rw [IntKind.wrap_i64]; omega
  have hb1 : (0 : Int) ≤ (i : Int) + 1 := by omega
  have hb2 : (i : Int) + 1 ≤ (n : Int) := by omega
  have hb3 : (i : Int) ≤ (i : Int) + 1 := by omega
  have hb7 : i ≤ vc := by omega
  have hb8 : i + 1 ≤ vc := by omega
  have hb5 : (i : Int) ≤ (n : Int) := by omega
  have hb6 : (n : Int) ≤ (vc : Int) := by omega
  have ht1 : ((i : Int) + 1).toNat = i + 1 := by omega
  have hbq : ((i : Int) == (i : Int) + 1) = false := by simp; omega
  have HS1 := hideP (show i + (n - (i + 1)) = n - 1 by omega)
  have hz : ∀ w, (zeroValue 38).run Try.prog w = .ok zP w := fun w => by simp [zeroValue, typeInfo, hi0, hz0, zP]
  have HZ := hideP hz
  clear hsh hfz hB h hob hl hll hz
  go_enter Try.func44, Try.ntmps44
  go_wp2_with fail
  go_region_law (refine step_append_O cdPr rfl _ _ 28 38 i0 zP 24 rfl Try.underlying28 hi0 hz0 hz1 hz2 rfl B _ i X1 (by simp [Act.eval, Act.put]) HC.out A (n - (i + 1)) (vc - (i + 1)) l (by simp [Act.eval, Act.put, hA]) HLL.out.symm hsrc.out (by unfold maxLen; omega) (by omega) HB.out ?_; intro v1 w1 hown1 hg1 hl1 hp1; rw [HS1.out] at hown1 hp1; obtain rfl := hp1 g vc rfl (by omega))
  have HO1 := hideP (show w1.ownsRow B 38 2 (.slice (some ⟨g, 0, none⟩) (n - 1) vc) (n - 1) FIN by rw [HFin.out]; exact hown1)
  have HG1 := hideP (show w.grownBy w1 (some g) from Grown.drew hg1)
  have hc1 : ¬ (vc = n - 1) := by omega
  have hi1 : ((n - 1 : Nat) : Int) ≤ (n : Int) := by omega
  have he1 : n - (n - 1) = 1 := by omega
  clear hown1 hg1 hl1 hp1
  go_wp2_with (refine wpList_clear_O rfl (.tmp 31) 28 38 zP 2 rfl Try.underlying28 HZ.out (by decide) (by decide) rfl B (n - 1) g vc 38 FIN HO1.out ((n - 1) * 2) 1 (vc - (n - 1)) rfl rfl (by decide) (by omega) ?_)
  intro w2 hown2 hg2
  have HO2 := hideP hown2
  have HG2 := hideP (Grown.trans HG1.out hg2)
  clear hown2 hg2
  go_wp2_with fail
  go_ret
  exact ⟨_, rfl, HO2.out, by rw [← HOb.out]; exact HG2.out, .inl (by rw [← HOb.out]; rfl)⟩
end Go.Proofs.Ytmemapfboefngaa
