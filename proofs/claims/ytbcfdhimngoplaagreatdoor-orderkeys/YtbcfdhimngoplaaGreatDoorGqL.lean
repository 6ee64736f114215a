/-
  What belongs together: BoA, BoB, BoC, BoD, BoE, BoF, BoG.
-/
import Derived.Test.YtbcfdhimngoplaaGreatDoorGqC
import Derived.Test.YtbcfdhimngoplaaGreatDoorGqD
set_option linter.unusedVariables false
set_option linter.unusedSimpArgs false
namespace Go.Proofs.YtbcfdhimngoplaaGreatDoor
namespace BO
variable {α : Type} {lt : α → α → Bool}
theorem nlt_trans (h : Weak lt) {a b c : α} (h1 : lt b a = false) (h2 : lt c b = false) : lt c a = false := by
 cases g : lt c a with
 | false => rfl
 | true =>
  rcases h.neg c b a g with x | x
  · rw [h2] at x; cases x
  · rw [h1] at x; cases x
theorem lt_le (h : Weak lt) {a b c : α} (h1 : lt a b = true) (h2 : lt c b = false) : lt a c = true := by
 rcases h.neg a c b h1 with x | x
 · exact x
 · rw [h2] at x; cases x
theorem le_lt (h : Weak lt) {a b c : α} (h1 : lt b a = false) (h2 : lt b c = true) : lt a c = true := by
 rcases h.neg b a c h2 with x | x
 · rw [h1] at x; cases x
 · exact x
theorem sort_id (h : Weak lt) {l : List α} (hs : Sorted lt l) : sort lt l = l := (sort_eq h ⟨hs, fun _ => rfl⟩).symm
theorem sorted_at (h : Weak lt) {l : List α} (hs : Sorted lt l) {i j : Nat} (hij : i ≤ j) (hj : j < l.length) : lt l[j] (l[i]'(Nat.lt_of_le_of_lt hij hj)) = false := by
 rcases Nat.lt_or_eq_of_le hij with hlt | rfl
 · exact List.pairwise_iff_getElem.1 hs i j (by omega) hj hlt
 · exact h.irrefl _
theorem merge_split (h : Weak lt) {X1 X2 Y1 Y2 : List α} (h1 : ∀ p ∈ X1 ++ Y1, ∀ q ∈ X2 ++ Y2, lt q p = false) (h2 : ∀ y ∈ Y1, ∀ x ∈ X2, lt y x = true) :
  sort lt (X1 ++ X2 ++ (Y1 ++ Y2)) = sort lt (X1 ++ Y1) ++ sort lt (X2 ++ Y2) := by
 refine (sort_eq h ⟨?_, fun z => ?_⟩).symm
 ·
  refine List.pairwise_append.2 ⟨(sort_of h _).sorted, (sort_of h _).sorted, fun p hp q hq => ?_⟩
  exact h1 p ((sort_perm _).mem_iff.1 hp) q ((sort_perm _).mem_iff.1 hq)
 ·
  rw [List.filter_append, (sort_of h _).same, (sort_of h _).same]
  simp only [List.filter_append]
  by_cases e : Y1.filter (eqv lt z) = []
  · rw [e]; simp
  ·
   have e2 : X2.filter (eqv lt z) = [] := by
    rw [List.filter_eq_nil_iff]
    intro x hx hz
    obtain ⟨y, hy⟩ := List.exists_mem_of_ne_nil _ e
    obtain ⟨hy1, hy2⟩ := List.mem_filter.1 hy
    have := eqv_trans h (eqv_symm hy2) hz
    rw [eqv_iff, h2 y hy1 x hx] at this
    cases this.1
   rw [e2]; simp
theorem merge_cut (h : Weak lt) {X Y : List α} (hX : Sorted lt X) (hY : Sorted lt Y) {s t : Nat} (hs : s ≤ X.length) (ht : t ≤ Y.length)
  (c1 : ∀ (h1 : 0 < s) (h2 : t < Y.length), lt Y[t] (X[s - 1]'(by omega)) = false) (c2 : ∀ (h1 : s < X.length) (h2 : 0 < t), lt (Y[t - 1]'(by omega)) X[s] = true) :
  sort lt (X ++ Y) = sort lt (X.take s ++ Y.take t) ++ sort lt (X.drop s ++ Y.drop t) := by
 have h2 : ∀ y ∈ Y.take t, ∀ x ∈ X.drop s, lt y x = true := by
  intro y hy x hx
  obtain ⟨i, hi, rfl⟩ := List.mem_iff_getElem.1 hy
  obtain ⟨j, hj, rfl⟩ := List.mem_iff_getElem.1 hx
  rw [List.length_take] at hi
  rw [List.length_drop] at hj
  rw [List.getElem_take, List.getElem_drop]
  refine lt_le h (le_lt h (b := Y[t - 1]'(by omega)) ?_ (c2 (by omega) (by omega))) ?_
  · exact sorted_at h hY (by omega) (by omega)
  · exact sorted_at h hX (by omega) (by omega)
 have e := merge_split h (X1 := X.take s) (X2 := X.drop s) (Y1 := Y.take t) (Y2 := Y.drop t) ?_ h2
 ·
  rw [List.take_append_drop, List.take_append_drop] at e
  exact e
 ·
  intro p hp q hq
  rcases List.mem_append.1 hp with hp | hp
  ·
   obtain ⟨i, hi, rfl⟩ := List.mem_iff_getElem.1 hp
   rw [List.length_take] at hi
   rw [List.getElem_take]
   rcases List.mem_append.1 hq with hq | hq
   ·
    obtain ⟨j, hj, rfl⟩ := List.mem_iff_getElem.1 hq
    rw [List.length_drop] at hj
    rw [List.getElem_drop]
    exact sorted_at h hX (by omega) (by omega)
   ·
    obtain ⟨j, hj, rfl⟩ := List.mem_iff_getElem.1 hq
    rw [List.length_drop] at hj
    rw [List.getElem_drop]
    refine nlt_trans h (b := X[s - 1]'(by omega)) (sorted_at h hX (by omega) (by omega)) (nlt_trans h (b := Y[t]'(by omega)) (c1 (by omega) (by omega)) ?_)
    exact sorted_at h hY (by omega) (by omega)
  ·
   rcases List.mem_append.1 hq with hq | hq
   · exact h.asym _ _ (h2 p hp q hq)
   ·
    obtain ⟨i, hi, rfl⟩ := List.mem_iff_getElem.1 hp
    obtain ⟨j, hj, rfl⟩ := List.mem_iff_getElem.1 hq
    rw [List.length_take] at hi
    rw [List.length_drop] at hj
    rw [List.getElem_take, List.getElem_drop]
    exact sorted_at h hY (by omega) (by omega)
theorem merge_first (h : Weak lt) {x : α} {Y : List α} (hY : Sorted lt Y) {t : Nat} (ht : t ≤ Y.length)
  (c1 : ∀ (h2 : t < Y.length), lt Y[t] x = false) (c2 : ∀ (h2 : 0 < t), lt (Y[t - 1]'(by omega)) x = true) :
  sort lt ([x] ++ Y) = Y.take t ++ x :: Y.drop t := by
 have e := merge_cut h (X := [x]) (Y := Y) (s := 0) (t := t) (List.pairwise_singleton ..) hY (by simp) ht (fun h1 => absurd h1 (by omega)) (fun _ h2 => c2 h2)
 rw [e, List.take_zero, List.nil_append, sort_id h (List.Pairwise.sublist (List.take_sublist _ _) hY)]
 congr 1
 have e0 : [x].drop 0 ++ Y.drop t = x :: Y.drop t := rfl
 rw [e0]
 refine sort_id h (List.pairwise_cons.2 ⟨fun y hy => ?_, List.Pairwise.sublist (List.drop_sublist _ _) hY⟩)
 obtain ⟨j, hj, rfl⟩ := List.mem_iff_getElem.1 hy
 rw [List.length_drop] at hj
 rw [List.getElem_drop]
 exact nlt_trans h (c1 (by omega)) (sorted_at h hY (by omega) (by omega))
theorem merge_last (h : Weak lt) {y : α} {X : List α} (hX : Sorted lt X) {s : Nat} (hs : s ≤ X.length)
  (c1 : ∀ (h1 : 0 < s), lt y (X[s - 1]'(by omega)) = false) (c2 : ∀ (h1 : s < X.length), lt y X[s] = true) :
  sort lt (X ++ [y]) = X.take s ++ y :: X.drop s := by
 have e := merge_cut h (X := X) (Y := [y]) (s := s) (t := 1) hX (List.pairwise_singleton ..) hs (by simp) (fun _ h2 => absurd h2 (by simp)) (fun h1 _ => c2 h1)
 have e1 : [y].take 1 = [y] := rfl
 have e2 : [y].drop 1 = ([] : List α) := rfl
 rw [e, e1, e2, List.append_nil, sort_id h (List.Pairwise.sublist (List.drop_sublist _ _) hX)]
 have e3 : sort lt (X.take s ++ [y]) = X.take s ++ [y] := by
  refine sort_id h (List.pairwise_append.2 ⟨List.Pairwise.sublist (List.take_sublist _ _) hX, List.pairwise_singleton _ _, fun x hx z hz => ?_⟩)
  obtain rfl : z = y := by simpa using hz
  obtain ⟨i, hi, rfl⟩ := List.mem_iff_getElem.1 hx
  rw [List.length_take] at hi
  rw [List.getElem_take]
  exact nlt_trans h (b := X[s - 1]'(by omega)) (sorted_at h hX (by omega) (by omega)) (c1 (by omega))
 rw [e3]
 simp
end BO
end Go.Proofs.YtbcfdhimngoplaaGreatDoor
namespace Go.Proofs.YtbcfdhimngoplaaGreatDoor
open Go.ChangeShapes Go.WideShapes Go.ChangeAt Go.RowKit
set_option linter.unusedVariables false
set_option linter.unusedSimpArgs false
set_option maxRecDepth 100000
set_option maxHeartbeats 2000000
theorem own_set {W : World} {B G j : Nat} {p : Pr} {u : Value} {arr : Array Value} (hb : Blk W G arr 31) (ho : W.ownsRow B 56 3 p.1.v p.2.length (flat cdV p.2)) : (W.setCell ⟨G, j, none⟩ u).ownsRow B 56 3 p.1.v p.2.length (flat cdV p.2) :=
 own_keep ho fun k cur hk hkc => by
  have hne : G ≠ k := by
   rintro rfl
   unfold Blk at hb
   rw [hb] at hkc
   simp only [Option.some.injEq, Obj.cells.injEq] at hkc
   exact absurd hkc.2.1 (by decide)
  simp only [World.setCell, Array.getElem?_modify, if_neg hne]
theorem SR.exch {w : World} {B G : Nat} {a m b : List Pr} {x y : Pr} (h : SR w B G ((a ++ x :: m) ++ y :: b)) :
  SR ((w.setCell ⟨G, a.length, none⟩ (.slice y.1.a y.1.n y.1.c)).setCell ⟨G, a.length + 1 + m.length, none⟩ (.slice x.1.a x.1.n x.1.c)) B G ((a ++ y :: m) ++ x :: b) := by
 refine ⟨?_, fun p hp => ?_⟩
 ·
  have hb := (h.b.set a.length (.slice y.1.a y.1.n y.1.c)).set (a.length + 1 + m.length) (.slice x.1.a x.1.n x.1.c)
  have e : (((((a ++ x :: m) ++ y :: b).map prV).toArray.setIfInBounds a.length (.slice y.1.a y.1.n y.1.c)).setIfInBounds (a.length + 1 + m.length) (.slice x.1.a x.1.n x.1.c)) = (((a ++ y :: m) ++ x :: b).map prV).toArray := by
   apply Array.toList_inj.1
   simp only [Array.toList_setIfInBounds, List.map_append, List.map_cons]
   have e0 : ((a.map prV ++ prV x :: m.map prV) ++ prV y :: b.map prV).set a.length (.slice y.1.a y.1.n y.1.c) = (a.map prV ++ prV y :: m.map prV) ++ prV y :: b.map prV := by
    rw [List.set_append_left _ _ (by simp only [List.length_append, List.length_cons, List.length_map]; omega), List.set_append_right _ _ (by simp)]
    simp [prV]
   have e3 : ((a.map prV ++ prV y :: m.map prV) ++ prV y :: b.map prV).set (a.length + 1 + m.length) (.slice x.1.a x.1.n x.1.c) = (a.map prV ++ prV y :: m.map prV) ++ prV x :: b.map prV := by
    rw [List.set_append_right _ _ (by simp only [List.length_append, List.length_cons, List.length_map]; omega)]
    have e2 : a.length + 1 + m.length - (a.map prV ++ prV y :: m.map prV).length = 0 := by simp only [List.length_append, List.length_cons, List.length_map]; omega
    rw [e2, List.set_cons_zero]
    rfl
   rw [e0, e3]
  rw [e] at hb
  exact hb
 ·
  have hm : p ∈ (a ++ x :: m) ++ y :: b := by
   simp only [List.mem_append, List.mem_cons] at hp ⊢
   rcases hp with (h | h | h) | h | h
   · exact .inl (.inl h)
   · exact .inr (.inl h)
   · exact .inl (.inr (.inr h))
   · exact .inl (.inr (.inl h))
   · exact .inr (.inr h)
  exact own_set (h.b.set _ _) (own_set h.b (h.own p hm))
theorem SR.cell2 {w : World} {B G : Nat} {a m b : List Pr} {x y : Pr} (h : SR w B G ((a ++ x :: m) ++ y :: b)) : w.cell? ⟨G, a.length, none⟩ = some (.slice x.1.a x.1.n x.1.c) ∧ w.cell? ⟨G, a.length + 1 + m.length, none⟩ = some (.slice y.1.a y.1.n y.1.c) := by
 refine ⟨SR.cell (b := m ++ y :: b) (by simpa using h), ?_⟩
 have := h.cell
 simp only [List.length_append, List.length_cons] at this
 rw [show a.length + 1 + m.length = a.length + (m.length + 1) by omega]
 exact this
theorem swapRange_any (kv : Value) (B G : Nat) (P A M C Q : List Pr) (w : World) (h : SR w B G (P ++ A ++ M ++ C ++ Q)) (hk : ∃ a n c, kv = .slice a n c) (n : Nat) (hn : n = (P ++ A ++ M ++ C ++ Q).length) (hn1 : n ≤ 1000) (hAC : A.length = C.length) (ai bi k : Nat) (ha : ai = P.length) (hb : bi = P.length + A.length + M.length) (hkl : k = A.length) :
  Calls Tryz.prog 102 #[.slice (some ⟨G, 0, none⟩) n n, .int .i64 (ai : Int), .int .i64 (bi : Int), .int .i64 (k : Int), .func (.func 29) #[kv] #[]] w fun e w' => e = .returned (.tuple #[]) ∧ SR w' B G (P ++ C ++ M ++ A ++ Q) ∧ w.grownBy w' (some G) := by
 obtain ⟨ka, kn, kc, rfl⟩ := hk
 have H0 := hideP h
 have hN : P.length + A.length + M.length + C.length + Q.length = n := by rw [hn]; simp only [List.length_append]
 have HN := hideP hN
 have HA := hideP ha
 have HB := hideP hb
 have HKl := hideP hkl
 have HAC := hideP hAC
 have hb1 : bi + k ≤ n := by omega
 have ha1 : ai + k ≤ bi := by omega
 clear h hn hN ha hb hkl hAC
 go_enter Tryz.func102, Tryz.ntmps102
 go_wp2_with fail
 go_loopw [10] (fun iv wr => ∃ i : Nat, iv = .int .i64 (i : Int) ∧ i ≤ k ∧ SR wr B G (P ++ (C.take i ++ A.drop i) ++ M ++ (A.take i ++ C.drop i) ++ Q) ∧ w.grownBy wr (some G)) (fun iv _ => k - (intOf iv).toNat)
 case atStart => exact ⟨0, rfl, Nat.zero_le _, by simpa using H0.out, grown_same _ _⟩
 case round =>
  obtain ⟨i, rfl, hi, hs, hg⟩ := hrel
  by_cases hlt : i < k
  case neg =>
   have hlt' : ¬ ((i : Int) < (k : Int)) := by omega
   have e1 : A.drop i = [] := List.drop_eq_nil_of_le (by have := HKl.out; omega)
   have e2 : C.drop i = [] := List.drop_eq_nil_of_le (by have := HKl.out; have := HAC.out; omega)
   have e3 : A.take i = A := List.take_of_length_le (by have := HKl.out; omega)
   have e4 : C.take i = C := List.take_of_length_le (by have := HKl.out; have := HAC.out; omega)
   rw [e1, e2, e3, e4, List.append_nil, List.append_nil] at hs
   have HS := hideP hs
   have HG := hideP hg
   clear hs hg e1 e2 e3 e4
   go_wp2_with fail
   go_end0
   exact ⟨by first | rfl | trivial, by simpa [List.append_assoc] using HS.out, HG.out⟩
  have hlt' : (i : Int) < (k : Int) := by omega
  have hiA : i < A.length := by have := HKl.out; omega
  have hiC : i < C.length := by have := HAC.out; omega
  have HSt := hideP (show P ++ (C.take (i + 1) ++ A.drop (i + 1)) ++ M ++ (A.take (i + 1) ++ C.drop (i + 1)) ++ Q = ((P ++ C.take i) ++ C[i] :: (A.drop (i + 1) ++ M ++ A.take i)) ++ A[i] :: (C.drop (i + 1) ++ Q) by
   rw [List.take_succ_eq_append_getElem hiC, List.take_succ_eq_append_getElem hiA]
   generalize A.take i = t1
   generalize C.take i = t2
   generalize A.drop (i + 1) = t3
   generalize C.drop (i + 1) = t4
   generalize A[i] = t5
   generalize C[i] = t6
   simp [List.append_assoc])
  rw [show P ++ (C.take i ++ A.drop i) ++ M ++ (A.take i ++ C.drop i) ++ Q = ((P ++ C.take i) ++ A[i] :: (A.drop (i + 1) ++ M ++ A.take i)) ++ C[i] :: (C.drop (i + 1) ++ Q) by
   rw [List.drop_eq_getElem_cons hiA, List.drop_eq_getElem_cons hiC]
   generalize A.take i = t1
   generalize C.take i = t2
   generalize A.drop (i + 1) = t3
   generalize C.drop (i + 1) = t4
   generalize A[i] = t5
   generalize C[i] = t6
   simp [List.append_assoc]] at hs
  have l1 : (P ++ C.take i).length = ai + i := by rw [List.length_append, List.length_take, HA.out]; omega
  have l2 : (P ++ C.take i).length + 1 + (A.drop (i + 1) ++ M ++ A.take i).length = bi + i := by
   rw [l1]
   simp only [List.length_append, List.length_drop, List.length_take]
   have := HA.out
   have := HB.out
   omega
  generalize P ++ C.take i = U at *
  generalize A.drop (i + 1) ++ M ++ A.take i = V at *
  generalize C.drop (i + 1) ++ Q = Z at *
  generalize hx : A[i] = x at *
  generalize hy : C[i] = y at *
  obtain ⟨⟨xa, xn, xc⟩, xl⟩ := x
  obtain ⟨⟨ya, yn, yc⟩, yl⟩ := y
  have hc := hs.cell2
  rw [l2, l1] at hc
  obtain ⟨cx, cy⟩ := hc
  simp only at cx cy
  have zx := hs.b.frozen (ai + i)
  have ey : (((U ++ (⟨xa, xn, xc⟩, xl) :: V) ++ (⟨ya, yn, yc⟩, yl) :: Z).map prV).toArray[bi + i]? = some (.slice ya yn yc) := by
   have e9 : bi + i = ((U ++ ((⟨xa, xn, xc⟩, xl) : Pr) :: V).map prV).length := by rw [List.length_map, List.length_append, List.length_cons, ← l2]; omega
   rw [e9, List.map_append]
   simp [prV]
  have hb2 := hs.b.set (ai + i) (.slice ya yn yc)
  have cy2 := hb2.cell (bi + i) (u := .slice ya yn yc) (by
   rw [Array.getElem?_setIfInBounds_ne (by omega)]
   exact ey)
  have zy2 := hb2.frozen (bi + i)
  have hsw := hs.exch
  rw [l2, l1, ← HSt.out] at hsw
  have HSw := hideP (hsw.fr (Fr.drew (Fr.refl _)))
  have HGw := hideP (grown_then (grown_set (grown_set hg (ai + i) (.slice ya yn yc)) (bi + i) (.slice xa xn xc)) (Fr.drew (Fr.refl _)))
  have b1 : ai + i < n := by omega
  have b2 : bi + i < n := by omega
  clear hb2 hsw hs hg hx hy l1 l2 HSt HA HB HKl HAC HN H0
  go_wp2_with fail
  go_region
  go_wp2_with fail
  go_roundw
  case rel => exact ⟨i + 1, by go_num, by omega, HSw.out, HGw.out⟩
  case measure => simp [intOf]; omega
end Go.Proofs.YtbcfdhimngoplaaGreatDoor
namespace Go.Proofs.YtbcfdhimngoplaaGreatDoor
open Go.ChangeShapes Go.WideShapes Go.ChangeAt Go.RowKit
set_option linter.unusedVariables false
set_option linter.unusedSimpArgs false
set_option maxRecDepth 100000
set_option maxHeartbeats 2000000
theorem rotate_any (kv : Value) (B G : Nat) (P U V Q : List Pr) (w : World) (h : SR w B G (P ++ U ++ V ++ Q)) (hk : ∃ a n c, kv = .slice a n c) (n : Nat) (hn : n = (P ++ U ++ V ++ Q).length) (hn1 : n ≤ 1000) (hU : U ≠ []) (hV : V ≠ []) (a m b : Nat) (ha : a = P.length) (hm : m = P.length + U.length) (hb : b = P.length + U.length + V.length) :
  Calls Tryz.prog 91 #[.slice (some ⟨G, 0, none⟩) n n, .int .i64 (a : Int), .int .i64 (m : Int), .int .i64 (b : Int), .func (.func 29) #[kv] #[]] w fun e w' => e = .returned (.tuple #[]) ∧ SR w' B G (P ++ V ++ U ++ Q) ∧ w.grownBy w' (some G) := by
 have HSw := hideP (fun (P A M C Q : List Pr) (W : World) (h : SR W B G (P ++ A ++ M ++ C ++ Q)) (hn : n = (P ++ A ++ M ++ C ++ Q).length) (hAC : A.length = C.length) (ai bi k : Nat) (ha : ai = P.length) (hb : bi = P.length + A.length + M.length) (hkl : k = A.length) => swapRange_any kv B G P A M C Q W h hk n hn hn1 hAC ai bi k ha hb hkl)
 obtain ⟨ka, kn, kc, rfl⟩ := hk
 have H0 := hideP h
 have hN : P.length + U.length + V.length + Q.length = n := by rw [hn]; simp only [List.length_append]
 have lU := List.length_pos_iff.2 hU
 have lV := List.length_pos_iff.2 hV
 have HN := hideP hN
 have HA := hideP ha
 have HM := hideP hm
 have HB := hideP hb
 have HlU := hideP lU
 have HlV := hideP lV
 have w1 : IntKind.i64.wrap ((m : Int) - (a : Int)) = ((U.length : Nat) : Int) := by rw [IntKind.wrap_i64]; omega
 have w2 : IntKind.i64.wrap ((b : Int) - (m : Int)) = ((V.length : Nat) : Int) := by rw [IntKind.wrap_i64]; omega
 have hmn : m ≤ n := by omega
 obtain ⟨u, hu⟩ : ∃ u, U.length = u := ⟨_, rfl⟩
 obtain ⟨v, hv⟩ : ∃ v, V.length = v := ⟨_, rfl⟩
 rw [hu] at w1
 rw [hv] at w2
 have Hu := hideP hu
 have Hv := hideP hv
 clear h hn hN ha hm hb lU lV hU hV hu hv
 go_enter Tryz.func91, Tryz.ntmps91
 go_wp2_with fail
 clear w1 w2
 go_loopw [10, 11] (fun iv jv wr => ∃ (i j : Nat) (D1 U' V' D2 : List Pr), iv = .int .i64 (i : Int) ∧ jv = .int .i64 (j : Int) ∧ i = U'.length ∧ j = V'.length ∧ 0 < i ∧ 0 < j ∧ m = P.length + D1.length + i ∧ P.length + D1.length + i + j ≤ n ∧ D1 ++ V' ++ U' ++ D2 = V ++ U ∧ SR wr B G ((P ++ D1) ++ U' ++ V' ++ (D2 ++ Q)) ∧ n = ((P ++ D1) ++ U' ++ V' ++ (D2 ++ Q)).length ∧ w.grownBy wr (some G)) (fun iv jv _ => (intOf iv).toNat + (intOf jv).toNat)
 case atStart =>
  refine ⟨u, v, [], U, V, [], rfl, rfl, Hu.out.symm, Hv.out.symm, by rw [← Hu.out]; exact HlU.out, by rw [← Hv.out]; exact HlV.out, ?_, ?_, by simp, by simpa using H0.out, ?_, grown_same _ _⟩
  · have := HM.out; have := Hu.out; simp only [List.length_nil]; omega
  · have := HN.out; have := Hu.out; have := Hv.out; simp only [List.length_nil]; omega
  · have := HN.out; simp only [List.length_append, List.length_nil]; omega
 case round =>
  obtain ⟨i, j, D1, U', V', D2, rfl, rfl, hiU, hjV, hi0, hj0, hmq, hle, hD, hs, hnn, hg⟩ := hrel
  obtain ⟨q, hq⟩ : ∃ q, (P ++ D1).length = q := ⟨_, rfl⟩
  have hq2 : P.length + D1.length = q := by rw [← hq, List.length_append]
  rw [hq2] at hmq hle
  have hw1 : IntKind.i64.wrap ((m : Int) - (i : Int)) = (q : Int) := by rw [IntKind.wrap_i64]; omega
  by_cases hij : i = j
  ·
   subst hij
   have ci := HSw.out (P ++ D1) U' [] V' (D2 ++ Q) wr (by simpa using hs) (by simpa using hnn) (by omega) q m i hq.symm (by rw [hq]; simp only [List.length_nil]; omega) hiU
   have HD := hideP hD
   have HG := hideP hg
   clear hs hg hD hnn hle hq hq2 hiU hjV hmq
   go_wp2_with fail
   refine ci.mono ?_
   rintro _ w3 ⟨rfl, hs3, hg3⟩
   have HS3 := hideP (show SR w3 B G (P ++ V ++ U ++ Q) by
    have e : (P ++ D1) ++ V' ++ [] ++ U' ++ (D2 ++ Q) = P ++ V ++ U ++ Q := by
     rw [List.append_nil, List.append_assoc P V U, ← HD.out]
     simp only [List.append_assoc]
    rw [← e]; exact hs3)
   have HG3 := hideP (grown_trans HG.out hg3)
   clear hs3 hg3 ci
   go_wp2_with fail
   go_end0
   exact ⟨by first | rfl | trivial, by simpa [List.append_assoc] using HS3.out, HG3.out⟩
  ·
   have hne : ¬ ((i : Int) = (j : Int)) := by omega
   have hne2 : ((i : Int) != (j : Int)) = true := by simp; omega
   by_cases hgt : j < i
   ·
    have hgt' : (j : Int) < (i : Int) := by omega
    obtain ⟨U1, U2, rfl, hU1⟩ : ∃ U1 U2, U' = U1 ++ U2 ∧ U1.length = j := ⟨U'.take j, U'.drop j, (List.take_append_drop _ _).symm, by rw [List.length_take]; omega⟩
    rw [List.length_append] at hiU
    have ci := HSw.out (P ++ D1) U1 U2 V' (D2 ++ Q) wr (by simpa [List.append_assoc] using hs) (by rw [hnn]; simp only [List.length_append]; omega) (by omega) q m j hq.symm (by rw [hq]; omega) hU1.symm
    have hw2 : IntKind.i64.wrap ((i : Int) - (j : Int)) = ((i - j : Nat) : Int) := by rw [IntKind.wrap_i64]; omega
    obtain ⟨i', hi'⟩ : ∃ i', i - j = i' := ⟨_, rfl⟩
    rw [hi'] at hw2
    have HD := hideP hD
    have HG := hideP hg
    have HQ := hideP hq2
    have HU1 := hideP hU1
    have HiU := hideP hiU
    have HjV := hideP hjV
    have HMq := hideP hmq
    have HI' := hideP hi'
    have HNn := hideP hnn
    have HLe := hideP hle
    clear hs hg hD hnn hq hq2 hU1 hiU hjV hi' hmq hle
    go_wp2_with fail
    refine ci.mono ?_
    rintro _ w3 ⟨rfl, hs3, hg3⟩
    have HS3 := hideP hs3
    have HG3 := hideP (grown_trans HG.out hg3)
    clear hs3 hg3 ci
    go_wp2_with fail
    go_roundw
    case rel =>
     have q1 := HU1.out; have q2 := HiU.out; have q3 := HjV.out; have q4 := HMq.out; have q5 := HI'.out; have q6 := HQ.out; have q7 := HLe.out
     refine ⟨i', j, D1 ++ V', U2, U1, D2, by go_num, by go_num, by omega, by omega, by omega, hj0, by simp only [List.length_append]; omega, by simp only [List.length_append]; omega, ?_, ?_, ?_, HG3.out⟩
     · rw [← HD.out]; simp only [List.append_assoc]
     ·
      have e : P ++ D1 ++ V' ++ U2 ++ U1 ++ (D2 ++ Q) = P ++ (D1 ++ V') ++ U2 ++ U1 ++ (D2 ++ Q) := by simp only [List.append_assoc]
      rw [← e]; exact HS3.out
     · have := HNn.out; simp only [List.length_append] at this ⊢; omega
    case measure => simp [intOf]; have := HI'.out; omega
   ·
    have hgt' : ¬ ((j : Int) < (i : Int)) := by omega
    obtain ⟨V1, V2, rfl, hV1⟩ : ∃ V1 V2, V' = V1 ++ V2 ∧ V1.length = j - i := ⟨V'.take (j - i), V'.drop (j - i), (List.take_append_drop _ _).symm, by rw [List.length_take]; omega⟩
    rw [List.length_append] at hjV
    obtain ⟨j', hj'⟩ : ∃ j', j - i = j' := ⟨_, rfl⟩
    rw [hj'] at hV1
    have hw2 : IntKind.i64.wrap ((j : Int) - (i : Int)) = (j' : Int) := by rw [IntKind.wrap_i64]; omega
    have hw3 : IntKind.i64.wrap ((m : Int) + (j : Int)) = (m : Int) + (j : Int) := by rw [IntKind.wrap_i64]; omega
    obtain ⟨z, hz⟩ : ∃ z, m + j - i = z := ⟨_, rfl⟩
    have hw4 : IntKind.i64.wrap ((m : Int) + (j : Int) - (i : Int)) = (z : Int) := by rw [IntKind.wrap_i64]; omega
    have ci := HSw.out (P ++ D1) U' V1 V2 (D2 ++ Q) wr (by simpa [List.append_assoc] using hs) (by rw [hnn]; simp only [List.length_append]; omega) (by omega) q z i hq.symm (by rw [hq]; omega) hiU
    have HD := hideP hD
    have HG := hideP hg
    have HQ := hideP hq2
    have HV1 := hideP hV1
    have HiU := hideP hiU
    have HjV := hideP hjV
    have HMq := hideP hmq
    have HJ' := hideP hj'
    have HNn := hideP hnn
    have HLe := hideP hle
    clear hs hg hD hnn hq hq2 hV1 hiU hjV hj' hz hmq hle
    go_wp2_with fail
    refine ci.mono ?_
    rintro _ w3 ⟨rfl, hs3, hg3⟩
    have HS3 := hideP hs3
    have HG3 := hideP (grown_trans HG.out hg3)
    clear hs3 hg3 ci
    go_wp2_with fail
    go_roundw
    case rel =>
     have q1 := HV1.out; have q2 := HiU.out; have q3 := HjV.out; have q4 := HMq.out; have q5 := HJ'.out; have q6 := HQ.out; have q7 := HLe.out
     refine ⟨i, j', D1, V2, V1, U' ++ D2, by go_num, by go_num, by omega, by omega, hi0, by omega, by omega, by omega, ?_, ?_, ?_, HG3.out⟩
     · rw [← HD.out]; simp only [List.append_assoc]
     ·
      have e : P ++ D1 ++ V2 ++ V1 ++ U' ++ (D2 ++ Q) = P ++ D1 ++ V2 ++ V1 ++ (U' ++ D2 ++ Q) := by simp only [List.append_assoc]
      rw [← e]; exact HS3.out
     · have := HNn.out; simp only [List.length_append] at this ⊢; omega
    case measure => simp [intOf]; have := HJ'.out; omega
end Go.Proofs.YtbcfdhimngoplaaGreatDoor
namespace Go.Proofs.YtbcfdhimngoplaaGreatDoor
open Go.ChangeShapes Go.WideShapes Go.ChangeAt Go.RowKit
set_option linter.unusedVariables false
set_option linter.unusedSimpArgs false
set_option maxRecDepth 100000
set_option maxHeartbeats 2000000
theorem SR.at {w : World} {B G : Nat} {L : List Pr} (h : SR w B G L) {i : Nat} (hi : i < L.length) : w.cell? ⟨G, i, none⟩ = some (.slice L[i].1.a L[i].1.n L[i].1.c) := by
 refine h.b.cell i ?_
 simp [prV, hi]
theorem cmp_at (kv : Value) (ks : List BG.Ky) {w wr : World} {B G : Nat} {L : List Pr} (hk : ∀ w', w.grownBy w' (some G) → IsL cdY w' kv ks) (hl : ks.length ≤ 1000) (hf : ∀ p ∈ L, Fit ks p.2) (h : SR wr B G L) (hg : w.grownBy wr (some G)) {i j : Nat} (hi : i < L.length) (hj : j < L.length) :
  ∃ (cm : Int) (xq yq : Sq), (cm < 0 ↔ plt ks L[i] L[j] = true) ∧ (∀ W, Fr wr W → W.cell? ⟨G, i, none⟩ = some (.slice xq.a xq.n xq.c)) ∧ (∀ W, Fr wr W → W.cell? ⟨G, j, none⟩ = some (.slice yq.a yq.n yq.c)) ∧
   (∀ W, Fr wr W → Calls Tryz.prog 29 #[kv, .slice xq.a xq.n xq.c, .slice yq.a yq.n yq.c] W fun e w' => e = .returned (.int .i64 cm) ∧ Fr W w') := by
 have h1 := hf L[i] (List.getElem_mem hi)
 have h2 := hf L[j] (List.getElem_mem hj)
 refine ⟨BG.cmpK ks L[i].2 L[j].2, L[i].1, L[j].1, BG.cmpK_lt (Fit.two h1 h2), fun W f => (h.fr f).at hi, fun W f => (h.fr f).at hj, fun W f => ?_⟩
 exact compare_any kv L[i].1.v L[j].1.v ks L[i].2 L[j].2 W (hk W (grown_then hg f)) (isL_own (own_fr (h.own _ (List.getElem_mem hi)) f)) (isL_own (own_fr (h.own _ (List.getElem_mem hj)) f)) (fun k hk => ⟨(h1.1 k hk).1, (h1.1 k hk).2, (h2.1 k hk).2⟩) hl
theorem at_X {α : Type} {P X Y Q : List α} {i : Nat} (hi : i < X.length) (h : P.length + i < (P ++ X ++ Y ++ Q).length) : (P ++ X ++ Y ++ Q)[P.length + i] = X[i] := by
 rw [List.getElem_append_left (by simp only [List.length_append]; omega), List.getElem_append_left (by simp only [List.length_append]; omega), List.getElem_append_right (by omega)]
 simp
theorem at_Y {α : Type} {P X Y Q : List α} {i : Nat} (hi : i < Y.length) (h : P.length + X.length + i < (P ++ X ++ Y ++ Q).length) : (P ++ X ++ Y ++ Q)[P.length + X.length + i] = Y[i] := by
 rw [List.getElem_append_left (by simp only [List.length_append]; omega), List.getElem_append_right (by simp only [List.length_append]; omega)]
 congr 1
 simp only [List.length_append]
 omega
end Go.Proofs.YtbcfdhimngoplaaGreatDoor
namespace Go.Proofs.YtbcfdhimngoplaaGreatDoor
open Go.ChangeShapes Go.WideShapes Go.ChangeAt Go.RowKit
set_option linter.unusedVariables false
set_option linter.unusedSimpArgs false
set_option maxRecDepth 100000
set_option maxHeartbeats 2000000
theorem symMerge_first (kv : Value) (ks : List BG.Ky) (B G : Nat) (P : List Pr) (x : Pr) (Y Q : List Pr) (w : World) (h : SR w B G (P ++ [x] ++ Y ++ Q)) (hk : ∀ w', w.grownBy w' (some G) → IsL cdY w' kv ks) (hf : ∀ p ∈ P ++ [x] ++ Y ++ Q, Fit ks p.2) (hl : ks.length ≤ 1000) (hY : BO.Sorted (plt ks) Y) (n : Nat) (hn : n = (P ++ [x] ++ Y ++ Q).length) (hn1 : n ≤ 1000) (a m b : Nat) (ha : a = P.length) (hm : m = P.length + 1) (hb : b = P.length + 1 + Y.length) :
  Calls Tryz.prog 77 #[.slice (some ⟨G, 0, none⟩) n n, .int .i64 (a : Int), .int .i64 (m : Int), .int .i64 (b : Int), .func (.func 29) #[kv] #[]] w fun e w' => e = .returned (.tuple #[]) ∧ SR w' B G (P ++ BO.sort (plt ks) ([x] ++ Y) ++ Q) ∧ w.grownBy w' (some G) := by
 have hN : P.length + 1 + Y.length + Q.length = n := by rw [hn]; simp only [List.length_append, List.length_singleton]
 have HCp := hideP (fun (wr : World) (hs : SR wr B G (P ++ [x] ++ Y ++ Q)) (hg : w.grownBy wr (some G)) (M : Nat) (h1 : m ≤ M) (h2 : M < b) => show ∃ (cm : Int) (xq yq : Sq), (∀ y, (P ++ [x] ++ Y ++ Q)[M]? = some y → (cm < 0 ↔ plt ks y x = true)) ∧ (∀ W, Fr wr W → W.cell? ⟨G, M, none⟩ = some (.slice xq.a xq.n xq.c)) ∧ (∀ W, Fr wr W → W.cell? ⟨G, a, none⟩ = some (.slice yq.a yq.n yq.c)) ∧
   (∀ W, Fr wr W → Calls Tryz.prog 29 #[kv, .slice xq.a xq.n xq.c, .slice yq.a yq.n yq.c] W fun e w' => e = .returned (.int .i64 cm) ∧ Fr W w') by
  have hM : M < (P ++ [x] ++ Y ++ Q).length := by rw [← hn]; omega
  have hA : a < (P ++ [x] ++ Y ++ Q).length := by rw [← hn]; omega
  obtain ⟨cm, xq, yq, c1, c2, c3, c4⟩ := cmp_at kv ks hk hl hf hs hg hM hA
  refine ⟨cm, xq, yq, fun y hy => ?_, c2, c3, c4⟩
  rw [List.getElem?_eq_getElem hM] at hy
  cases hy
  have e : (P ++ [x] ++ Y ++ Q)[a] = x := by
   subst ha
   exact at_X (X := [x]) (i := 0) (by simp) (by simp)
  rw [e] at c1
  exact c1)
 have HFin := hideP (fun (t : Nat) (ht : m + t ≤ b) (c1 : m + t < b → ∀ z, (P ++ [x] ++ Y ++ Q)[m + t]? = some z → plt ks z x = false) (c2 : 0 < t → ∀ z, (P ++ [x] ++ Y ++ Q)[m + t - 1]? = some z → plt ks z x = true) => show BO.sort (plt ks) ([x] ++ Y) = Y.take t ++ x :: Y.drop t by
  refine BO.merge_first (plt_weak ks) hY (by omega) (fun h2 => ?_) (fun h2 => ?_)
  ·
   have hM : P.length + [x].length + t < (P ++ [x] ++ Y ++ Q).length := by rw [← hn]; simp only [List.length_singleton]; omega
   refine c1 (by omega) _ ?_
   rw [show m + t = P.length + [x].length + t by simp only [List.length_singleton]; omega, List.getElem?_eq_getElem hM, at_Y h2]
  ·
   have hM : P.length + [x].length + (t - 1) < (P ++ [x] ++ Y ++ Q).length := by rw [← hn]; simp only [List.length_singleton]; omega
   refine c2 h2 _ ?_
   rw [show m + t - 1 = P.length + [x].length + (t - 1) by simp only [List.length_singleton]; omega, List.getElem?_eq_getElem hM, at_Y (by omega)])
 obtain ⟨ka, kn, kc, rfl⟩ : ∃ a n c, kv = .slice a n c := by obtain ⟨a, c, h, _⟩ := hk w (grown_same w _); exact ⟨a, _, c, h⟩
 have H0 := hideP h
 have HA := hideP ha
 have HB := hideP hb
 have HN := hideP hN
 have w1 : IntKind.i64.wrap ((m : Int) - (a : Int)) = 1 := by rw [IntKind.wrap_i64]; omega
 have hbn : b ≤ n := by omega
 have hmb : m ≤ b := by omega
 have HMa := hideP (show m = a + 1 by omega)
 have han : (a : Int) < (n : Int) := by omega
 clear h hk hf hn hN ha hm hb hY
 go_enter Tryz.func77, Tryz.ntmps77
 go_wp2_with fail
 go_loopw [10, 11, 12] (fun iv jv _ wr => ∃ I J : Nat, iv = .int .i64 (I : Int) ∧ jv = .int .i64 (J : Int) ∧ m ≤ I ∧ I ≤ J ∧ J ≤ b ∧ (J < b → ∀ z, (P ++ [x] ++ Y ++ Q)[J]? = some z → plt ks z x = false) ∧ (m < I → ∀ z, (P ++ [x] ++ Y ++ Q)[I - 1]? = some z → plt ks z x = true) ∧ SR wr B G (P ++ [x] ++ Y ++ Q) ∧ w.grownBy wr (some G)) (fun iv jv _ _ => (intOf jv).toNat - (intOf iv).toNat)
 case atStart => exact ⟨m, b, rfl, rfl, Nat.le_refl _, hmb, Nat.le_refl _, fun h => by omega, fun h => by omega, H0.out, grown_same _ _⟩
 case round =>
  obtain ⟨I, J, rfl, rfl, hmI, hIJ, hJb, c1, c2, hs, hg⟩ := hrel
  have HC1 := hideP c1
  have HC2 := hideP c2
  have HSr := hideP hs
  have HGr := hideP hg
  by_cases hlt : I < J
  case neg =>
   obtain rfl : I = J := by omega
   have hlt' : ¬ ((I : Int) < (I : Int)) := by omega
   obtain ⟨t, ht⟩ : ∃ t, I = m + t := ⟨I - m, by omega⟩
   have HSo := hideP (HFin.out t (by omega) (fun h => by rw [← ht]; exact c1 (by omega)) (fun h => by rw [← ht]; exact c2 (by omega)))
   have HT := hideP ht
   have HTY := hideP (show t ≤ Y.length by have := HB.out; have := HA.out; have := HMa.out; omega)
   have wI : IntKind.i64.wrap ((I : Int) - 1) = ((a + t : Nat) : Int) := by rw [IntKind.wrap_i64]; have := HMa.out; omega
   obtain ⟨E, hE⟩ : ∃ E, a + t = E := ⟨_, rfl⟩
   rw [hE] at wI
   have HE := hideP hE
   have hEn : E + 1 ≤ n := by have := HMa.out; omega
   clear c1 c2 hs hg hE ht
   go_wp2_with fail
   obtain ⟨w0, rfl⟩ : ∃ z, z = wr := ⟨_, rfl⟩
   go_loopw [13] (fun kv' wr' => ∃ s K : Nat, kv' = .int .i64 (K : Int) ∧ K = a + s ∧ s ≤ t ∧ SR wr' B G (P ++ Y.take s ++ x :: (Y.drop s ++ Q)) ∧ w.grownBy wr' (some G)) (fun kv' _ => E - (intOf kv').toNat)
   case atStart => exact ⟨0, a, rfl, rfl, Nat.zero_le _, by have := HSr.out; simpa [List.append_assoc] using this, HGr.out⟩
   case round =>
    obtain ⟨s, K, rfl, hK, hst, hs, hg⟩ := hrel
    have HK := hideP hK
    by_cases hkE : K < E
    case neg =>
     have hkE' : ¬ ((K : Int) < (E : Int)) := by omega
     obtain rfl : s = t := by have := HE.out; omega
     have HS2 := hideP (show SR wr B G (P ++ BO.sort (plt ks) ([x] ++ Y) ++ Q) by rw [HSo.out]; simpa [List.append_assoc] using hs)
     have HG2 := hideP hg
     clear hs hg hK
     go_wp2_with fail
     (try simp only [Exit.inBlock, Exit.then])
     refine bodyPost_ret (results_none rfl _ _ _) rfl ?_
     exact ⟨by first | rfl | trivial, by simpa [List.append_assoc] using HS2.out, HG2.out⟩
    have hkE' : (K : Int) < (E : Int) := by omega
    have hsY : s < Y.length := by have := HTY.out; have := HE.out; omega
    have HSt := hideP (show P ++ Y.take (s + 1) ++ x :: (Y.drop (s + 1) ++ Q) = (P ++ Y.take s ++ Y[s] :: []) ++ x :: (Y.drop (s + 1) ++ Q) by
     rw [List.take_succ_eq_append_getElem hsY]
     simp only [List.append_assoc])
    rw [show P ++ Y.take s ++ x :: (Y.drop s ++ Q) = (P ++ Y.take s ++ x :: []) ++ Y[s] :: (Y.drop (s + 1) ++ Q) by
     rw [List.drop_eq_getElem_cons hsY]
     generalize Y.take s = t1
     generalize Y.drop (s + 1) = t2
     generalize Y[s] = t3
     simp only [List.append_assoc, List.cons_append, List.nil_append]] at hs
    have l1 : (P ++ Y.take s).length = K := by rw [List.length_append, List.length_take]; have := HA.out; omega
    generalize P ++ Y.take s = U at *
    generalize hZ : Y.drop (s + 1) ++ Q = Z at *
    have HZ := hideP hZ
    clear hZ
    generalize hy : Y[s] = y at *
    obtain ⟨⟨xa, xn, xc⟩, xl⟩ := x
    obtain ⟨⟨ya, yn, yc⟩, yl⟩ := y
    have hc := hs.cell2
    have hsw := hs.exch
    rw [l1, List.length_nil, Nat.add_zero] at hc hsw
    obtain ⟨cx, cy⟩ := hc
    simp only at cx cy
    have zx := hs.b.frozen K
    have hb2 := hs.b.set K (.slice ya yn yc)
    have ey : (((U ++ ((⟨xa, xn, xc⟩, xl) : Pr) :: []) ++ ((⟨ya, yn, yc⟩, yl) : Pr) :: Z).map prV).toArray[K + 1]? = some (.slice ya yn yc) := by
     have e9 : K + 1 = ((U ++ ((⟨xa, xn, xc⟩, xl) : Pr) :: []).map prV).length := by rw [List.length_map, List.length_append, List.length_cons, List.length_nil, l1]
     rw [e9, List.map_append]
     simp [prV]
    have cy2 := hb2.cell (K + 1) (u := .slice ya yn yc) (by
     rw [Array.getElem?_setIfInBounds_ne (by omega)]
     exact ey)
    have zy2 := hb2.frozen (K + 1)
    rw [← HSt.out] at hsw
    have HSw := hideP (hsw.fr (Fr.drew (Fr.refl _)))
    have HGw := hideP (grown_then (grown_set (grown_set hg K (.slice ya yn yc)) (K + 1) (.slice xa xn xc)) (Fr.drew (Fr.refl _)))
    have b1 : (K : Int) < (n : Int) := by omega
    have b2 : (K : Int) + 1 < (n : Int) := by omega
    clear hb2 hsw hs hg hy l1 HSt ey hK
    go_wp2_with fail
    go_region
    go_wp2_with fail
    go_roundw
    case rel => exact ⟨s + 1, K + 1, by go_num, by have := HK.out; omega, by have := HK.out; have := HE.out; omega, by rw [HZ.out]; exact HSw.out, HGw.out⟩
    case measure => simp [intOf]; omega
  have hlt' : (I : Int) < (J : Int) := by omega
  obtain ⟨M, hM⟩ : ∃ M, M = (I + J) / 2 := ⟨_, rfl⟩
  have hmi : I ≤ M := by omega
  have hmj : M < J := by omega
  have e1 : IntKind.u64.wrap ((I : Int) + (J : Int)) = (I : Int) + (J : Int) := by
   simp [IntKind.wrap, IntKind.bits, IntKind.signed]
   omega
  have e2 : ((I : Int) + (J : Int)) / 2 = (M : Int) := by omega
  have e3 : IntKind.i64.wrap (M : Int) = (M : Int) := by
   simp [IntKind.wrap, IntKind.bits, IntKind.signed]
   omega
  obtain ⟨cm, xq, yq, d1, d2, d3, d4⟩ := HCp.out wr hs hg M (by omega) (by omega)
  have HD1 := hideP d1
  have HCm := hideP d4
  have HS := hideP (show wr.cell? ⟨G, M, none⟩ = some (.slice xq.a xq.n xq.c) ∧ wr.cell? ⟨G, a, none⟩ = some (.slice yq.a yq.n yq.c) from ⟨d2 _ (Fr.refl _), d3 _ (Fr.refl _)⟩)
  have cx := d2 _ (Fr.refl _)
  have cy := d3 _ (Fr.refl _)
  have b1 : (M : Int) < (n : Int) := by omega
  have hz : Fr wr wr.drew := Fr.drew (Fr.refl wr)
  have HMm := hideP (show m ≤ M from by omega)
  clear c1 c2 hs hg d1 d2 d3 d4 hM
  go_wp2_with fail
  clear cx cy
  go_region_held3 (fun W => W.cell? ⟨G, M, none⟩ = some (.slice xq.a xq.n xq.c) ∧ W.cell? ⟨G, a, none⟩ = some (.slice yq.a yq.n yq.c)) (first | exact HS.out | exact c2_after hz HS.out | exact c2_after hf9 HS.out) (first
   | (go_at_call 29; refine (HCm.out _ hz).mono ?_; rintro _ w3 ⟨rfl, f3⟩; have hf9 := hz.trans f3; clear f3))
  all_goals (
   have HSn := hideP (HSr.out.fr hf9)
   have HGn := hideP (grown_then HGr.out hf9)
   clear hf9 hz HS e1 e2 e3
   by_cases he : cm < 0
   ·
    go_wp2_with fail
    go_roundw
    case rel => exact ⟨M + 1, J, by go_num, rfl, by omega, by omega, by omega, HC1.out, fun _ z hz => (HD1.out z (by simpa using hz)).1 he, HSn.out, HGn.out⟩
    case measure => simp [intOf]; omega
   ·
    go_wp2_with fail
    go_roundw
    case rel => exact ⟨I, M, rfl, rfl, hmI, by omega, by omega, fun _ z hz => by
     cases hq : plt ks z x with
     | false => rfl
     | true => exact absurd ((HD1.out z hz).2 hq) he, HC2.out, HSn.out, HGn.out⟩
    case measure => simp [intOf]; omega)
end Go.Proofs.YtbcfdhimngoplaaGreatDoor
namespace Go.Proofs.YtbcfdhimngoplaaGreatDoor
open Go.ChangeShapes Go.WideShapes Go.ChangeAt Go.RowKit
set_option linter.unusedVariables false
set_option linter.unusedSimpArgs false
set_option maxRecDepth 100000
set_option maxHeartbeats 2000000
theorem symMerge_last (kv : Value) (ks : List BG.Ky) (B G : Nat) (P X : List Pr) (y : Pr) (Q : List Pr) (w : World) (h : SR w B G (P ++ X ++ [y] ++ Q)) (hk : ∀ w', w.grownBy w' (some G) → IsL cdY w' kv ks) (hf : ∀ p ∈ P ++ X ++ [y] ++ Q, Fit ks p.2) (hl : ks.length ≤ 1000) (hX : BO.Sorted (plt ks) X) (hX1 : X.length ≠ 1) (n : Nat) (hn : n = (P ++ X ++ [y] ++ Q).length) (hn1 : n ≤ 1000) (a m b : Nat) (ha : a = P.length) (hm : m = P.length + X.length) (hb : b = P.length + X.length + 1) :
  Calls Tryz.prog 77 #[.slice (some ⟨G, 0, none⟩) n n, .int .i64 (a : Int), .int .i64 (m : Int), .int .i64 (b : Int), .func (.func 29) #[kv] #[]] w fun e w' => e = .returned (.tuple #[]) ∧ SR w' B G (P ++ BO.sort (plt ks) (X ++ [y]) ++ Q) ∧ w.grownBy w' (some G) := by
 have hN : P.length + X.length + 1 + Q.length = n := by rw [hn]; simp only [List.length_append, List.length_singleton]
 have HCp := hideP (fun (wr : World) (hs : SR wr B G (P ++ X ++ [y] ++ Q)) (hg : w.grownBy wr (some G)) (M : Nat) (h1 : a ≤ M) (h2 : M < m) => show ∃ (cm : Int) (xq yq : Sq), (∀ z, (P ++ X ++ [y] ++ Q)[M]? = some z → (cm < 0 ↔ plt ks y z = true)) ∧ (∀ W, Fr wr W → W.cell? ⟨G, m, none⟩ = some (.slice xq.a xq.n xq.c)) ∧ (∀ W, Fr wr W → W.cell? ⟨G, M, none⟩ = some (.slice yq.a yq.n yq.c)) ∧
   (∀ W, Fr wr W → Calls Tryz.prog 29 #[kv, .slice xq.a xq.n xq.c, .slice yq.a yq.n yq.c] W fun e w' => e = .returned (.int .i64 cm) ∧ Fr W w') by
  have hM : M < (P ++ X ++ [y] ++ Q).length := by rw [← hn]; omega
  have hA : m < (P ++ X ++ [y] ++ Q).length := by rw [← hn]; omega
  obtain ⟨cm, xq, yq, c1, c2, c3, c4⟩ := cmp_at kv ks hk hl hf hs hg hA hM
  refine ⟨cm, xq, yq, fun z hz => ?_, c2, c3, c4⟩
  rw [List.getElem?_eq_getElem hM] at hz
  cases hz
  have e : (P ++ X ++ [y] ++ Q)[m] = y := by
   subst hm
   exact at_Y (Y := [y]) (i := 0) (by simp) (by simp)
  rw [e] at c1
  exact c1)
 have HFin := hideP (fun (s : Nat) (hs : a + s ≤ m) (c1 : a + s < m → ∀ z, (P ++ X ++ [y] ++ Q)[a + s]? = some z → plt ks y z = true) (c2 : 0 < s → ∀ z, (P ++ X ++ [y] ++ Q)[a + s - 1]? = some z → plt ks y z = false) => show BO.sort (plt ks) (X ++ [y]) = X.take s ++ y :: X.drop s by
  refine BO.merge_last (plt_weak ks) hX (by omega) (fun h2 => ?_) (fun h2 => ?_)
  ·
   have hM : P.length + (s - 1) < (P ++ X ++ [y] ++ Q).length := by rw [← hn]; omega
   refine c2 h2 _ ?_
   rw [show a + s - 1 = P.length + (s - 1) by omega, List.getElem?_eq_getElem hM, at_X (by omega)]
  ·
   have hM : P.length + s < (P ++ X ++ [y] ++ Q).length := by rw [← hn]; omega
   refine c1 (by omega) _ ?_
   rw [show a + s = P.length + s by omega, List.getElem?_eq_getElem hM, at_X h2])
 obtain ⟨ka, kn, kc, rfl⟩ : ∃ a n c, kv = .slice a n c := by obtain ⟨a, c, h, _⟩ := hk w (grown_same w _); exact ⟨a, _, c, h⟩
 have H0 := hideP h
 have HA := hideP ha
 have HN := hideP hN
 obtain ⟨lx, hlx⟩ : ∃ l, X.length = l := ⟨_, rfl⟩
 have w1 : IntKind.i64.wrap ((m : Int) - (a : Int)) = (lx : Int) := by rw [IntKind.wrap_i64]; omega
 have w2 : IntKind.i64.wrap ((b : Int) - (m : Int)) = 1 := by rw [IntKind.wrap_i64]; omega
 have hx1 : ((lx : Int) == 1) = false := by simp; omega
 have hx2 : ¬ ((lx : Int) = 1) := by omega
 have hmn : m < n := by omega
 have ham : a ≤ m := by omega
 have HMa := hideP (show m = a + lx by omega)
 have HLx := hideP hlx
 have han : (m : Int) < (n : Int) := by omega
 clear h hk hf hn hN ha hm hb hX hX1 hlx
 go_enter Tryz.func77, Tryz.ntmps77
 go_wp2_with fail
 clear w1 w2 hx1 hx2
 go_loopw [14, 15, 16] (fun iv jv _ wr => ∃ I J : Nat, iv = .int .i64 (I : Int) ∧ jv = .int .i64 (J : Int) ∧ a ≤ I ∧ I ≤ J ∧ J ≤ m ∧ (J < m → ∀ z, (P ++ X ++ [y] ++ Q)[J]? = some z → plt ks y z = true) ∧ (a < I → ∀ z, (P ++ X ++ [y] ++ Q)[I - 1]? = some z → plt ks y z = false) ∧ SR wr B G (P ++ X ++ [y] ++ Q) ∧ w.grownBy wr (some G)) (fun iv jv _ _ => (intOf jv).toNat - (intOf iv).toNat)
 case atStart => exact ⟨a, m, rfl, rfl, Nat.le_refl _, ham, Nat.le_refl _, fun h => by omega, fun h => by omega, H0.out, grown_same _ _⟩
 case round =>
  obtain ⟨I, J, rfl, rfl, hmI, hIJ, hJb, c1, c2, hs, hg⟩ := hrel
  have HC1 := hideP c1
  have HC2 := hideP c2
  have HSr := hideP hs
  have HGr := hideP hg
  by_cases hlt : I < J
  case neg =>
   obtain rfl : I = J := by omega
   have hlt' : ¬ ((I : Int) < (I : Int)) := by omega
   obtain ⟨s, hs'⟩ : ∃ s, I = a + s := ⟨I - a, by omega⟩
   have HSo := hideP (HFin.out s (by omega) (fun h => by rw [← hs']; exact c1 (by omega)) (fun h => by rw [← hs']; exact c2 (by omega)))
   have HT := hideP hs'
   have HTX := hideP (show s ≤ X.length by have := HLx.out; have := HMa.out; omega)
   clear c1 c2 hs hg hs'
   go_wp2_with fail
   obtain ⟨w0, rfl⟩ : ∃ z, z = wr := ⟨_, rfl⟩
   go_loopw [17] (fun kv' wr' => ∃ r K : Nat, kv' = .int .i64 (K : Int) ∧ K = a + r ∧ s ≤ r ∧ r ≤ X.length ∧ SR wr' B G (P ++ X.take r ++ y :: (X.drop r ++ Q)) ∧ w.grownBy wr' (some G)) (fun kv' _ => (intOf kv').toNat)
   case atStart => exact ⟨X.length, m, rfl, by have := HLx.out; have := HMa.out; omega, HTX.out, Nat.le_refl _, by have := HSr.out; simpa [List.append_assoc] using this, HGr.out⟩
   case round =>
    obtain ⟨r, K, rfl, hK, hst, hrX, hs, hg⟩ := hrel
    have HK := hideP hK
    by_cases hkE : I < K
    case neg =>
     have hkE' : ¬ ((I : Int) < (K : Int)) := by omega
     obtain rfl : r = s := by have := HT.out; omega
     have HS2 := hideP (show SR wr B G (P ++ BO.sort (plt ks) (X ++ [y]) ++ Q) by rw [HSo.out]; simpa [List.append_assoc] using hs)
     have HG2 := hideP hg
     clear hs hg hK
     go_wp2_with fail
     (try simp only [Exit.inBlock, Exit.then])
     refine bodyPost_ret (results_none rfl _ _ _) rfl ?_
     exact ⟨by first | rfl | trivial, by simpa [List.append_assoc] using HS2.out, HG2.out⟩
    have hkE' : (I : Int) < (K : Int) := by omega
    obtain ⟨r', rfl⟩ : ∃ r', r = r' + 1 := ⟨r - 1, by have := HT.out; omega⟩
    have hsX : r' < X.length := by omega
    have HSt := hideP (show P ++ X.take r' ++ y :: (X.drop r' ++ Q) = P ++ X.take r' ++ y :: X[r'] :: (X.drop (r' + 1) ++ Q) by
     rw [List.drop_eq_getElem_cons hsX]
     rfl)
    rw [show P ++ X.take (r' + 1) ++ y :: (X.drop (r' + 1) ++ Q) = P ++ X.take r' ++ X[r'] :: y :: (X.drop (r' + 1) ++ Q) by
     rw [List.take_succ_eq_append_getElem hsX]
     generalize X.take r' = t1
     generalize X.drop (r' + 1) = t2
     generalize X[r'] = t3
     simp only [List.append_assoc, List.cons_append, List.nil_append]] at hs
    obtain ⟨K', hK'⟩ : ∃ K', K = K' + 1 := ⟨K - 1, by omega⟩
    subst hK'
    have l1 : (P ++ X.take r').length = K' := by rw [List.length_append, List.length_take]; have := HA.out; omega
    have HRs := hideP (show s ≤ r' by have := HT.out; omega)
    generalize hU : P ++ X.take r' = U at *
    generalize X.drop (r' + 1) ++ Q = Z at *
    generalize hz : X[r'] = z at *
    obtain ⟨⟨xa, xn, xc⟩, xl⟩ := y
    obtain ⟨⟨ya, yn, yc⟩, yl⟩ := z
    have cx := hs.cell
    have cy := SR.cell (a := U ++ [((⟨ya, yn, yc⟩, yl) : Pr)]) (x := ((⟨xa, xn, xc⟩, xl) : Pr)) (b := Z) (by simpa using hs)
    have hsw := hs.swap
    rw [l1] at cx hsw
    rw [List.length_append, List.length_singleton, l1] at cy
    simp only at cx cy
    have zx := hs.b.frozen (K' + 1)
    have hb2 := hs.b.set (K' + 1) (.slice ya yn yc)
    have ey : ((U ++ ((⟨ya, yn, yc⟩, yl) : Pr) :: ((⟨xa, xn, xc⟩, xl) : Pr) :: Z).map prV).toArray[K']? = some (.slice ya yn yc) := by
     rw [← l1]
     simp [prV]
    have cy2 := hb2.cell K' (u := .slice ya yn yc) (by
     rw [Array.getElem?_setIfInBounds_ne (by omega)]
     exact ey)
    have zy2 := hb2.frozen K'
    rw [← HSt.out] at hsw
    have HSw := hideP (hsw.fr (Fr.drew (Fr.refl _)))
    have HGw := hideP (grown_then (grown_set (grown_set hg (K' + 1) (.slice ya yn yc)) K' (.slice xa xn xc)) (Fr.drew (Fr.refl _)))
    have HU := hideP hU
    have b1 : (K' : Int) < (n : Int) := by have := HMa.out; have := HLx.out; omega
    have b2 : (K' : Int) + 1 < (n : Int) := by have := HMa.out; have := HLx.out; omega
    have b3 : IntKind.i64.wrap ((K' : Int) + 1 - 1) = (K' : Int) := by rw [IntKind.wrap_i64]; omega
    have b4 : ¬ ((K' : Int) + 1 < 0) := by omega
    have b5 : IntKind.i64.wrap (K' : Int) = (K' : Int) := by rw [IntKind.wrap_i64]; omega
    clear hb2 hsw hs hg hz l1 HSt ey hK hU hrX hst
    go_wp2_with fail
    go_region
    go_wp2_with fail
    go_roundw
    case rel => exact ⟨r', K', by go_num, by have := HK.out; omega, HRs.out, by omega, by rw [HU.out]; exact HSw.out, HGw.out⟩
    case measure => simp [intOf]
  have hlt' : (I : Int) < (J : Int) := by omega
  obtain ⟨M, hM⟩ : ∃ M, M = (I + J) / 2 := ⟨_, rfl⟩
  have hmi : I ≤ M := by omega
  have hmj : M < J := by omega
  have e1 : IntKind.u64.wrap ((I : Int) + (J : Int)) = (I : Int) + (J : Int) := by
   simp [IntKind.wrap, IntKind.bits, IntKind.signed]
   omega
  have e2 : ((I : Int) + (J : Int)) / 2 = (M : Int) := by omega
  have e3 : IntKind.i64.wrap (M : Int) = (M : Int) := by
   simp [IntKind.wrap, IntKind.bits, IntKind.signed]
   omega
  obtain ⟨cm, xq, yq, d1, d2, d3, d4⟩ := HCp.out wr hs hg M (by omega) (by omega)
  have HD1 := hideP d1
  have HCm := hideP d4
  have HS := hideP (show wr.cell? ⟨G, m, none⟩ = some (.slice xq.a xq.n xq.c) ∧ wr.cell? ⟨G, M, none⟩ = some (.slice yq.a yq.n yq.c) from ⟨d2 _ (Fr.refl _), d3 _ (Fr.refl _)⟩)
  have cx := d2 _ (Fr.refl _)
  have cy := d3 _ (Fr.refl _)
  have b1 : (M : Int) < (n : Int) := by omega
  have hz : Fr wr wr.drew := Fr.drew (Fr.refl wr)
  clear c1 c2 hs hg d1 d2 d3 d4 hM
  go_wp2_with fail
  clear cx cy
  go_region_held3 (fun W => W.cell? ⟨G, m, none⟩ = some (.slice xq.a xq.n xq.c) ∧ W.cell? ⟨G, M, none⟩ = some (.slice yq.a yq.n yq.c)) (first | exact HS.out | exact c2_after hz HS.out | exact c2_after hf9 HS.out) (first
   | (go_at_call 29; refine (HCm.out _ hz).mono ?_; rintro _ w3 ⟨rfl, f3⟩; have hf9 := hz.trans f3; clear f3))
  all_goals (
   have HSn := hideP (HSr.out.fr hf9)
   have HGn := hideP (grown_then HGr.out hf9)
   clear hf9 hz HS e1 e2 e3
   by_cases he : cm < 0
   ·
    have hb : (!decide (cm < 0)) = false := by simp [he]
    rw [hb]
    clear hb
    go_wp2_with fail
    go_roundw
    case rel => exact ⟨I, M, rfl, rfl, hmI, by omega, by omega, fun _ z hz => (HD1.out z hz).1 he, HC2.out, HSn.out, HGn.out⟩
    case measure => simp [intOf]; omega
   ·
    have hb : (!decide (cm < 0)) = true := by simp [he]
    rw [hb]
    clear hb
    go_wp2_with fail
    go_roundw
    case rel => exact ⟨M + 1, J, by go_num, rfl, by omega, by omega, by omega, HC1.out, fun _ z hz => by
     cases hq : plt ks y z with
     | false => rfl
     | true => exact absurd ((HD1.out z (by simpa using hz)).2 hq) he, HSn.out, HGn.out⟩
    case measure => simp [intOf]; omega)
end Go.Proofs.YtbcfdhimngoplaaGreatDoor
namespace Go.Proofs.YtbcfdhimngoplaaGreatDoor
open Go.ChangeShapes Go.WideShapes Go.ChangeAt Go.RowKit
set_option linter.unusedVariables false
set_option linter.unusedSimpArgs false
set_option maxRecDepth 100000
set_option maxHeartbeats 4000000
theorem BO.cut_found {α : Type} {lt : α → α → Bool} (h : BO.Weak lt) {P X Y Q : List α} (hX : BO.Sorted lt X) (hY : BO.Sorted lt Y) {a m b mid S : Nat} (ha : a = P.length) (hm : m = P.length + X.length) (hb : b = P.length + X.length + Y.length) (hmid : mid = (a + b) / 2)
  (h1 : a ≤ S) (h2 : S ≤ m) (h3 : S ≤ mid) (h4 : mid + m ≤ b + S)
  (c1 : (a < S ∧ mid + m < b + S) → ∀ y, (P ++ X ++ Y ++ Q)[mid + m - S]? = some y → ∀ x, (P ++ X ++ Y ++ Q)[S - 1]? = some x → lt y x = false)
  (c2 : (S < m ∧ S < mid) → ∀ y, (P ++ X ++ Y ++ Q)[mid + m - 1 - S]? = some y → ∀ x, (P ++ X ++ Y ++ Q)[S]? = some x → lt y x = true) :
  ∃ X1 X2 Y1 Y2, X = X1 ++ X2 ∧ Y = Y1 ++ Y2 ∧ S = a + X1.length ∧ mid + m - S = m + Y1.length ∧ mid = a + X1.length + Y1.length ∧ BO.sort lt (X ++ Y) = BO.sort lt (X1 ++ Y1) ++ BO.sort lt (X2 ++ Y2) := by
 have hc := BO.merge_cut h hX hY (s := S - a) (t := mid - S) (by omega) (by omega) (fun q1 q2 => by
  have hM : P.length + X.length + (mid - S) < (P ++ X ++ Y ++ Q).length := by simp only [List.length_append]; omega
  have hA : P.length + (S - a - 1) < (P ++ X ++ Y ++ Q).length := by simp only [List.length_append]; omega
  refine c1 ⟨by omega, by omega⟩ _ ?_ _ ?_
  · rw [show mid + m - S = P.length + X.length + (mid - S) by omega, List.getElem?_eq_getElem hM, at_Y q2]
  · rw [show S - 1 = P.length + (S - a - 1) by omega, List.getElem?_eq_getElem hA, at_X (by omega)]) (fun q1 q2 => by
  have hM : P.length + X.length + (mid - S - 1) < (P ++ X ++ Y ++ Q).length := by simp only [List.length_append]; omega
  have hA : P.length + (S - a) < (P ++ X ++ Y ++ Q).length := by simp only [List.length_append]; omega
  refine c2 ⟨by omega, by omega⟩ _ ?_ _ ?_
  · rw [show mid + m - 1 - S = P.length + X.length + (mid - S - 1) by omega, List.getElem?_eq_getElem hM, at_Y (by omega)]
  · exact (congrArg (fun k => (P ++ X ++ Y ++ Q)[k]?) (show S = P.length + (S - a) by omega)).trans ((List.getElem?_eq_getElem hA).trans (congrArg some (at_X q1 hA))))
 have l1 : (X.take (S - a)).length = S - a := by rw [List.length_take]; omega
 have l2 : (Y.take (mid - S)).length = mid - S := by rw [List.length_take]; omega
 refine ⟨X.take (S - a), X.drop (S - a), Y.take (mid - S), Y.drop (mid - S), (List.take_append_drop _ _).symm, (List.take_append_drop _ _).symm, ?_, ?_, ?_, hc⟩
 · omega
 · omega
 · omega
theorem sort_side {α : Type} {lt : α → α → Bool} (h : BO.Weak lt) {X Y : List α} (hX : BO.Sorted lt X) (hY : BO.Sorted lt Y) (h0 : X = [] ∨ Y = []) : BO.sort lt (X ++ Y) = X ++ Y := by
 rcases h0 with rfl | rfl
 · simpa using BO.sort_id h hY
 · simpa using BO.sort_id h hX
def SmIs (kv : Value) (ks : List BG.Ky) (B G n N : Nat) : Prop := ∀ (P X Y Q : List Pr) (w : World), X.length + Y.length ≤ N → SR w B G (P ++ X ++ Y ++ Q) → (∀ w', w.grownBy w' (some G) → IsL cdY w' kv ks) → (∀ p ∈ P ++ X ++ Y ++ Q, Fit ks p.2) → BO.Sorted (plt ks) X → BO.Sorted (plt ks) Y → X ≠ [] → Y ≠ [] → n = (P ++ X ++ Y ++ Q).length → ∀ (a m b : Nat), a = P.length → m = P.length + X.length → b = P.length + X.length + Y.length →
  Calls Tryz.prog 77 #[.slice (some ⟨G, 0, none⟩) n n, .int .i64 (a : Int), .int .i64 (m : Int), .int .i64 (b : Int), .func (.func 29) #[kv] #[]] w fun e w' => e = .returned (.tuple #[]) ∧ SR w' B G (P ++ BO.sort (plt ks) (X ++ Y) ++ Q) ∧ w.grownBy w' (some G)
end Go.Proofs.YtbcfdhimngoplaaGreatDoor
