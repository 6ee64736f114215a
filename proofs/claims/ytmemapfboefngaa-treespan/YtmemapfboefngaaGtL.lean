/-
  What belongs together: TwE, TwF, TwB, TwC.
-/
import Derived.Test.YtmemapfboefngaaGtJ
import Derived.Test.YtmemapfboefngaaTtU
import Derived.Test.YtmemapfboefngaaTtV
import Derived.Test.YtmemapfboefngaaTuC
import Derived.Test.YtmemapfboefngaaTtW
import Derived.Test.YtmemapfboefngaaTwA
namespace Go.Proofs.Ytmemapfboefngaa
set_option linter.unusedVariables false
set_option linter.unusedSimpArgs false
set_option maxRecDepth 100000
theorem nI_inj {u v : List Nat} (h : nI u = nI v) : u = v := by
  unfold nI at h
  induction u generalizing v with
  | nil => cases v with
    | nil => rfl
    | cons y v => simp at h
  | cons x u ih =>
    cases v with
    | nil => simp at h
    | cons y v =>
      simp only [List.map_cons, List.cons.injEq] at h
      rw [ih h.2, show x = y by omega]
theorem nIs_inj {U V : List (List Nat)} (h : U.map nI = V.map nI) : U = V := by
  induction U generalizing V with
  | nil => cases V with
    | nil => rfl
    | cons y v => simp at h
  | cons x u ih =>
    cases V with
    | nil => simp at h
    | cons y v =>
      simp only [List.map_cons, List.cons.injEq] at h
      rw [ih h.2, nI_inj h.1]
namespace TK
/-- a tree that Check finds right, its levels told -/
theorem right_un {L : List (List Pr)} {Un : List (List Nat)} (h : chk L (Un.map nI) = 0) : TR.Right L Un := by
  obtain ⟨V, e, hR, _⟩ := right_of h
  rw [nIs_inj e]; exact hR
theorem up_app {a b : List Pr} : Up (a ++ b) ↔ Up a ∧ Up b ∧ ∀ x ∈ a, ∀ y ∈ b, lt x.k y.k = true := List.pairwise_append
def lastK (st : Option ByteArray) (r : List Pr) : Option ByteArray := match r.getLast? with
  | some p => some p.k
  | none => st
theorem lastK_cons (st : Option ByteArray) (p : Pr) (t : List Pr) : lastK (some p.k) t = lastK st (p :: t) := by
  cases t with
  | nil => rfl
  | cons q t =>
    unfold lastK
    rw [List.getLast?_cons_cons]
    cases h : (q :: t).getLast? with
    | none => simp at h
    | some x => rfl
theorem pE_of : ∀ {r : List Pr} {st : Option ByteArray}, Up r → Abv st r → (∀ p ∈ r, p.k.size ≤ 40) → pE st r = .ok (lastK st r)
  | [], st, _, _, _ => rfl
  | p :: t, st, hu, ha, hk => by
    have h1 : rs st p.k = true := by
      cases st with
      | none => rfl
      | some k => exact ha k rfl p (by simp)
    rw [pE_step, if_neg (by have := hk p (by simp); omega), if_neg (by rw [h1]; decide), pE_of (List.Pairwise.of_cons hu) (fun k e q hq => by cases e; exact List.rel_of_pairwise_cons hu hq) (fun q hq => hk q (by simp [hq])), lastK_cons st]
theorem lE_of {many : Nat} : ∀ {L : List (List Pr)} {st : Option ByteArray}, Up L.flatten → Abv st L.flatten → (∀ r ∈ L, szOk many r.length = true) → (∀ p ∈ L.flatten, p.k.size ≤ 40) → er (lE many st L) = 0
  | [], _, _, _, _, _ => rfl
  | l :: t, st, hu, ha, hs, hk => by
    rw [List.flatten_cons] at hu ha hk
    obtain ⟨u1, u2, u3⟩ := up_app.1 hu
    rw [lE_step, if_neg (by rw [hs l (by simp)]; decide), pE_of u1 (fun k e p hp => ha k e p (List.mem_append_left _ hp)) (fun p hp => hk p (List.mem_append_left _ hp))]
    show er (lE many (lastK st l) t) = 0
    refine lE_of u2 ?_ (fun r hr => hs r (by simp [hr])) (fun p hp => hk p (List.mem_append_right _ hp))
    intro k e p hp
    unfold lastK at e
    split at e
    · rename_i q hq
      cases e
      exact u3 q (List.mem_of_getLast? hq) p hp
    · exact ha k e p (List.mem_append_right _ hp)
theorem nI_sum (l : List Nat) : (nI l).sum = ((l.sum : Nat) : Int) := by
  induction l with
  | nil => rfl
  | cons x r ih =>
    show (x : Int) + (nI r).sum = _
    rw [ih]
    simp
theorem uE_of : ∀ {Un : List (List Nat)} {n : Nat}, TR.Lv n Un → uE n (Un.map nI) = 0
  | [], n, h => by
    have : n = 1 := h
    subst this
    rfl
  | u :: us, n, h => by
    obtain ⟨h1, h2, h3⟩ := h
    have a := TR.sum_bounds h2
    have b := (TR.tall h3).1
    have c := Nat.two_pow_pos us.length
    show uE n (nI u :: us.map nI) = 0
    rw [uE, if_neg (by omega), if_neg, if_neg, nI_len]
    · exact uE_of h3
    · rw [nI_sum, h1]; simp
    · simp only [List.any_eq_true, not_exists, not_and]
      intro x hx
      unfold nI at hx
      obtain ⟨y, hy, rfl⟩ := List.mem_map.1 hx
      have := h2 y hy
      simp; omega
theorem szOk_of {m n : Nat} (h1 : 1 ≤ n) (h2 : n ≤ 4) (h3 : 2 ≤ n ∨ m ≤ 1) : szOk m n = true := by
  unfold szOk
  rw [decide_eq_false (show ¬ n = 0 by omega), decide_eq_false (show ¬ 4 < n by omega)]
  rcases h3 with h | h
  · rw [decide_eq_false (show ¬ n < 2 by omega)]; rfl
  · rw [decide_eq_false (show ¬ 1 < m by omega)]; cases decide (n < 2) <;> rfl
theorem chk_of {L : List (List Pr)} {Un : List (List Nat)} (hR : TR.Right L Un) (hU : Up L.flatten) (hk : ∀ p ∈ L.flatten, p.k.size ≤ 40) (hn : L.flatten.length ≤ 64) : chk L (Un.map nI) = 0 := by
  have hs := TR.sz_sum L
  have hlen := TR.sz_len L
  have hsz : ∀ r ∈ L, r.length ∈ TR.sz L := fun r hr => List.mem_map.2 ⟨r, hr, rfl⟩
  have hL : L.length ≤ 64 ∧ ∀ r ∈ L, szOk L.length r.length = true := by
    rcases hR with ⟨rfl, _⟩ | ⟨_, h | h⟩
    · exact ⟨by simp, fun r hr => by cases hr⟩
    · have := TR.sum_bounds h
      refine ⟨by omega, fun r hr => ?_⟩
      have := h _ (hsz r hr)
      exact szOk_of (by omega) (by omega) (by omega)
    · rw [h] at hlen
      simp only [List.length_cons, List.length_nil] at hlen
      refine ⟨by omega, fun r hr => ?_⟩
      have := hsz r hr
      rw [h] at this
      simp only [List.mem_singleton] at this
      exact szOk_of (by omega) (by omega) (by omega)
  have hU8 : Un.length ≤ 8 ∧ uE L.length (Un.map nI) = 0 := by
    rcases hR with ⟨rfl, rfl⟩ | ⟨h, _⟩
    · exact ⟨by simp, rfl⟩
    · refine ⟨?_, uE_of h⟩
      have := (TR.tall h).1
      rcases Nat.lt_or_ge Un.length 9 with h9 | h9
      · omega
      · have h2 : 2 ^ 9 ≤ 2 ^ Un.length := Nat.pow_le_pow_right (by decide) h9
        omega
  unfold chk
  have e1 : er (lE L.length none L) = 0 := lE_of hU (fun k e => by cases e) hL.2 hk
  rw [e1, hU8.2, List.length_map, if_neg (by omega), if_neg (by simp), if_neg (by simp), if_neg (by omega)]
def hd (r : List Pr) : ByteArray := (r.headD ⟨⟨#[]⟩, 0⟩).k
theorem leafAt_spec (key : ByteArray) : ∀ (t : List (List Pr)) (i cur : Nat), (leafAt key t i cur = cur ∧ ∀ r ∈ t, lt key (hd r) = true) ∨ ∃ j, leafAt key t i cur = i + j ∧ j < t.length ∧ lt key (hd (t.getD j [])) = false ∧ ∀ r ∈ t.drop (j + 1), lt key (hd r) = true
  | [], i, cur => .inl ⟨rfl, fun r hr => by cases hr⟩
  | r :: t, i, cur => by
    rw [leafAt]
    rcases leafAt_spec key t (i + 1) (if lt key (r.headD ⟨⟨#[]⟩, 0⟩).k = true then cur else i) with ⟨h1, h2⟩ | ⟨j, h1, h2, h3, h4⟩
    · by_cases hc : lt key (hd r) = true
      · left
        rw [h1, if_pos (show lt key (r.headD ⟨⟨#[]⟩, 0⟩).k = true from hc)]
        exact ⟨rfl, fun x hx => by rcases List.mem_cons.1 hx with rfl | hx; exact hc; exact h2 x hx⟩
      · right
        refine ⟨0, ?_, by simp, by simpa using hc, by simpa using h2⟩
        rw [h1, if_neg (show ¬ lt key (r.headD ⟨⟨#[]⟩, 0⟩).k = true from hc)]; rfl
    · right
      refine ⟨j + 1, by rw [h1]; omega, by simp; omega, by simpa using h3, by simpa using h4⟩
theorem le_lt_trans {a b c : ByteArray} (h1 : lt b a = false) (h2 : lt b c = true) : lt a c = true := by
  cases h : lt a b with
  | true => exact lt_trans h h2
  | false => rw [lt_tot h h1]; exact h2
theorem lt_le_trans {a b c : ByteArray} (h1 : lt a b = true) (h2 : lt c b = false) : lt a c = true := by
  cases h : lt b c with
  | true => exact lt_trans h1 h
  | false => rw [← lt_tot h h2]; exact h1
theorem hd_le {r : List Pr} (hu : Up r) : ∀ x ∈ r, lt x.k (hd r) = false := by
  intro x hx
  cases r with
  | nil => cases hx
  | cons p t =>
    rcases List.mem_cons.1 hx with rfl | hx
    · exact lt_irr _
    · exact lt_asym (List.rel_of_pairwise_cons hu hx)
theorem up_row {L : List (List Pr)} (hu : Up L.flatten) : ∀ r ∈ L, Up r := by
  induction L with
  | nil => intro r hr; cases hr
  | cons l t ih =>
    intro r hr
    rw [List.flatten_cons] at hu
    obtain ⟨u1, u2, _⟩ := up_app.1 hu
    rcases List.mem_cons.1 hr with rfl | hr
    · exact u1
    · exact ih u2 r hr
/-- the leaf for a key parts the others -/
theorem leaf_parts {key : ByteArray} {L : List (List Pr)} (hu : Up L.flatten) (hne : ∀ r ∈ L, r ≠ []) (h0 : 0 < L.length) :
    leafOf key L < L.length ∧ (∀ x ∈ (L.take (leafOf key L)).flatten, lt x.k key = true) ∧ (∀ x ∈ (L.drop (leafOf key L + 1)).flatten, lt key x.k = true) := by
  have hsp := leafAt_spec key L 0 0
  have hlt := leafOf_lt key h0
  change (leafOf key L = 0 ∧ _) ∨ ∃ j, leafOf key L = 0 + j ∧ _ at hsp
  generalize leafOf key L = a at *
  have late : (∀ r ∈ L.drop (a + 1), lt key (hd r) = true) → ∀ x ∈ (L.drop (a + 1)).flatten, lt key x.k = true := by
    intro h x hx
    obtain ⟨r, hr, hx⟩ := List.mem_flatten.1 hx
    exact lt_le_trans (h r hr) (hd_le (up_row hu r (List.mem_of_mem_drop hr)) x hx)
  rcases hsp with ⟨rfl, h1⟩ | ⟨j, h1, h2, h3, h4⟩
  · exact ⟨hlt, fun x hx => by simp at hx, late fun r hr => h1 r (List.mem_of_mem_drop hr)⟩
  · obtain rfl : a = j := by omega
    refine ⟨hlt, ?_, late h4⟩
    intro x hx
    have hs := TR.split_L hlt
    rw [hs, List.flatten_append, List.flatten_cons] at hu
    obtain ⟨_, _, u3⟩ := up_app.1 hu
    have hm : L.getD a [] ∈ L := by rw [List.getD_eq_getElem?_getD, List.getElem?_eq_getElem hlt]; exact List.getElem_mem hlt
    have hn := hne _ hm
    cases hg : L.getD a [] with
    | nil => exact absurd hg hn
    | cons p t =>
      rw [hg] at h3 u3
      exact lt_le_trans (u3 x hx p (by simp)) h3
/-- a key among the pairs: those before it, and those that are not -/
theorem key_parts {key : ByteArray} {L : List (List Pr)} (hu : Up L.flatten) (hne : ∀ r ∈ L, r ≠ []) (h0 : 0 < L.length) :
    leafOf key L < L.length ∧ L.flatten = ((L.take (leafOf key L)).flatten ++ (L.getD (leafOf key L) []).take (low key (L.getD (leafOf key L) []))) ++ ((L.getD (leafOf key L) []).drop (low key (L.getD (leafOf key L) [])) ++ (L.drop (leafOf key L + 1)).flatten) ∧
    (∀ x ∈ (L.take (leafOf key L)).flatten ++ (L.getD (leafOf key L) []).take (low key (L.getD (leafOf key L) [])), lt x.k key = true) ∧
    (∀ x ∈ (L.getD (leafOf key L) []).drop (low key (L.getD (leafOf key L) [])), lt x.k key = false) ∧ (∀ x ∈ (L.drop (leafOf key L + 1)).flatten, lt key x.k = true) := by
  obtain ⟨h1, h2, h3⟩ := leaf_parts (key := key) hu hne h0
  generalize leafOf key L = a at *
  have hs := TR.split_L h1
  have hm : L.getD a [] ∈ L := by rw [List.getD_eq_getElem?_getD, List.getElem?_eq_getElem h1]; exact List.getElem_mem h1
  have hur := up_row hu _ hm
  have hfl : L.flatten = (L.take a).flatten ++ (L.getD a [] ++ (L.drop (a + 1)).flatten) := by
    have := congrArg List.flatten hs
    rw [List.flatten_append, List.flatten_cons] at this
    exact this
  generalize L.getD a [] = r at *
  refine ⟨h1, ?_, ?_, ?_, h3⟩
  · rw [hfl]
    conv => lhs; rw [← List.take_append_drop (low key r) r]
    simp only [List.append_assoc]
  · intro x hx
    rcases List.mem_append.1 hx with hx | hx
    · exact h2 x hx
    · obtain ⟨i, hi, rfl⟩ := List.getElem_of_mem hx
      rw [List.getElem_take]
      rw [List.length_take] at hi
      exact low_lt (by omega) (by omega)
  · intro x hx
    obtain ⟨i, hi, rfl⟩ := List.getElem_of_mem hx
    rw [List.getElem_drop]
    rw [List.length_drop] at hi
    exact low_ge (by omega) hur (by omega)
theorem isAt_no {key : ByteArray} {r : List Pr} (hu : Up r) (h : isAt key r = false) : ∀ x ∈ r.drop (low key r), lt x.k key = false → lt key x.k = true := by
  intro x hx hf
  unfold isAt at h
  cases hd : r.drop (low key r) with
  | nil => rw [hd] at hx; cases hx
  | cons y ys =>
    have hy : r[low key r]? = some y := by
      have := congrArg (fun l => l[0]?) hd
      simpa [List.getElem?_drop] using this
    rw [hy] at h
    have hyk : y.k ≠ key := by simpa using h
    have hu2 : Up (y :: ys) := by
      rw [← hd]
      exact List.Pairwise.sublist (List.drop_sublist _ _) hu
    have hlow : low key r < r.length := by
      rcases Nat.lt_or_ge (low key r) r.length with h | h
      · exact h
      · rw [List.drop_eq_nil_of_le h] at hd; cases hd
    have hyl : lt y.k key = false := by
      have a := low_ge (key := key) (i := low key r) hlow hu (Nat.le_refl _)
      rw [List.getElem?_eq_getElem hlow] at hy
      cases hy
      exact a
    have hky : lt key y.k = true := by
      cases e : lt key y.k with
      | true => rfl
      | false => exact absurd (lt_tot hyl e) hyk
    rw [hd] at hx
    rcases List.mem_cons.1 hx with rfl | hx
    · exact hky
    · exact lt_trans hky (List.rel_of_pairwise_cons hu2 hx)
theorem isAt_yes {key : ByteArray} {r : List Pr} (h : isAt key r = true) : ∃ p, p.k = key ∧ r.drop (low key r) = p :: r.drop (low key r + 1) ∧ r[low key r]? = some p := by
  unfold isAt at h
  cases e : r[low key r]? with
  | none => rw [e] at h; cases h
  | some p =>
    rw [e] at h
    obtain ⟨hl, hp⟩ := List.getElem?_eq_some_iff.1 e
    refine ⟨p, by simpa using h, ?_, rfl⟩
    rw [List.drop_eq_getElem_cons hl, hp]
end TK
end Go.Proofs.Ytmemapfboefngaa
namespace Go.Proofs.Ytmemapfboefngaa
set_option linter.unusedVariables false
set_option linter.unusedSimpArgs false
set_option maxRecDepth 100000
namespace TK
theorem chk_facts {L : List (List Pr)} {U : List (List Int)} (h : chk L U = 0) : Up L.flatten ∧ (∀ r ∈ L, r ≠ []) ∧ (∀ p ∈ L.flatten, p.k.size ≤ 40) ∧ L.flatten.length ≤ 64 := by
  obtain ⟨_, _, b3, _, b5⟩ := chk_ok h
  obtain ⟨c1, _, c3, c4⟩ := lE_up b3
  exact ⟨c1, fun r hr => (c3 r hr).1, c4, b5⟩
theorem getD_mem {L : List (List Pr)} {a : Nat} (h : a < L.length) : L.getD a [] ∈ L := by
  rw [List.getD_eq_getElem?_getD, List.getElem?_eq_getElem h]; exact List.getElem_mem h
/-- where a key that is not there parts the pairs -/
theorem part_no {key : ByteArray} {L : List (List Pr)} (hu : Up L.flatten) (hne : ∀ r ∈ L, r ≠ []) (h : isAt key (L.getD (leafOf key L) []) = false) :
    ∃ A B, L.flatten = A ++ B ∧ (∀ x ∈ A, lt x.k key = true) ∧ (∀ x ∈ B, lt key x.k = true) := by
  by_cases h0 : 0 < L.length
  · obtain ⟨h1, h2, h3, h4, h5⟩ := key_parts (key := key) hu hne h0
    refine ⟨_, _, h2, h3, fun x hx => ?_⟩
    rcases List.mem_append.1 hx with hx | hx
    · exact isAt_no (up_row hu _ (getD_mem h1)) h x hx (h4 x hx)
    · exact h5 x hx
  · have : L = [] := List.length_eq_zero_iff.1 (by omega)
    subst this
    exact ⟨[], [], rfl, fun x hx => (by cases hx), fun x hx => (by cases hx)⟩
/-- where a key that is there parts the pairs -/
theorem part_yes {key : ByteArray} {L : List (List Pr)} (hu : Up L.flatten) (hne : ∀ r ∈ L, r ≠ []) (h : isAt key (L.getD (leafOf key L) []) = true) :
    ∃ A p B, L.flatten = A ++ p :: B ∧ p.k = key ∧ (∀ x ∈ A, lt x.k key = true) ∧ (L.getD (leafOf key L) [])[low key (L.getD (leafOf key L) [])]? = some p ∧
      A = (L.take (leafOf key L)).flatten ++ (L.getD (leafOf key L) []).take (low key (L.getD (leafOf key L) [])) ∧ B = (L.getD (leafOf key L) []).drop (low key (L.getD (leafOf key L) []) + 1) ++ (L.drop (leafOf key L + 1)).flatten := by
  obtain ⟨p, p1, p2, p3⟩ := isAt_yes h
  by_cases h0 : 0 < L.length
  · obtain ⟨h1, h2, h3, h4, h5⟩ := key_parts (key := key) hu hne h0
    rw [p2, List.cons_append] at h2
    exact ⟨_, p, _, h2, p1, h3, p3, rfl, rfl⟩
  · have : L = [] := List.length_eq_zero_iff.1 (by omega)
    subst this
    simp at p3
theorem lt_ne {a b : ByteArray} (h : lt a b = true) : a ≠ b := fun e => by rw [e, lt_irr] at h; cases h
theorem isAt_mem {key : ByteArray} {L : List (List Pr)} (hu : Up L.flatten) (hne : ∀ r ∈ L, r ≠ []) : isAt key (L.getD (leafOf key L) []) = true ↔ ∃ x ∈ L.flatten, x.k = key := by
  constructor
  · intro h
    obtain ⟨A, p, B, h1, h2, _⟩ := part_yes hu hne h
    exact ⟨p, by rw [h1]; simp, h2⟩
  · rintro ⟨x, hx, hk⟩
    cases h : isAt key (L.getD (leafOf key L) []) with
    | true => rfl
    | false =>
      obtain ⟨A, B, h1, h2, h3⟩ := part_no hu hne h
      rw [h1] at hx
      rcases List.mem_append.1 hx with hx | hx
      · exact absurd hk (lt_ne (h2 x hx))
      · exact absurd hk.symm (lt_ne (h3 x hx))
/-- the pair with a key -/
def get (key : ByteArray) (l : List Pr) : Option Pr := l.find? fun p => decide (p.k = key)
theorem get_none {key : ByteArray} {l : List Pr} (h : ∀ x ∈ l, x.k ≠ key) : get key l = none := by
  unfold get
  rw [List.find?_eq_none]
  intro x hx
  simpa using h x hx
theorem get_mid {key : ByteArray} {A B : List Pr} {p : Pr} (h : ∀ x ∈ A, x.k ≠ key) (hp : p.k = key) : get key (A ++ p :: B) = some p := by
  unfold get
  rw [List.find?_append, show A.find? (fun p => decide (p.k = key)) = none from get_none h, List.find?_cons_of_pos (by simpa using hp)]
  rfl
theorem get_other {key : ByteArray} {A B : List Pr} {p : Pr} (hp : p.k ≠ key) : get key (A ++ p :: B) = get key (A ++ B) := by
  unfold get
  rw [List.find?_append, List.find?_append, List.find?_cons_of_neg (by simpa using hp)]
theorem fnd_get {key : ByteArray} {L : List (List Pr)} (hu : Up L.flatten) (hne : ∀ r ∈ L, r ≠ []) : fnd key L = get key L.flatten := by
  unfold fnd
  cases h : isAt key (L.getD (leafOf key L) []) with
  | true =>
    obtain ⟨A, p, B, h1, h2, h3, h4, _⟩ := part_yes hu hne h
    rw [if_pos rfl, h4, h1, get_mid (fun x hx => lt_ne (h3 x hx)) h2]
  | false =>
    obtain ⟨A, B, h1, h2, h3⟩ := part_no hu hne h
    rw [if_neg (by decide), h1, get_none]
    intro x hx
    rcases List.mem_append.1 hx with hx | hx
    · exact lt_ne (h2 x hx)
    · exact fun e => lt_ne (h3 x hx) e.symm
theorem up_mid {A B : List Pr} {p : Pr} (h : Up (A ++ B)) (h1 : ∀ x ∈ A, lt x.k p.k = true) (h2 : ∀ x ∈ B, lt p.k x.k = true) : Up (A ++ p :: B) := by
  obtain ⟨u1, u2, u3⟩ := up_app.1 h
  refine up_app.2 ⟨u1, List.pairwise_cons.2 ⟨h2, u2⟩, fun x hx y hy => ?_⟩
  rcases List.mem_cons.1 hy with rfl | hy
  · exact h1 x hx
  · exact u3 x hx y hy
theorem insE_zero {key : ByteArray} {L : List (List Pr)} {U : List (List Int)} (h : insE key L U = 0) : chk L U = 0 ∧ key.size ≤ 40 ∧ isAt key (L.getD (leafOf key L) []) = false ∧ L.flatten.length ≠ 64 := by
  unfold insE at h
  split at h
  · exact absurd h (by assumption)
  rename_i h1
  split at h
  · cases h
  rename_i h2
  split at h
  · cases h
  rename_i h3
  split at h
  · cases h
  rename_i h4
  exact ⟨by omega, by omega, by simpa using h3, h4⟩
/-- what Insert does to the pairs -/
theorem ins_sp {key : ByteArray} {n : Int} {L : List (List Pr)} {Un : List (List Nat)} (h : insE key L (Un.map nI) = 0) :
    ∃ A B, L.flatten = A ++ B ∧ (∀ x ∈ A, lt x.k key = true) ∧ (∀ x ∈ B, lt key x.k = true) ∧ (insT key n L Un).1.flatten = A ++ ⟨key, n⟩ :: B ∧ chk (insT key n L Un).1 ((insT key n L Un).2.map nI) = 0 := by
  obtain ⟨hc, hk, hat, hn⟩ := insE_zero h
  obtain ⟨hu, hne, hks, h64⟩ := chk_facts hc
  obtain ⟨V, e, hR, hV8, hL64, _⟩ := right_of hc
  by_cases h0 : L = []
  · subst h0
    have e : insT key n [] Un = ([[⟨key, n⟩]], []) := rfl
    rw [e]
    refine ⟨[], [], rfl, fun x hx => (by cases hx), fun x hx => (by cases hx), rfl, ?_⟩
    refine chk_of (Un := []) (.inr ⟨rfl, .inr rfl⟩) (List.pairwise_singleton _ _) ?_ (by simp)
    intro p hp
    simp at hp
    subst hp
    exact hk
  have hlen : 0 < L.length := by
    rcases Nat.eq_zero_or_pos L.length with e | e
    · exact absurd (List.length_eq_zero_iff.1 e) h0
    · exact e
  have hRU : TR.Right L Un := right_un hc
  obtain ⟨h1, h2, h3, h4, h5⟩ := key_parts (key := key) hu hne hlen
  have h6 := isAt_no (up_row hu _ (getD_mem h1)) hat
  have e2 : insT key n L Un = TR.growT (TR.putL L (leafOf key L) (more key n (L.getD (leafOf key L) []))) Un (leafOf key L) := if_neg h0
  have hml : (more key n (L.getD (leafOf key L) [])).length = (L.getD (leafOf key L) []).length + 1 := by
    have := low_le key (L.getD (leafOf key L) [])
    unfold more
    rw [List.length_append, List.length_cons, List.length_take, List.length_drop]
    omega
  obtain ⟨g1, g2⟩ := TR.insert_right h1 hRU hml
  rw [e2]
  have hfl : (TR.growT (TR.putL L (leafOf key L) (more key n (L.getD (leafOf key L) []))) Un (leafOf key L)).1.flatten = ((L.take (leafOf key L)).flatten ++ (L.getD (leafOf key L) []).take (low key (L.getD (leafOf key L) []))) ++ ⟨key, n⟩ :: ((L.getD (leafOf key L) []).drop (low key (L.getD (leafOf key L) [])) ++ (L.drop (leafOf key L + 1)).flatten) := by
    rw [g2]; unfold more; simp only [List.append_assoc, List.cons_append]
  have hB : ∀ x ∈ (L.getD (leafOf key L) []).drop (low key (L.getD (leafOf key L) [])) ++ (L.drop (leafOf key L + 1)).flatten, lt key x.k = true := by
    intro x hx
    rcases List.mem_append.1 hx with hx | hx
    · exact h6 x hx (h4 x hx)
    · exact h5 x hx
  refine ⟨_, _, h2, h3, hB, hfl, chk_of g1 ?_ ?_ ?_⟩
  · rw [hfl]
    rw [h2] at hu
    exact up_mid hu h3 hB
  · intro p hp
    rw [hfl] at hp
    rw [h2] at hks
    rcases List.mem_append.1 hp with hp | hp
    · exact hks p (List.mem_append_left _ hp)
    · rcases List.mem_cons.1 hp with rfl | hp
      · exact hk
      · exact hks p (List.mem_append_right _ hp)
  · rw [hfl]
    have := congrArg List.length h2
    rw [List.length_append] at this
    rw [List.length_append, List.length_cons]
    omega
theorem delE_zero {key : ByteArray} {L : List (List Pr)} {U : List (List Int)} (h : delE key L U = 0) : chk L U = 0 ∧ isAt key (L.getD (leafOf key L) []) = true := by
  unfold delE at h
  split at h
  · exact absurd h (by assumption)
  rename_i h1
  split at h
  · cases h
  rename_i h2
  exact ⟨by omega, by simpa using h2⟩
/-- what Delete does to the pairs -/
theorem del_sp {key : ByteArray} {L : List (List Pr)} {Un : List (List Nat)} (h : delE key L (Un.map nI) = 0) :
    ∃ A p B, L.flatten = A ++ p :: B ∧ p.k = key ∧ (∀ x ∈ A, lt x.k key = true) ∧ (delT key L Un).1.flatten = A ++ B ∧ chk (delT key L Un).1 ((delT key L Un).2.map nI) = 0 := by
  obtain ⟨hc, hat⟩ := delE_zero h
  have hR := right_un hc
  obtain ⟨hu, hne, hks, h64⟩ := chk_facts hc
  obtain ⟨A, p, B, h1, h2, h3, h4, hA, hB⟩ := part_yes hu hne hat
  have hl : leafOf key L < L.length := by
    rcases Nat.lt_or_ge (leafOf key L) L.length with h | h
    · exact h
    · rw [List.getD_eq_getElem?_getD, List.getElem?_eq_none h] at h4; simp at h4
  obtain ⟨hlo, _⟩ := List.getElem?_eq_some_iff.1 h4
  have hml : (less key (L.getD (leafOf key L) [])).length + 1 = (L.getD (leafOf key L) []).length := by
    unfold less
    rw [List.length_append, List.length_take, List.length_drop]
    omega
  obtain ⟨g1, g2⟩ := TR.delete_right hl hR hml
  have hfl : (delT key L Un).1.flatten = A ++ B := by
    show (TR.shrinkT _ _ _).1.flatten = _
    rw [g2, hA, hB]
    unfold less
    simp only [List.append_assoc]
  have hsub : List.Sublist (A ++ B) (A ++ p :: B) := List.Sublist.append (List.Sublist.refl _) (List.sublist_cons_self _ _)
  refine ⟨A, p, B, h1, h2, h3, hfl, chk_of g1 ?_ ?_ ?_⟩
  · show Up (delT key L Un).1.flatten
    rw [hfl]
    rw [h1] at hu
    exact List.Pairwise.sublist hsub hu
  · show ∀ p ∈ (delT key L Un).1.flatten, _
    rw [hfl]
    intro q hq
    exact hks q (by rw [h1]; exact hsub.subset hq)
  · show (delT key L Un).1.flatten.length ≤ 64
    rw [hfl]
    have := hsub.length_le
    rw [h1] at h64
    omega
end TK
end Go.Proofs.Ytmemapfboefngaa
namespace Go.Proofs.Ytmemapfboefngaa
open Go.ChangeShapes Go.WideShapes Go.ChangeAt Go.RowKit
set_option linter.unusedVariables false
set_option linter.unusedSimpArgs false
set_option maxRecDepth 100000
namespace TK
/-- a tree that is right is small -/
theorem small_of {L : List (List Pr)} {U : List (List Int)} (h : chk L U = 0) : L.length ≤ 9223372036854775806 ∧ (∀ r ∈ L, r.length ≤ 9223372036854775806) ∧ (∀ r ∈ L, ∀ x ∈ r, x.k.size ≤ 9223372036854775806) ∧ U.length ≤ 9223372036854775806 ∧ ∀ u ∈ U, u.length ≤ 17592186044416 := by
  obtain ⟨Un, a2, a3, a4, a5, a6⟩ := right_of h
  obtain ⟨b1, b2, b3, _⟩ := chk_ok h
  obtain ⟨_, _, b5, b6⟩ := lE_up b3
  refine ⟨by omega, fun r hr => by have := (b5 r hr).2.2; omega, fun r hr x hx => ?_, by omega, ?_⟩
  · have := b6 x (List.mem_flatten.2 ⟨r, hr, hx⟩); omega
  · intro r hr
    rw [a2] at hr
    obtain ⟨u, hu, rfl⟩ := List.mem_map.1 hr
    rw [nI_len]
    rcases a3 with ⟨_, e⟩ | ⟨hv, _⟩
    · rw [e] at hu; cases hu
    · have := (TR.lv_sm hv (by omega) u hu).1; omega
/-- the keys and numbers that are put in -/
def bk : Nat → ByteArray
  | 0 => ⟨#[98]⟩ | 1 => ⟨#[100]⟩ | 2 => ⟨#[97]⟩ | 3 => ⟨#[101]⟩ | _ => ⟨#[99]⟩
def bn : Nat → Int
  | 0 => 98 | 1 => 100 | 2 => 97 | 3 => 101 | _ => 99
def bs : Nat → List (List Pr) × List (List Nat)
  | 0 => ([], [])
  | i + 1 => insT (bk i) (bn i) (bs i).1 (bs i).2
theorem bs_chk : ∀ i, i < 6 → chk (bs i).1 ((bs i).2.map nI) = 0 := by
  intro i hi
  rcases (show i = 0 ∨ i = 1 ∨ i = 2 ∨ i = 3 ∨ i = 4 ∨ i = 5 by omega) with rfl | rfl | rfl | rfl | rfl | rfl <;> kernel_rfl
theorem bs_ins : ∀ i, i < 5 → insE (bk i) (bs i).1 ((bs i).2.map nI) = 0 := by
  intro i hi
  rcases (show i = 0 ∨ i = 1 ∨ i = 2 ∨ i = 3 ∨ i = 4 by omega) with rfl | rfl | rfl | rfl | rfl <;> kernel_rfl
theorem bk_size : ∀ i, (bk i).size = 1 := by
  intro i
  match i with
  | 0 | 1 | 2 | 3 | _ + 4 => rfl
theorem bs_5 : bs 5 = ([[⟨⟨#[97]⟩, 97⟩, ⟨⟨#[98]⟩, 98⟩], [⟨⟨#[99]⟩, 99⟩, ⟨⟨#[100]⟩, 100⟩, ⟨⟨#[101]⟩, 101⟩]], [[2]]) := by kernel_rfl
def L5 : List (List Pr) := [[⟨⟨#[97]⟩, 97⟩, ⟨⟨#[98]⟩, 98⟩], [⟨⟨#[99]⟩, 99⟩, ⟨⟨#[100]⟩, 100⟩, ⟨⟨#[101]⟩, 101⟩]]
theorem b5_chk : chk L5 [[2]] = 0 := by kernel_rfl
theorem b5_find : findA ⟨#[100]⟩ L5 [[2]] = ((100, true), 0) := by kernel_rfl
theorem b5_del : delE ⟨#[97]⟩ L5 [[2]] = 0 := by kernel_rfl
def L6 : List (List Pr) := [[⟨⟨#[98]⟩, 98⟩, ⟨⟨#[99]⟩, 99⟩], [⟨⟨#[100]⟩, 100⟩, ⟨⟨#[101]⟩, 101⟩]]
theorem b6_is : delT ⟨#[97]⟩ L5 [[2]] = (L6, [[2]]) := by kernel_rfl
theorem b6_chk : chk L6 [[2]] = 0 := by kernel_rfl
theorem b6_del : delE ⟨#[98]⟩ L6 [[2]] = 0 := by kernel_rfl
def L7 : List (List Pr) := [[⟨⟨#[99]⟩, 99⟩, ⟨⟨#[100]⟩, 100⟩, ⟨⟨#[101]⟩, 101⟩]]
theorem b7_is : delT ⟨#[98]⟩ L6 [[2]] = (L7, []) := by kernel_rfl
theorem b7_chk : chk L7 [] = 0 := by kernel_rfl
theorem b5_rng : (rng ⟨#[98]⟩ ⟨#[100]⟩ L5.flatten).length = 3 := by kernel_rfl
end TK
end Go.Proofs.Ytmemapfboefngaa
namespace Go.Proofs.Ytmemapfboefngaa
open Go.ChangeShapes Go.WideShapes Go.ChangeAt Go.RowKit
set_option linter.unusedVariables false
set_option linter.unusedSimpArgs false
set_option maxRecDepth 100000
theorem Ow.slices {B : Nat} {w : World} {p q : Value} {L : List (List TK.Pr)} {U : List (List Nat)} (h : Ow B w p q L U) : ∃ pa pc qa qc, p = .slice pa L.length pc ∧ q = .slice qa U.length qc := by
  obtain ⟨pa, pc, e1⟩ := h.isT.l.slice
  obtain ⟨qa, qc, e2⟩ := h.isT.u.slice
  rw [List.length_map] at e2
  exact ⟨pa, pc, qa, qc, e1, e2⟩
theorem insert_ok {p q : Value} {L : List (List TK.Pr)} {U : List (List Nat)} (key : ByteArray) (n : Int) {w : World} (h : IsT w p q L (U.map nI)) (hi : TK.insE key L (U.map nI) = 0) :
    Calls Try.prog 23 #[.agg #[p, q], .string key, .int .i64 n] w fun e w' => (∃ pa pc qa qc, e = .returned (.tuple #[.agg #[.slice pa (TK.insT key n L U).1.length pc, .slice qa (TK.insT key n L U).2.length qc], .int .i64 0]) ∧ Ow w.heap.size w' (.slice pa (TK.insT key n L U).1.length pc) (.slice qa (TK.insT key n L U).2.length qc) (TK.insT key n L U).1 (TK.insT key n L U).2) ∧ Fr w w' := by
  have hx := hi
  unfold TK.insE at hx
  split at hx
  · exact absurd hx (by assumption)
  rename_i hc
  have hc : TK.chk L (U.map nI) = 0 := by omega
  split at hx
  · cases hx
  rename_i hk
  obtain ⟨s1, s2, s3, s4, s5⟩ := TK.small_of hc
  refine (insert_any p q L (U.map nI) key n w h s1 s2 s3 s4 s5 (by omega)).mono ?_
  rintro e w' ⟨h1, h2⟩
  rcases h1 with ⟨h1, _⟩ | ⟨_, Un, p', q', hU, rfl, ho⟩
  · exact absurd hi h1
  · obtain rfl := nIs_inj hU
    obtain ⟨pa, pc, qa, qc, rfl, rfl⟩ := ho.slices
    exact ⟨⟨pa, pc, qa, qc, rfl, ho⟩, h2⟩
theorem insert_bad {p q : Value} {L : List (List TK.Pr)} {U : List (List Int)} (key : ByteArray) (n : Int) {w : World} (h : IsT w p q L U) (hL : L.length ≤ 9223372036854775806) (hR : ∀ r ∈ L, r.length ≤ 9223372036854775806) (hS : ∀ r ∈ L, ∀ x ∈ r, x.k.size ≤ 9223372036854775806) (hU : U.length ≤ 9223372036854775806) (hUr : ∀ u ∈ U, u.length ≤ 17592186044416) (hk : key.size ≤ 9223372036854775806) (hi : TK.insE key L U ≠ 0) :
    Calls Try.prog 23 #[.agg #[p, q], .string key, .int .i64 n] w fun e w' => e = .returned (.tuple #[.agg #[.slice none 0 0, .slice none 0 0], .int .i64 ((TK.insE key L U : Nat) : Int)]) ∧ Fr w w' := by
  refine (insert_any p q L U key n w h hL hR hS hU hUr hk).mono ?_
  rintro e w' ⟨h1, h2⟩
  rcases h1 with ⟨_, h1⟩ | ⟨h1, _⟩
  · exact ⟨h1, h2⟩
  · exact absurd h1 hi
theorem delete_ok {p q : Value} {L : List (List TK.Pr)} {U : List (List Nat)} (key : ByteArray) {w : World} (h : IsT w p q L (U.map nI)) (hi : TK.delE key L (U.map nI) = 0) :
    Calls Try.prog 26 #[.agg #[p, q], .string key] w fun e w' => (∃ pa pc qa qc, e = .returned (.tuple #[.agg #[.slice pa (TK.delT key L U).1.length pc, .slice qa (TK.delT key L U).2.length qc], .int .i64 0]) ∧ Ow w.heap.size w' (.slice pa (TK.delT key L U).1.length pc) (.slice qa (TK.delT key L U).2.length qc) (TK.delT key L U).1 (TK.delT key L U).2) ∧ Fr w w' := by
  have hx := hi
  unfold TK.delE at hx
  split at hx
  · exact absurd hx (by assumption)
  rename_i hc
  have hc : TK.chk L (U.map nI) = 0 := by omega
  obtain ⟨s1, s2, s3, s4, s5⟩ := TK.small_of hc
  refine (delete_any p q L (U.map nI) key w h s1 s2 s3 s4 s5).mono ?_
  rintro e w' ⟨h1, h2⟩
  rcases h1 with ⟨h1, _⟩ | ⟨_, Un, p', q', hU, rfl, ho⟩
  · exact absurd hi h1
  · obtain rfl := nIs_inj hU
    obtain ⟨pa, pc, qa, qc, rfl, rfl⟩ := ho.slices
    exact ⟨⟨pa, pc, qa, qc, rfl, ho⟩, h2⟩
theorem delete_bad {p q : Value} {L : List (List TK.Pr)} {U : List (List Int)} (key : ByteArray) {w : World} (h : IsT w p q L U) (hL : L.length ≤ 9223372036854775806) (hR : ∀ r ∈ L, r.length ≤ 9223372036854775806) (hS : ∀ r ∈ L, ∀ x ∈ r, x.k.size ≤ 9223372036854775806) (hU : U.length ≤ 9223372036854775806) (hUr : ∀ u ∈ U, u.length ≤ 17592186044416) (hi : TK.delE key L U ≠ 0) :
    Calls Try.prog 26 #[.agg #[p, q], .string key] w fun e w' => e = .returned (.tuple #[.agg #[.slice none 0 0, .slice none 0 0], .int .i64 ((TK.delE key L U : Nat) : Int)]) ∧ Fr w w' := by
  refine (delete_any p q L U key w h hL hR hS hU hUr).mono ?_
  rintro e w' ⟨h1, h2⟩
  rcases h1 with ⟨_, h1⟩ | ⟨h1, _⟩
  · exact ⟨h1, h2⟩
  · exact absurd h1 hi
theorem list_ok {p q : Value} {L : List (List TK.Pr)} {U : List (List Int)} {w : World} (h : IsT w p q L U) (hc : TK.chk L U = 0) :
    Calls Try.prog 14 #[.agg #[p, q]] w fun e w' => (∃ a c, e = .returned (.tuple #[.slice a L.flatten.length c, .int .i64 0]) ∧ IsL cdPr w' (.slice a L.flatten.length c) L.flatten) ∧ Fr w w' := by
  obtain ⟨s1, s2, s3, s4, s5⟩ := TK.small_of hc
  refine (list_any p q L U w h s1 s2 s3 s4 s5).mono ?_
  rintro e w' ⟨h1, h2⟩
  rcases h1 with ⟨h1, _⟩ | ⟨_, u, rfl, ho⟩
  · exact absurd hc h1
  · obtain ⟨a, c, rfl⟩ := own_slice ho
    exact ⟨⟨a, c, rfl, isL_own ho⟩, h2⟩
theorem list_bad {p q : Value} {L : List (List TK.Pr)} {U : List (List Int)} {w : World} (h : IsT w p q L U) (hL : L.length ≤ 9223372036854775806) (hR : ∀ r ∈ L, r.length ≤ 9223372036854775806) (hS : ∀ r ∈ L, ∀ x ∈ r, x.k.size ≤ 9223372036854775806) (hU : U.length ≤ 9223372036854775806) (hUr : ∀ u ∈ U, u.length ≤ 17592186044416) (hc : TK.chk L U ≠ 0) :
    Calls Try.prog 14 #[.agg #[p, q]] w fun e w' => e = .returned (.tuple #[.slice none 0 0, .int .i64 ((TK.chk L U : Nat) : Int)]) ∧ Fr w w' := by
  refine (list_any p q L U w h hL hR hS hU hUr).mono ?_
  rintro e w' ⟨h1, h2⟩
  rcases h1 with ⟨_, h1⟩ | ⟨h1, _⟩
  · exact ⟨h1, h2⟩
  · exact absurd h1 hc
theorem range_ok {p q : Value} {L : List (List TK.Pr)} {U : List (List Int)} (lo hi : ByteArray) {w : World} (h : IsT w p q L U) (hc : TK.chk L U = 0) :
    Calls Try.prog 16 #[.agg #[p, q], .string lo, .string hi] w fun e w' => (∃ a c, e = .returned (.tuple #[.slice a (TK.rng lo hi L.flatten).length c, .int .i64 0]) ∧ IsL cdPr w' (.slice a (TK.rng lo hi L.flatten).length c) (TK.rng lo hi L.flatten)) ∧ Fr w w' := by
  obtain ⟨s1, s2, s3, s4, s5⟩ := TK.small_of hc
  refine (range_any p q L U lo hi w h s1 s2 s3 s4 s5).mono ?_
  rintro e w' ⟨h1, h2⟩
  rcases h1 with ⟨h1, _⟩ | ⟨_, u, rfl, ho⟩
  · exact absurd hc h1
  · obtain ⟨a, c, rfl⟩ := own_slice ho
    exact ⟨⟨a, c, rfl, isL_own ho⟩, h2⟩
theorem range_bad {p q : Value} {L : List (List TK.Pr)} {U : List (List Int)} (lo hi : ByteArray) {w : World} (h : IsT w p q L U) (hL : L.length ≤ 9223372036854775806) (hR : ∀ r ∈ L, r.length ≤ 9223372036854775806) (hS : ∀ r ∈ L, ∀ x ∈ r, x.k.size ≤ 9223372036854775806) (hU : U.length ≤ 9223372036854775806) (hUr : ∀ u ∈ U, u.length ≤ 17592186044416) (hc : TK.chk L U ≠ 0) :
    Calls Try.prog 16 #[.agg #[p, q], .string lo, .string hi] w fun e w' => e = .returned (.tuple #[.slice none 0 0, .int .i64 ((TK.chk L U : Nat) : Int)]) ∧ Fr w w' := by
  refine (range_any p q L U lo hi w h hL hR hS hU hUr).mono ?_
  rintro e w' ⟨h1, h2⟩
  rcases h1 with ⟨_, h1⟩ | ⟨h1, _⟩
  · exact ⟨h1, h2⟩
  · exact absurd h1 hc
end Go.Proofs.Ytmemapfboefngaa
