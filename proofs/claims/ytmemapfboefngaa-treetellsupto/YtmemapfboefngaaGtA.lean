/-
  What belongs together: TrM, TrL, TrK.
-/
set_option linter.unusedVariables false
set_option linter.unusedSimpArgs false
namespace Go.Proofs.Ytmemapfboefngaa
namespace TR
/-- levels above one of this length are right -/
def Lv : Nat → List (List Nat) → Prop
  | n, [] => n = 1
  | n, u :: us => u.sum = n ∧ (∀ x ∈ u, 2 ≤ x ∧ x ≤ 4) ∧ Lv u.length us
def above : List Nat → Nat → Nat
  | [], _ => 0
  | x :: u, a => if a < x then 0 else above u (a - x) + 1
/-- where the kids of node n begin -/
def base (u : List Nat) (n : Nat) : Nat := (u.take n).sum
theorem above_lt : ∀ {u : List Nat} {a : Nat}, a < u.sum → above u a < u.length
  | [], a, h => by simp at h
  | x :: u, a, h => by
    rw [above]; split
    · simp
    · have := above_lt (u := u) (a := a - x) (by simp at h; omega)
      simpa using this
theorem above_base : ∀ {u : List Nat} {a : Nat}, a < u.sum → base u (above u a) ≤ a ∧ a < base u (above u a) + u.getD (above u a) 0
  | [], a, h => by simp at h
  | x :: u, a, h => by
    rw [above]; split
    · simp [base]; omega
    · have := above_base (u := u) (a := a - x) (by simp at h; omega)
      simp [base] at this ⊢; omega
theorem base_le (u : List Nat) (n : Nat) : base u n + u.getD n 0 ≤ u.sum := by
  induction u generalizing n with
  | nil => simp [base]
  | cons x u ih =>
    cases n with
    | zero => simp [base]
    | succ n => have := ih n; simp [base] at this ⊢; omega
/-- another number at a place -/
def put (u : List Nat) (n x : Nat) : List Nat := u.take n ++ x :: u.drop (n + 1)
theorem split_at {u : List Nat} {n : Nat} (h : n < u.length) : u = u.take n ++ u.getD n 0 :: u.drop (n + 1) := by
  have : u.drop n = u.getD n 0 :: u.drop (n + 1) := by
    rw [List.drop_eq_getElem_cons h]; simp [List.getD_eq_getElem?_getD, h]
  rw [← this, List.take_append_drop]
theorem put_length {u : List Nat} {n x : Nat} (h : n < u.length) : (put u n x).length = u.length := by
  simp [put]; omega
theorem put_sum {u : List Nat} {n x : Nat} (h : n < u.length) : (put u n x).sum + u.getD n 0 = u.sum + x := by
  have := congrArg List.sum (split_at h)
  simp [put] at this ⊢; omega
theorem put_at {u : List Nat} {n x : Nat} (h : n < u.length) : (put u n x).getD n 0 = x := by
  simp [put, List.getD_eq_getElem?_getD, List.getElem?_append, show min n u.length = n by omega]
/-- all but the one at n -/
def Rest (u : List Nat) (n : Nat) : Prop := ∀ x, x ∈ u.take n ∨ x ∈ u.drop (n + 1) → 2 ≤ x ∧ x ≤ 4
theorem rest_all {u : List Nat} {n : Nat} (hn : n < u.length) (h : Rest u n) (hx : 2 ≤ u.getD n 0 ∧ u.getD n 0 ≤ 4) : ∀ x ∈ u, 2 ≤ x ∧ x ≤ 4 := by
  intro x hx'
  rw [split_at hn] at hx'
  rcases List.mem_append.mp hx' with g | g
  · exact h x (.inl g)
  · rcases List.mem_cons.mp g with rfl | g
    · exact hx
    · exact h x (.inr g)
theorem all_rest {u : List Nat} (h : ∀ x ∈ u, 2 ≤ x ∧ x ≤ 4) (n : Nat) : Rest u n := fun x hx =>
  h x (hx.elim List.mem_of_mem_take List.mem_of_mem_drop)
theorem put_rest {u : List Nat} {n x : Nat} (hn : n < u.length) (h : Rest u n) : Rest (put u n x) n := by
  have e1 : (put u n x).take n = u.take n := by
    rw [put, List.take_append_of_le_length (by simp; omega), List.take_take]; congr 1; omega
  have e2 : (put u n x).drop (n + 1) = u.drop (n + 1) := by
    rw [put, List.drop_append, List.drop_of_length_le (by simp; omega)]
    simp [show n + 1 - min n u.length = 1 by omega]
  intro y hy; rw [e1, e2] at hy; exact h y hy
theorem get_all {u : List Nat} (h : ∀ x ∈ u, 2 ≤ x ∧ x ≤ 4) {n : Nat} (hn : n < u.length) : 2 ≤ u.getD n 0 ∧ u.getD n 0 ≤ 4 := by
  apply h; simp [List.getD_eq_getElem?_getD, hn]

/-- two of one -/
def cut (s : List Nat) (a f : Nat) : List Nat := s.take a ++ f :: (s.getD a 0 - f) :: s.drop (a + 1)
theorem cut_length {s : List Nat} {a f : Nat} (h : a < s.length) : (cut s a f).length = s.length + 1 := by simp [cut]; omega
theorem cut_sum {s : List Nat} {a f : Nat} (h : a < s.length) (hf : f ≤ s.getD a 0) : (cut s a f).sum = s.sum := by
  have := congrArg List.sum (split_at h)
  simp only [List.getD_eq_getElem?_getD] at hf
  simp [cut] at this ⊢; omega
theorem cut_all {s : List Nat} {a f : Nat} (h : Rest s a) (hf : 2 ≤ f ∧ f ≤ 4) (hg : 2 ≤ s.getD a 0 - f ∧ s.getD a 0 - f ≤ 4) :
    ∀ x ∈ cut s a f, 2 ≤ x ∧ x ≤ 4 := by
  intro x hx
  simp only [cut, List.mem_append, List.mem_cons] at hx
  rcases hx with g | rfl | rfl | g
  · exact h x (.inl g)
  · exact hf
  · exact hg
  · exact h x (.inr g)
/-- where one has one too many -/
def grow : List Nat → List (List Nat) → Nat → List Nat × List (List Nat)
  | s, [], a => if s.getD a 0 ≤ 4 then (s, []) else (cut s a 2, [[2]])
  | s, u :: us, a => if s.getD a 0 ≤ 4 then (s, u :: us) else
    let r := grow (put u (above u a) (u.getD (above u a) 0 + 1)) us (above u a)
    (cut s a 2, r.1 :: r.2)
theorem grow_right : ∀ (up : List (List Nat)) (s : List Nat) (a : Nat), a < s.length → Rest s a → 2 ≤ s.getD a 0 → s.getD a 0 ≤ 5 → Lv s.length up →
    (∀ x ∈ (grow s up a).1, 2 ≤ x ∧ x ≤ 4) ∧ Lv (grow s up a).1.length (grow s up a).2 ∧ (grow s up a).1.sum = s.sum
  | [], s, a, ha, hr, h2, h5, hl => by
    rw [grow]
    by_cases h : s.getD a 0 ≤ 4
    · rw [if_pos h]; exact ⟨rest_all ha hr ⟨h2, h⟩, hl, rfl⟩
    · rw [if_neg h]
      refine ⟨cut_all hr (by omega) (by omega), ?_, cut_sum ha (by omega)⟩
      have : s.length = 1 := hl
      simp only [cut_length ha, this, Lv]
      simp
  | u :: us, s, a, ha, hr, h2, h5, hl => by
    rw [grow]
    by_cases h : s.getD a 0 ≤ 4
    · rw [if_pos h]; exact ⟨rest_all ha hr ⟨h2, h⟩, hl, rfl⟩
    · rw [if_neg h]
      obtain ⟨l1, l2, l3⟩ := hl
      have hn : above u a < u.length := above_lt (by omega)
      generalize above u a = n at hn ⊢
      have hu := get_all l2 hn
      obtain ⟨r1, r2, r3⟩ := grow_right us (put u n (u.getD n 0 + 1)) n (by rw [put_length hn]; exact hn)
        (put_rest hn (all_rest l2 n)) (by rw [put_at hn]; omega) (by rw [put_at hn]; omega) (by rw [put_length hn]; exact l3)
      refine ⟨cut_all hr (by omega) (by omega), ⟨?_, r1, r2⟩, cut_sum ha (by omega)⟩
      have := put_sum (x := u.getD n 0 + 1) hn
      show (grow _ us n).1.sum = _
      rw [r3, cut_length ha]; omega

/-- one of two -/
def join (s : List Nat) (a : Nat) : List Nat := s.take a ++ (s.getD a 0 + s.getD (a + 1) 0) :: s.drop (a + 2)
theorem split_two {s : List Nat} {a : Nat} (h : a + 1 < s.length) : s = s.take a ++ s.getD a 0 :: s.getD (a + 1) 0 :: s.drop (a + 2) := by
  have e1 : s.drop a = s.getD a 0 :: s.drop (a + 1) := by
    rw [List.drop_eq_getElem_cons (by omega)]; simp [List.getD_eq_getElem?_getD, show a < s.length by omega]
  have e2 : s.drop (a + 1) = s.getD (a + 1) 0 :: s.drop (a + 2) := by
    rw [List.drop_eq_getElem_cons h]; simp [List.getD_eq_getElem?_getD, h]
  rw [← e2, ← e1, List.take_append_drop]
theorem join_length {s : List Nat} {a : Nat} (h : a + 1 < s.length) : (join s a).length + 1 = s.length := by simp [join]; omega
theorem join_sum {s : List Nat} {a : Nat} (h : a + 1 < s.length) : (join s a).sum = s.sum := by
  have := congrArg List.sum (split_two h)
  simp [join] at this ⊢; omega
/-- both of two neighbours, told anew -/
def two (s : List Nat) (a f : Nat) : List Nat := cut (join s a) a f
theorem join_at {s : List Nat} {a : Nat} (h : a + 1 < s.length) : (join s a).getD a 0 = s.getD a 0 + s.getD (a + 1) 0 := by
  simp only [join, List.getD_eq_getElem?_getD]
  rw [List.getElem?_append_right (by simp; omega)]
  simp [show a - min a s.length = 0 by omega]
theorem join_rest {s : List Nat} {a : Nat} (h : a + 1 < s.length) (hx : ∀ x, x ∈ s.take a ∨ x ∈ s.drop (a + 2) → 2 ≤ x ∧ x ≤ 4) : Rest (join s a) a := by
  have e1 : (join s a).take a = s.take a := by
    rw [join, List.take_append_of_le_length (by simp; omega), List.take_take]; congr 1; omega
  have e2 : (join s a).drop (a + 1) = s.drop (a + 2) := by
    rw [join, List.drop_append, List.drop_of_length_le (by simp; omega)]
    simp [show a + 1 - min a s.length = 1 by omega]
  intro y hy; rw [e1, e2] at hy; exact hx y hy
theorem two_length {s : List Nat} {a f : Nat} (h : a + 1 < s.length) : (two s a f).length = s.length := by
  have := join_length h
  rw [two, cut_length (by omega)]; omega
theorem two_sum {s : List Nat} {a f : Nat} (h : a + 1 < s.length) (hf : f ≤ s.getD a 0 + s.getD (a + 1) 0) : (two s a f).sum = s.sum := by
  have := join_length h
  rw [two, cut_sum (by omega) (by rw [join_at h]; exact hf), join_sum h]
/-- where one has too few -/
def shrink : List Nat → List (List Nat) → Nat → List Nat × List (List Nat)
  | s, [], a => (s, [])
  | s, u :: us, a => if 2 ≤ s.getD a 0 then (s, u :: us) else
    let n := above u a
    if base u n + u.getD n 0 = a + 1 then
      if 2 < s.getD (a - 1) 0 then (two s (a - 1) (s.getD (a - 1) 0 - 1), u :: us)
      else
        let r := shrink (put u n (u.getD n 0 - 1)) us n
        (join s (a - 1), if us = [] ∧ r.1 = [1] then [] else r.1 :: r.2)
    else
      if 2 < s.getD (a + 1) 0 then (two s a (s.getD a 0 + 1), u :: us)
      else
        let r := shrink (put u n (u.getD n 0 - 1)) us n
        (join s a, if us = [] ∧ r.1 = [1] then [] else r.1 :: r.2)
theorem mem_take_get {s : List Nat} {a i : Nat} (h : i < a) (hi : i < s.length) : s.getD i 0 ∈ s.take a := by
  rw [List.mem_take_iff_getElem]
  exact ⟨i, by omega, by simp [List.getD_eq_getElem?_getD, hi]⟩
theorem mem_drop_get {s : List Nat} {a i : Nat} (h : a ≤ i) (hi : i < s.length) : s.getD i 0 ∈ s.drop a := by
  rw [List.mem_drop_iff_getElem]
  exact ⟨i - a, by omega, by simp [List.getD_eq_getElem?_getD, hi, show a + (i - a) = i by omega]⟩
theorem take_less {s : List Nat} {a b x : Nat} (h : a ≤ b) (hx : x ∈ s.take a) : x ∈ s.take b := by
  have : s.take a = (s.take b).take a := by rw [List.take_take]; congr 1; omega
  rw [this] at hx; exact List.mem_of_mem_take hx
theorem drop_more {s : List Nat} {a b x : Nat} (h : a ≤ b) (hx : x ∈ s.drop b) : x ∈ s.drop a := by
  have : s.drop b = (s.drop a).drop (b - a) := by rw [List.drop_drop]; congr 1; omega
  rw [this] at hx; exact List.mem_of_mem_drop hx
/-- a level above joined ones -/
theorem up_right {u : List Nat} {us : List (List Nat)} {n m : Nat} (hn : n < u.length) (l1 : u.sum = m + 1) (l2 : ∀ x ∈ u, 2 ≤ x ∧ x ≤ 4) (l3 : Lv u.length us)
    (ih : us ≠ [] → ∀ x ∈ (shrink (put u n (u.getD n 0 - 1)) us n).1, 2 ≤ x ∧ x ≤ 4)
    (ih2 : Lv (shrink (put u n (u.getD n 0 - 1)) us n).1.length (shrink (put u n (u.getD n 0 - 1)) us n).2)
    (ih3 : (shrink (put u n (u.getD n 0 - 1)) us n).1.sum = (put u n (u.getD n 0 - 1)).sum) :
    Lv m (if us = [] ∧ (shrink (put u n (u.getD n 0 - 1)) us n).1 = [1] then [] else
      (shrink (put u n (u.getD n 0 - 1)) us n).1 :: (shrink (put u n (u.getD n 0 - 1)) us n).2) := by
  have hu := get_all l2 hn
  have hs := put_sum (x := u.getD n 0 - 1) hn
  by_cases h : us = [] ∧ (shrink (put u n (u.getD n 0 - 1)) us n).1 = [1]
  · rw [if_pos h]
    rw [h.2] at ih3
    simp only [List.sum_cons, List.sum_nil] at ih3
    show m = 1
    omega
  · rw [if_neg h]
    refine ⟨by rw [ih3]; omega, ?_, ih2⟩
    by_cases he : us = []
    · subst he
      have hl : u.length = 1 := l3
      obtain ⟨x, rfl⟩ := List.length_eq_one_iff.mp hl
      have hn0 : n = 0 := by simpa using hn
      subst hn0
      have e : (shrink (put [x] 0 (([x] : List Nat).getD 0 0 - 1)) [] 0).1 = [x - 1] := by simp [shrink, put]
      rw [e] at h ⊢
      simp only [List.mem_singleton, forall_eq]
      simp only [true_and, List.cons.injEq, and_true] at h
      simp at hu
      omega
    · exact ih he
theorem shrink_right : ∀ (up : List (List Nat)) (s : List Nat) (a : Nat), a < s.length → Rest s a → 1 ≤ s.getD a 0 → s.getD a 0 ≤ 4 → Lv s.length up →
    (up ≠ [] → ∀ x ∈ (shrink s up a).1, 2 ≤ x ∧ x ≤ 4) ∧ Lv (shrink s up a).1.length (shrink s up a).2 ∧ (shrink s up a).1.sum = s.sum
  | [], s, a, ha, hr, h2, h5, hl => ⟨fun h => absurd rfl h, hl, rfl⟩
  | u :: us, s, a, ha, hr, h2, h5, hl => by
    rw [shrink]
    by_cases h : 2 ≤ s.getD a 0
    · rw [if_pos h]; exact ⟨fun _ => rest_all ha hr ⟨h, h5⟩, hl, rfl⟩
    rw [if_neg h]
    have h1 : s.getD a 0 = 1 := by omega
    obtain ⟨l1, l2, l3⟩ := hl
    have hn : above u a < u.length := above_lt (by omega)
    obtain ⟨b1, b2⟩ := above_base (u := u) (a := a) (by omega)
    have b3 := base_le u (above u a)
    generalize above u a = n at hn b1 b2 b3 ⊢
    have hu := get_all l2 hn
    obtain ⟨r1, r2, r3⟩ := shrink_right us (put u n (u.getD n 0 - 1)) n (by rw [put_length hn]; exact hn)
      (put_rest hn (all_rest l2 n)) (by rw [put_at hn]; omega) (by rw [put_at hn]; omega) (by rw [put_length hn]; exact l3)
    simp only
    by_cases hlast : base u n + u.getD n 0 = a + 1
    · rw [if_pos hlast]
      have hj : a - 1 + 1 < s.length := by omega
      have e1 : a - 1 + 1 = a := by omega
      have ho : 2 ≤ s.getD (a - 1) 0 ∧ s.getD (a - 1) 0 ≤ 4 := hr _ (.inl (mem_take_get (by omega) (by omega)))
      have hrest := join_rest hj fun x hx => hr x (hx.elim (fun g => .inl (take_less (by omega) g)) (fun g => .inr (drop_more (by omega) g)))
      have hat := join_at hj
      rw [e1, h1] at hat
      have hlen := join_length hj
      by_cases hs : 2 < s.getD (a - 1) 0
      · rw [if_pos hs]
        refine ⟨fun _ => cut_all hrest (by omega) (by omega), ?_, two_sum hj (by omega)⟩
        simp only [two_length hj]; exact ⟨l1, l2, l3⟩
      · rw [if_neg hs]
        dsimp only
        exact ⟨fun _ => rest_all (by omega) hrest (by omega), up_right hn (by omega) l2 l3 r1 r2 r3, join_sum hj⟩
    · rw [if_neg hlast]
      have hj : a + 1 < s.length := by omega
      have ho : 2 ≤ s.getD (a + 1) 0 ∧ s.getD (a + 1) 0 ≤ 4 := hr _ (.inr (mem_drop_get (by omega) (by omega)))
      have hrest := join_rest hj fun x hx => hr x (hx.elim (fun g => .inl g) (fun g => .inr (drop_more (by omega) g)))
      have hat := join_at hj
      rw [h1] at hat
      have hlen := join_length hj
      by_cases hs : 2 < s.getD (a + 1) 0
      · rw [if_pos hs]
        refine ⟨fun _ => cut_all hrest (by omega) (by omega), ?_, two_sum hj (by omega)⟩
        simp only [two_length hj]; exact ⟨l1, l2, l3⟩
      · rw [if_neg hs]
        dsimp only
        exact ⟨fun _ => rest_all (by omega) hrest (by omega), up_right hn (by omega) l2 l3 r1 r2 r3, join_sum hj⟩

/-- how many a right tree has -/
theorem sum_bounds : ∀ {u : List Nat}, (∀ x ∈ u, 2 ≤ x ∧ x ≤ 4) → 2 * u.length ≤ u.sum ∧ u.sum ≤ 4 * u.length
  | [], _ => by simp
  | x :: u, h => by
    have h1 := h x (by simp)
    have h2 := sum_bounds (u := u) fun y hy => h y (by simp [hy])
    simp only [List.length_cons, List.sum_cons]; omega
theorem tall : ∀ {up : List (List Nat)} {n : Nat}, Lv n up → 2 ^ up.length ≤ n ∧ n ≤ 4 ^ up.length
  | [], n, h => by have : n = 1 := h; simp [this]
  | u :: us, n, h => by
    obtain ⟨h1, h2, h3⟩ := h
    have a := sum_bounds h2
    have b := tall h3
    simp only [List.length_cons, Nat.pow_succ]; omega
end TR
end Go.Proofs.Ytmemapfboefngaa
set_option linter.unusedVariables false
set_option linter.unusedSimpArgs false
namespace Go.Proofs.Ytmemapfboefngaa
namespace TR
variable {P : Type}
def sz (L : List (List P)) : List Nat := L.map List.length
def cutL (L : List (List P)) (a f : Nat) : List (List P) := L.take a ++ (L.getD a []).take f :: (L.getD a []).drop f :: L.drop (a + 1)
def joinL (L : List (List P)) (a : Nat) : List (List P) := L.take a ++ (L.getD a [] ++ L.getD (a + 1) []) :: L.drop (a + 2)
def putL (L : List (List P)) (a : Nat) (l : List P) : List (List P) := L.take a ++ l :: L.drop (a + 1)
theorem sz_get (L : List (List P)) (a : Nat) : (sz L).getD a 0 = (L.getD a []).length := by
  simp only [sz, List.getD_eq_getElem?_getD, List.getElem?_map]
  cases L[a]? <;> simp
theorem sz_len (L : List (List P)) : (sz L).length = L.length := by simp [sz]
theorem sz_sum (L : List (List P)) : (sz L).sum = L.flatten.length := by simp [sz, List.length_flatten]
theorem sz_cut (L : List (List P)) {a f : Nat} (hf : f ≤ (L.getD a []).length) : sz (cutL L a f) = cut (sz L) a f := by
  simp only [sz, cutL, cut, List.map_append, List.map_cons, List.map_take, List.map_drop, List.length_take, List.length_drop]
  rw [show (List.map List.length L).getD a 0 = (L.getD a []).length from sz_get L a, Nat.min_eq_left hf]
theorem sz_join (L : List (List P)) (a : Nat) : sz (joinL L a) = join (sz L) a := by
  simp only [sz, joinL, join, List.map_append, List.map_cons, List.map_take, List.map_drop, List.length_append]
  rw [show ∀ i, (List.map List.length L).getD i 0 = (L.getD i []).length from sz_get L]
  rw [show ∀ i, (List.map List.length L).getD i 0 = (L.getD i []).length from sz_get L]
theorem sz_put (L : List (List P)) (a : Nat) (l : List P) : sz (putL L a l) = put (sz L) a l.length := by
  simp [sz, putL, put, List.map_take, List.map_drop]
theorem split_L {L : List (List P)} {a : Nat} (h : a < L.length) : L = L.take a ++ L.getD a [] :: L.drop (a + 1) := by
  have : L.drop a = L.getD a [] :: L.drop (a + 1) := by
    rw [List.drop_eq_getElem_cons h]; simp [List.getD_eq_getElem?_getD, h]
  rw [← this, List.take_append_drop]
theorem split_L2 {L : List (List P)} {a : Nat} (h : a + 1 < L.length) : L = L.take a ++ L.getD a [] :: L.getD (a + 1) [] :: L.drop (a + 2) := by
  have e1 : L.drop a = L.getD a [] :: L.drop (a + 1) := by
    rw [List.drop_eq_getElem_cons (by omega)]; simp [List.getD_eq_getElem?_getD, show a < L.length by omega]
  have e2 : L.drop (a + 1) = L.getD (a + 1) [] :: L.drop (a + 2) := by
    rw [List.drop_eq_getElem_cons h]; simp [List.getD_eq_getElem?_getD, h]
  rw [← e2, ← e1, List.take_append_drop]
theorem flat_cut {L : List (List P)} {a : Nat} (h : a < L.length) (f : Nat) : (cutL L a f).flatten = L.flatten := by
  have e := congrArg List.flatten (split_L h)
  rw [e, cutL]
  simp only [List.flatten_append, List.flatten_cons]
  rw [← List.append_assoc ((L.getD a []).take f), List.take_append_drop]
theorem flat_join {L : List (List P)} {a : Nat} (h : a + 1 < L.length) : (joinL L a).flatten = L.flatten := by
  have e := congrArg List.flatten (split_L2 h)
  rw [e, joinL]
  simp only [List.flatten_append, List.flatten_cons, List.append_assoc]
theorem flat_put {L : List (List P)} {a : Nat} (l : List P) : (putL L a l).flatten = (L.take a).flatten ++ l ++ (L.drop (a + 1)).flatten := by
  simp [putL]
/-- a leaf that has one too many -/
def growT (L : List (List P)) (up : List (List Nat)) (a : Nat) : List (List P) × List (List Nat) :=
  (if (L.getD a []).length ≤ 4 then L else cutL L a 2, (grow (sz L) up a).2)
theorem grow_fst (s : List Nat) (up : List (List Nat)) (a : Nat) : (grow s up a).1 = if s.getD a 0 ≤ 4 then s else cut s a 2 := by
  cases up <;> (rw [grow]; split <;> rfl)
theorem growT_sz (L : List (List P)) (up : List (List Nat)) (a : Nat) : sz (growT L up a).1 = (grow (sz L) up a).1 := by
  rw [grow_fst, sz_get, growT]
  dsimp only
  split
  · rfl
  · exact sz_cut L (by omega)
theorem growT_flat {L : List (List P)} {a : Nat} (h : a < L.length) (up : List (List Nat)) : (growT L up a).1.flatten = L.flatten := by
  rw [growT]; dsimp only; split
  · rfl
  · exact flat_cut h 2
/-- a tree of pairs whose order is not looked at -/
def Right (L : List (List P)) (up : List (List Nat)) : Prop :=
  L = [] ∧ up = [] ∨ Lv L.length up ∧ ((∀ x ∈ sz L, 2 ≤ x ∧ x ≤ 4) ∨ sz L = [1])
theorem growT_right {L : List (List P)} {up : List (List Nat)} {a : Nat} (h : a < L.length) (hr : Rest (sz L) a) (h2 : 2 ≤ (L.getD a []).length)
    (h5 : (L.getD a []).length ≤ 5) (hl : Lv L.length up) : Right (growT L up a).1 (growT L up a).2 := by
  rw [← sz_get] at h2 h5
  rw [← sz_len] at h hl
  obtain ⟨r1, r2, r3⟩ := grow_right up (sz L) a h hr h2 h5 hl
  refine .inr ⟨?_, .inl ?_⟩
  · rw [← sz_len, growT_sz]; exact r2
  · rw [growT_sz]; exact r1
/-- a pair more, in one leaf -/
theorem insert_right {L : List (List P)} {up : List (List Nat)} {a : Nat} {l : List P} (h : a < L.length) (hR : Right L up)
    (hl : l.length = (L.getD a []).length + 1) : Right (growT (putL L a l) up a).1 (growT (putL L a l) up a).2 ∧
    (growT (putL L a l) up a).1.flatten = (L.take a).flatten ++ l ++ (L.drop (a + 1)).flatten := by
  have hlen : (putL L a l).length = L.length := by rw [← sz_len, sz_put, put_length (by rw [sz_len]; exact h), sz_len]
  have hget : (putL L a l).getD a [] = l := by
    simp only [putL, List.getD_eq_getElem?_getD]
    rw [List.getElem?_append_right (by simp; omega)]
    simp [show a - min a L.length = 0 by omega]
  refine ⟨?_, by rw [growT_flat (by omega), flat_put]⟩
  rcases hR with ⟨rfl, _⟩ | ⟨hv, hR⟩
  · simp at h
  have ha : a < (sz L).length := by rw [sz_len]; exact h
  have hs := sz_get L a
  rcases hR with hR | hR
  · have := get_all hR ha
    refine growT_right (by omega) ?_ (by rw [hget]; omega) (by rw [hget]; omega) (by rw [hlen]; exact hv)
    rw [sz_put]; exact put_rest ha (all_rest hR a)
  · have h1 : a = 0 := by rw [hR] at ha; simpa using ha
    subst h1
    rw [hR] at hs
    simp only [List.getD_cons_zero] at hs
    refine growT_right (by omega) ?_ (by rw [hget]; omega) (by rw [hget]; omega) (by rw [hlen]; exact hv)
    rw [sz_put]
    refine put_rest ha fun x hx => ?_
    rw [hR] at hx; simp at hx

/-- a leaf that has too few -/
def shrinkL (L : List (List P)) (up : List (List Nat)) (a : Nat) : List (List P) :=
  match up with
  | [] => L
  | u :: us => if 2 ≤ (L.getD a []).length then L else
    if base u (above u a) + u.getD (above u a) 0 = a + 1 then
      if 2 < (L.getD (a - 1) []).length then cutL (joinL L (a - 1)) (a - 1) ((L.getD (a - 1) []).length - 1) else joinL L (a - 1)
    else
      if 2 < (L.getD (a + 1) []).length then cutL (joinL L a) a ((L.getD a []).length + 1) else joinL L a
theorem joinL_get {L : List (List P)} {a : Nat} (h : a + 1 < L.length) : (joinL L a).getD a [] = L.getD a [] ++ L.getD (a + 1) [] := by
  simp only [joinL, List.getD_eq_getElem?_getD]
  rw [List.getElem?_append_right (by simp; omega)]
  simp [show a - min a L.length = 0 by omega]
theorem joinL_len {L : List (List P)} {a : Nat} (h : a + 1 < L.length) : (joinL L a).length + 1 = L.length := by simp [joinL]; omega
theorem shrinkL_is {L : List (List P)} {up : List (List Nat)} {a : Nat} (h : a < L.length) (hl : Lv L.length up) :
    sz (shrinkL L up a) = (shrink (sz L) up a).1 ∧ (shrinkL L up a).flatten = L.flatten := by
  cases up with
  | nil => exact ⟨rfl, rfl⟩
  | cons u us =>
    obtain ⟨l1, l2, l3⟩ := hl
    have hn : above u a < u.length := above_lt (by omega)
    obtain ⟨b1, b2⟩ := above_base (u := u) (a := a) (by omega)
    have b3 := base_le u (above u a)
    have hu := get_all l2 hn
    simp only [shrinkL, shrink, sz_get]
    generalize above u a = n at *
    by_cases h0 : 2 ≤ (L.getD a []).length
    · simp only [if_pos h0]; exact ⟨trivial, trivial⟩
    simp only [if_neg h0]
    by_cases hlast : base u n + u.getD n 0 = a + 1
    · simp only [if_pos hlast]
      have hj : a - 1 + 1 < L.length := by omega
      have hjl := joinL_len hj
      by_cases hs : 2 < (L.getD (a - 1) []).length
      · simp only [if_pos hs]
        refine ⟨?_, by rw [flat_cut (by omega), flat_join hj]⟩
        rw [sz_cut _ (by rw [joinL_get hj, List.length_append]; omega), sz_join]; rfl
      · simp only [if_neg hs]; exact ⟨sz_join _ _, flat_join hj⟩
    · simp only [if_neg hlast]
      have hj : a + 1 < L.length := by omega
      have hjl := joinL_len hj
      by_cases hs : 2 < (L.getD (a + 1) []).length
      · simp only [if_pos hs]
        refine ⟨?_, by rw [flat_cut (by omega), flat_join hj]⟩
        rw [sz_cut _ (by rw [joinL_get hj, List.length_append]; omega), sz_join]; rfl
      · simp only [if_neg hs]; exact ⟨sz_join _ _, flat_join hj⟩
/-- the end: no leaf without pairs -/
def shrinkT (L : List (List P)) (up : List (List Nat)) (a : Nat) : List (List P) × List (List Nat) :=
  if sz (shrinkL L up a) = [0] then ([], []) else (shrinkL L up a, (shrink (sz L) up a).2)
/-- a pair less, in one leaf -/
theorem delete_right {L : List (List P)} {up : List (List Nat)} {a : Nat} {l : List P} (h : a < L.length) (hR : Right L up)
    (hl : l.length + 1 = (L.getD a []).length) : Right (shrinkT (putL L a l) up a).1 (shrinkT (putL L a l) up a).2 ∧
    (shrinkT (putL L a l) up a).1.flatten = (L.take a).flatten ++ l ++ (L.drop (a + 1)).flatten := by
  have ha : a < (sz L).length := by rw [sz_len]; exact h
  have hlen : (putL L a l).length = L.length := by rw [← sz_len, sz_put, put_length ha, sz_len]
  have hget : (putL L a l).getD a [] = l := by
    simp only [putL, List.getD_eq_getElem?_getD]
    rw [List.getElem?_append_right (by simp; omega)]
    simp [show a - min a L.length = 0 by omega]
  rcases hR with ⟨rfl, _⟩ | ⟨hv, hR⟩
  · simp at h
  have hs := sz_get L a
  have hv' : Lv (putL L a l).length up := by rw [hlen]; exact hv
  obtain ⟨i1, i2⟩ := shrinkL_is (L := putL L a l) (a := a) (by omega) hv'
  have flat : (shrinkT (putL L a l) up a).1.flatten = (L.take a).flatten ++ l ++ (L.drop (a + 1)).flatten := by
    rw [← flat_put, ← i2, shrinkT]
    by_cases e : sz (shrinkL (putL L a l) up a) = [0]
    · rw [if_pos e]
      have := sz_sum (shrinkL (putL L a l) up a)
      rw [e] at this
      exact (List.length_eq_zero_iff.mp this.symm).symm
    · rw [if_neg e]
  refine ⟨?_, flat⟩
  rw [shrinkT]
  by_cases e : sz (shrinkL (putL L a l) up a) = [0]
  · rw [if_pos e]; exact .inl ⟨rfl, rfl⟩
  rw [if_neg e]
  have hp : a < (put (sz L) a l.length).length := by rw [put_length ha]; exact ha
  right
  have top : up = [] → Lv (shrinkL (putL L a l) up a).length (shrink (sz (putL L a l)) up a).2 ∧
      ((∀ x ∈ sz (shrinkL (putL L a l) up a), 2 ≤ x ∧ x ≤ 4) ∨ sz (shrinkL (putL L a l) up a) = [1]) := by
    rintro rfl
    have hone : L.length = 1 := hv
    obtain ⟨q, rfl⟩ := List.length_eq_one_iff.mp hone
    have h0 : a = 0 := by simpa using h
    subst h0
    have ep : putL [q] 0 l = [l] := by simp [putL]
    have el : shrinkL (putL [q] 0 l) [] 0 = [l] := by rw [ep]; rfl
    rw [el] at e ⊢
    refine ⟨rfl, ?_⟩
    have hq : q.length ≤ 4 := by
      rcases hR with hR | hR
      · exact (hR q.length (by simp [sz])).2
      · simp [sz] at hR; omega
    have hl' : l.length + 1 = q.length := by simpa using hl
    have hne : l.length ≠ 0 := fun z => e (by simp [sz, z])
    by_cases h1 : l.length = 1
    · right; simp [sz, h1]
    · left; simp only [sz, List.map_cons, List.map_nil, List.mem_singleton, forall_eq]; omega
  by_cases hu : up = []
  · exact top hu
  have hall : ∀ x ∈ sz L, 2 ≤ x ∧ x ≤ 4 := by
    rcases hR with hR | hR
    · exact hR
    · exfalso
      have : L.length = 1 := by rw [← sz_len, hR]; rfl
      rw [this] at hv
      cases up with
      | nil => exact hu rfl
      | cons u us =>
        have hb := sum_bounds hv.2.1
        have := hv.1
        have ht := (tall hv.2.2).1
        have := Nat.two_pow_pos us.length
        omega
  have hg := get_all hall ha
  obtain ⟨r1, r2, r3⟩ := shrink_right up (sz (putL L a l)) a (by rw [sz_put]; exact hp) (by rw [sz_put]; exact put_rest ha (all_rest hall a))
    (by rw [sz_put, put_at ha]; omega) (by rw [sz_put, put_at ha]; omega) (by rw [sz_len]; exact hv')
  refine ⟨by rw [← sz_len, i1]; exact r2, .inl (by rw [i1]; exact r1 hu)⟩
end TR
end Go.Proofs.Ytmemapfboefngaa
set_option linter.unusedVariables false
set_option linter.unusedSimpArgs false
namespace Go.Proofs.Ytmemapfboefngaa
namespace TR
variable {P K : Type}
structure Ord (lt : K → K → Bool) : Prop where
  irrefl : ∀ a, lt a a = false
  trans : ∀ a b c, lt a b = true → lt b c = true → lt a c = true
  total : ∀ a b, a = b ∨ lt a b = true ∨ lt b a = true
variable {lt : K → K → Bool} (key : P → K)
def Up (lt : K → K → Bool) (key : P → K) (l : List P) : Prop := l.Pairwise fun a b => lt (key a) (key b) = true
def find [DecidableEq K] (key : P → K) (k : K) (l : List P) : Option P := l.find? fun p => decide (key p = k)
theorem up_insert {A B : List P} {p : P} (h : Up lt key (A ++ B)) (ha : ∀ x ∈ A, lt (key x) (key p) = true)
    (hb : ∀ x ∈ B, lt (key p) (key x) = true) : Up lt key (A ++ p :: B) := by
  obtain ⟨h1, h2, h3⟩ := List.pairwise_append.mp h
  refine List.pairwise_append.mpr ⟨h1, List.pairwise_cons.mpr ⟨hb, h2⟩, fun x hx y hy => ?_⟩
  rcases List.mem_cons.mp hy with rfl | hy
  · exact ha x hx
  · exact h3 x hx y hy
theorem up_delete {A B : List P} {p : P} (h : Up lt key (A ++ p :: B)) : Up lt key (A ++ B) := by
  obtain ⟨h1, h2, h3⟩ := List.pairwise_append.mp h
  exact List.pairwise_append.mpr ⟨h1, (List.pairwise_cons.mp h2).2, fun x hx y hy => h3 x hx y (by simp [hy])⟩
theorem find_other [DecidableEq K] {A B : List P} {p : P} {k : K} (h : key p ≠ k) : find key k (A ++ p :: B) = find key k (A ++ B) := by
  simp [find, List.find?_append, List.find?_cons, h]
theorem find_none [DecidableEq K] {l : List P} {k : K} (h : ∀ x ∈ l, key x ≠ k) : find key k l = none := by
  simpa [find] using h
theorem find_this [DecidableEq K] {A B : List P} {p : P} (h : ∀ x ∈ A, key x ≠ key p) : find key (key p) (A ++ p :: B) = some p := by
  have : A.find? (fun x => decide (key x = key p)) = none := by simpa using h
  simp [find, List.find?_append, this, List.find?_cons]
theorem lt_ne (o : Ord lt) {a b : K} (h : lt a b = true) : a ≠ b := fun e => by rw [e, o.irrefl] at h; simp at h
/-- who has the same pairs in order is the same -/
theorem up_unique (o : Ord lt) : ∀ {l m : List P}, Up lt key l → Up lt key m → (∀ p, p ∈ l ↔ p ∈ m) → l = m
  | [], [], _, _, _ => rfl
  | [], b :: m, _, _, e => by have := (e b).mpr (by simp); simp at this
  | a :: l, [], _, _, e => by have := (e a).mp (by simp); simp at this
  | a :: l, b :: m, hl, hm, e => by
    obtain ⟨l1, l2⟩ := List.pairwise_cons.mp hl
    obtain ⟨m1, m2⟩ := List.pairwise_cons.mp hm
    have no : ∀ {x y : P}, lt (key x) (key y) = true → lt (key y) (key x) = true → False := fun h g => by
      have := o.trans _ _ _ h g; rw [o.irrefl] at this; simp at this
    have hab : a = b := by
      rcases List.mem_cons.mp ((e a).mp (by simp)) with h | h
      · exact h
      · rcases List.mem_cons.mp ((e b).mpr (by simp)) with g | g
        · exact g.symm
        · exact (no (m1 a h) (l1 b g)).elim
    subst hab
    rw [up_unique o l2 m2 fun p => ?_]
    have ep := e p
    simp only [List.mem_cons] at ep
    constructor
    · intro hp
      rcases ep.mp (.inr hp) with h | h
      · subst h; have := l1 p hp; rw [o.irrefl] at this; simp at this
      · exact h
    · intro hp
      rcases ep.mpr (.inr hp) with h | h
      · subst h; have := m1 p hp; rw [o.irrefl] at this; simp at this
      · exact h
/-- from low to high -/
def range (lt : K → K → Bool) (key : P → K) (low high : K) (l : List P) : List P := l.filter fun p => !lt (key p) low && !lt high (key p)
theorem le_trans' (o : Ord lt) {a b c : K} (h : lt b a = false) (g : lt c b = false) : lt c a = false := by
  cases e : lt c a with
  | false => rfl
  | true =>
    rcases o.total a b with f | f | f
    · subst f; rw [g] at e; simp at e
    · have := o.trans _ _ _ e f; rw [g] at this; simp at this
    · rw [h] at f; simp at f
/-- cut in two behind a key -/
theorem range_parts (o : Ord lt) {low mid high next : K} (hn : ∀ k, lt k next = true ↔ lt mid k = false) (h1 : lt mid low = false) (h2 : lt high mid = false) :
    ∀ {l : List P}, Up lt key l → range lt key low mid l ++ range lt key next high l = range lt key low high l
  | [], _ => rfl
  | p :: l, hl => by
    obtain ⟨l1, l2⟩ := List.pairwise_cons.mp hl
    have ih := range_parts o hn h1 h2 l2
    have hn' : ∀ k, lt k next = !lt mid k := fun k => by
      cases e : lt mid k with
      | false => simpa using (hn k).mpr e
      | true =>
        cases f : lt k next with
        | false => rfl
        | true => rw [(hn k).mp f] at e; simp at e
    simp only [range] at ih ⊢
    by_cases c : lt mid (key p) = true
    · -- it and all behind it are above
      have none_ : ∀ q ∈ l, lt mid (key q) = true := fun q hq => o.trans _ _ _ c (l1 q hq)
      have e1 : List.filter (fun p => !lt (key p) low && !lt mid (key p)) (p :: l) = [] := by
        rw [List.filter_eq_nil_iff]
        intro q hq
        rcases List.mem_cons.mp hq with rfl | hq
        · simp [c]
        · simp [none_ q hq]
      rw [e1, List.nil_append]
      refine List.filter_congr fun q hq => ?_
      have hq' : lt mid (key q) = true := by
        rcases List.mem_cons.mp hq with rfl | hq
        · exact c
        · exact none_ q hq
      have low' : lt (key q) low = false := by
        refine le_trans' o h1 ?_
        cases e : lt (key q) mid with
        | false => rfl
        | true => have := o.trans _ _ _ e hq'; rw [o.irrefl] at this; simp at this
      simp [hn', hq', low']
    · have c' : lt mid (key p) = false := by simpa using c
      have high' : lt high (key p) = false := le_trans' o c' h2
      have drop : List.filter (fun p => !lt (key p) next && !lt high (key p)) (p :: l) = List.filter (fun p => !lt (key p) next && !lt high (key p)) l := by
        rw [List.filter_cons_of_neg]; simp [hn', c']
      rw [drop]
      by_cases d : lt (key p) low = true
      · rw [List.filter_cons_of_neg (by simp [d]), List.filter_cons_of_neg (by simp [d]), ih]
      · have d' : lt (key p) low = false := by simpa using d
        rw [List.filter_cons_of_pos (by simp [d', c']), List.filter_cons_of_pos (by simp [d', high']), List.cons_append, ih]
/-- what is in order is found -/
theorem find_mem [DecidableEq K] (o : Ord lt) {l : List P} (hl : Up lt key l) {p : P} (hp : p ∈ l) : find key (key p) l = some p := by
  obtain ⟨A, B, rfl⟩ := List.append_of_mem hp
  refine find_this key fun x hx => ?_
  have := (List.pairwise_append.mp hl).2.2 x hx p (by simp)
  exact lt_ne o this
end TR
end Go.Proofs.Ytmemapfboefngaa
