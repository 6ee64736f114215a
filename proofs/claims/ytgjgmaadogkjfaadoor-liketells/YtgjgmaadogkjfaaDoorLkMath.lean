/-
  Texts in pieces, patterns, and what a pattern stands for, as plain functions of lists.
-/
import GoSem.Core.Utf8
namespace Go.Proofs.YtgjgmaadogkjfaaDoor
namespace LK

abbrev Bs := List UInt8

/-- is byte i of a text between two? -/
def inr (l : Bs) (i lo hi : Nat) : Bool := match l[i]? with
  | some b => decide (lo ≤ b.toNat) && decide (b.toNat ≤ hi)
  | none => false
def sec3 (l : Bs) : Bool := inr l 0 224 224 && inr l 1 160 191 || inr l 0 225 236 && inr l 1 128 191 || inr l 0 237 237 && inr l 1 128 159 || inr l 0 238 239 && inr l 1 128 191
def sec4 (l : Bs) : Bool := inr l 0 240 240 && inr l 1 144 191 || inr l 0 241 243 && inr l 1 128 191 || inr l 0 244 244 && inr l 1 128 143
/-- how many bytes the first piece has. -/
def sz (l : Bs) : Nat :=
  if inr l 0 194 223 && inr l 1 128 191 then 2
  else if sec3 l && inr l 2 128 191 then 3
  else if sec4 l && inr l 2 128 191 && inr l 3 128 191 then 4 else 1

theorem inr_lt {l : Bs} {i lo hi : Nat} (h : inr l i lo hi = true) : i < l.length := by
  unfold inr at h
  rcases hq : l[i]? with _ | b
  · rw [hq] at h; simp at h
  · exact (List.getElem?_eq_some_iff.1 hq).1
theorem sz_pos (l : Bs) : 1 ≤ sz l := by
  unfold sz
  repeat' split
  all_goals omega
theorem sz_four (l : Bs) : sz l ≤ 4 := by
  unfold sz
  repeat' split
  all_goals omega
theorem sz_len {l : Bs} (h : l ≠ []) : sz l ≤ l.length := by
  have h0 : 1 ≤ l.length := List.length_pos_iff.2 h
  unfold sz
  repeat' split
  · rename_i h1; simp only [Bool.and_eq_true] at h1; have := inr_lt h1.2; omega
  · rename_i h1; simp only [Bool.and_eq_true] at h1; have := inr_lt h1.2; omega
  · rename_i h1; simp only [Bool.and_eq_true] at h1; have := inr_lt h1.2; omega
  · exact h0

/-- the pieces of a text. -/
def pcF : Nat → Bs → List Bs
  | 0, _ => []
  | _ + 1, [] => []
  | f + 1, b :: l => (b :: l).take (sz (b :: l)) :: pcF f ((b :: l).drop (sz (b :: l)))
def pc (l : Bs) : List Bs := pcF l.length l

theorem pcF_eq : ∀ (f g : Nat) (l : Bs), l.length ≤ f → l.length ≤ g → pcF f l = pcF g l
  | 0, 0, _, _, _ => rfl
  | 0, g + 1, [], _, _ => rfl
  | f + 1, 0, [], _, _ => rfl
  | f + 1, g + 1, [], _, _ => rfl
  | 0, g + 1, b :: l, h, _ => by simp at h
  | f + 1, 0, b :: l, _, h => by simp at h
  | f + 1, g + 1, b :: l, hf, hg => by
    have h1 := sz_pos (b :: l)
    simp only [List.length_cons] at hf hg
    unfold pcF
    rw [pcF_eq f g _ (by rw [List.length_drop]; simp only [List.length_cons]; omega) (by rw [List.length_drop]; simp only [List.length_cons]; omega)]
theorem pc_nil : pc [] = [] := rfl
theorem pc_cons {l : Bs} (h : l ≠ []) : pc l = l.take (sz l) :: pc (l.drop (sz l)) := by
  cases l with
  | nil => exact absurd rfl h
  | cons b l =>
    have h1 := sz_pos (b :: l)
    show pcF (l.length + 1) (b :: l) = _
    unfold pcF
    rw [pcF_eq l.length ((b :: l).drop (sz (b :: l))).length _ (by rw [List.length_drop]; simp only [List.length_cons]; omega) (Nat.le_refl _)]
    rfl
theorem pc_ind {Q : Bs → Prop} (h0 : Q []) (h1 : ∀ l, l ≠ [] → Q (l.drop (sz l)) → Q l) (l : Bs) : Q l := by
  obtain ⟨n, hn⟩ : ∃ n, l.length ≤ n := ⟨_, Nat.le_refl _⟩
  induction n generalizing l with
  | zero =>
    have e : l = [] := List.eq_nil_of_length_eq_zero (by omega)
    rw [e]; exact h0
  | succ n ih =>
    by_cases hl : l = []
    · rw [hl]; exact h0
    · refine h1 l hl (ih _ ?_)
      have := sz_pos l
      have := List.length_pos_iff.2 hl
      rw [List.length_drop]; omega
theorem pc_flat (l : Bs) : (pc l).flatten = l := by
  refine pc_ind (Q := fun l => (pc l).flatten = l) rfl (fun l hl ih => ?_) l
  rw [pc_cons hl, List.flatten_cons, ih, List.take_append_drop]
theorem pc_len (l : Bs) : (pc l).length ≤ l.length := by
  refine pc_ind (Q := fun l => (pc l).length ≤ l.length) (by simp [pc_nil]) (fun l hl ih => ?_) l
  rw [pc_cons hl, List.length_cons]
  rw [List.length_drop] at ih
  have := sz_pos l
  have := List.length_pos_iff.2 hl
  omega

/-- a part of a pattern: its kind, and its piece. -/
abbrev Part := Int × Bs
def kd (x : Bs) : Int := match x with
  | [] => 97
  | b :: _ => if b.toNat = 37 then 37 else if b.toNat = 95 then 95 else if b.toNat = 92 then 92 else 97
def kdE (e : Bool) (x : Bs) : Int := if e then 97 else kd x
def step (st : Bool × List Part) (x : Bs) : Bool × List Part := if kdE st.1 x = 92 then (true, st.2) else (false, st.2 ++ [(kdE st.1 x, x)])
/-- whether an escape is open behind pieces, and their parts. -/
def run (l : List Bs) : Bool × List Part := l.foldl step (false, [])
theorem run_nil : run [] = (false, []) := rfl
theorem run_snoc (l : List Bs) (x : Bs) : run (l ++ [x]) = step (run l) x := by simp [run]
theorem run_len (l : List Bs) : (run l).2.length ≤ l.length := by
  have : ∀ (l : List Bs) (st : Bool × List Part), (l.foldl step st).2.length ≤ st.2.length + l.length := by
    intro l
    induction l with
    | nil => intro st; simp
    | cons x l ih =>
      intro st
      have h1 := ih (step st x)
      have h2 : (step st x).2.length ≤ st.2.length + 1 := by unfold step; split <;> simp
      simp only [List.foldl_cons, List.length_cons]
      omega
  simpa [run] using this l (false, [])
def prs : Bool → List Bs → Bool × List Part
  | e, [] => (e, [])
  | e, x :: l => if kdE e x = 92 then prs true l else ((prs false l).1, (kdE e x, x) :: (prs false l).2)
theorem foldl_prs : ∀ (l : List Bs) (e : Bool) (ps : List Part), l.foldl step (e, ps) = ((prs e l).1, ps ++ (prs e l).2)
  | [], e, ps => by simp [prs]
  | x :: l, e, ps => by
    rw [List.foldl_cons]
    by_cases h : kdE e x = 92
    · rw [show step (e, ps) x = (true, ps) by simp [step, h], foldl_prs l true ps]
      simp [prs, h]
    · rw [show step (e, ps) x = (false, ps ++ [(kdE e x, x)]) by simp [step, h], foldl_prs l false _]
      simp [prs, h]
theorem run_eq (l : List Bs) : run l = prs false l := by
  rw [run, foldl_prs]; simp

/-- does one part stand for one piece? -/
def one (p : Part) (x : Bs) : Bool := p.1 == 95 || p.2 == x
def anyTail (f : List Bs → Bool) : List Bs → Bool
  | [] => f []
  | x :: t => f (x :: t) || anyTail f t
/-- do parts stand for all of a text? -/
def mt : List Part → List Bs → Bool
  | [], t => t.isEmpty
  | p :: ps, t => if p.1 = 37 then anyTail (mt ps) t else match t with
    | [] => false
    | x :: t => one p x && mt ps t

theorem anyTail_iff (f : List Bs → Bool) : ∀ t, anyTail f t = true ↔ ∃ i, i ≤ t.length ∧ f (t.drop i) = true
  | [] => by simp [anyTail]
  | x :: t => by
    simp only [anyTail, Bool.or_eq_true, anyTail_iff f t]
    constructor
    · rintro (h | ⟨i, hi, h⟩)
      · exact ⟨0, by simp, by simpa using h⟩
      · exact ⟨i + 1, by simpa using hi, by simpa using h⟩
    · rintro ⟨i, hi, h⟩
      cases i with
      | zero => exact .inl (by simpa using h)
      | succ i => exact .inr ⟨i, by simpa using hi, by simpa using h⟩
theorem mt_star {p : Part} (h : p.1 = 37) (ps : List Part) (t : List Bs) : mt (p :: ps) t = anyTail (mt ps) t := by simp [mt, h]
theorem mt_one {p : Part} (h : p.1 ≠ 37) (ps : List Part) (x : Bs) (t : List Bs) : mt (p :: ps) (x :: t) = (one p x && mt ps t) := by simp [mt, h]
theorem mt_one_nil {p : Part} (h : p.1 ≠ 37) (ps : List Part) : mt (p :: ps) [] = false := by simp [mt, h]
theorem mt_nil : ∀ ps : List Part, mt ps [] = ps.all fun p => p.1 == 37
  | [] => rfl
  | p :: ps => by
    by_cases h : p.1 = 37
    · rw [mt_star h]; simp [anyTail, mt_nil ps, h]
    · rw [mt_one_nil h]; simp [h]
/-- parts that each stand for one piece, ahead of others. -/
theorem mt_seg : ∀ (seg ps : List Part) (t : List Bs), (∀ q ∈ seg, q.1 ≠ 37) → mt (seg ++ ps) t = true → seg.length ≤ t.length ∧ mt ps (t.drop seg.length) = true
  | [], ps, t, _, h => by simpa using h
  | q :: seg, ps, t, hs, h => by
    have hq : q.1 ≠ 37 := hs q (by simp)
    cases t with
    | nil => rw [List.cons_append, mt_one_nil hq] at h; cases h
    | cons x t =>
      rw [List.cons_append, mt_one hq, Bool.and_eq_true] at h
      have := mt_seg seg ps t (fun r hr => hs r (by simp [hr])) h.2
      simpa using this

/-- where the walk along a pattern stands: part p, piece a, the last star that was met, and from where on it was tried. -/
def Inv (P : List Part) (T : List Bs) (R : Bool) (p a : Nat) (last : Int) (u : Nat) : Prop :=
  p ≤ P.length ∧ a ≤ T.length ∧ u ≤ a ∧
   ((last = -1 ∧ R = mt (P.drop p) (T.drop a)) ∨
    (∃ k : Nat, last = k ∧ k < p ∧ p - (k + 1) = a - u ∧ (∀ i q, k + 1 ≤ i → i < p → P[i]? = some q → q.1 ≠ 37) ∧
      R = (mt (P.drop p) (T.drop a) || anyTail (mt (P.drop (k + 1))) (T.drop (u + 1)))))

theorem inv_start (P : List Part) (T : List Bs) : Inv P T (mt P T) 0 0 (-1) 0 := ⟨Nat.zero_le _, Nat.zero_le _, Nat.le_refl _, .inl ⟨rfl, by simp⟩⟩
theorem drop_at {α : Type} {l : List α} {i : Nat} {x : α} (h : l[i]? = some x) : l.drop i = x :: l.drop (i + 1) := by
  obtain ⟨hl, rfl⟩ := List.getElem?_eq_some_iff.1 h
  exact List.drop_eq_getElem_cons hl
theorem lt_of_at {α : Type} {l : List α} {i : Nat} {x : α} (h : l[i]? = some x) : i < l.length := (List.getElem?_eq_some_iff.1 h).1
/-- what an older star could take, a later one can. -/
theorem seg_star {P : List Part} {T : List Bs} {k p a u : Nat} {q : Part} (hp : P[p]? = some q) (hq : q.1 = 37) (hk : k < p) (hd : p - (k + 1) = a - u) (hu : u ≤ a) (ha : a < T.length)
    (hs : ∀ i q, k + 1 ≤ i → i < p → P[i]? = some q → q.1 ≠ 37) (h : anyTail (mt (P.drop (k + 1))) (T.drop (u + 1)) = true) : mt (P.drop p) (T.drop a) = true := by
  obtain ⟨j, hj, hm⟩ := (anyTail_iff _ _).1 h
  have hpl := lt_of_at hp
  have e : P.drop (k + 1) = (P.drop (k + 1)).take (p - (k + 1)) ++ P.drop p := by
    conv => lhs; rw [← List.take_append_drop (p - (k + 1)) (P.drop (k + 1))]
    rw [List.drop_drop, show k + 1 + (p - (k + 1)) = p by omega]
  rw [e] at hm
  have hl : ((P.drop (k + 1)).take (p - (k + 1))).length = p - (k + 1) := by rw [List.length_take, List.length_drop]; omega
  obtain ⟨h1, h2⟩ := mt_seg _ _ _ (by
    intro r hr
    obtain ⟨i, hi⟩ := List.mem_iff_getElem?.1 hr
    rw [List.getElem?_take] at hi
    split at hi
    · rw [List.getElem?_drop] at hi
      exact hs (k + 1 + i) r (by omega) (by omega) hi
    · cases hi) hm
  rw [hl] at h1 h2
  rw [drop_at hp, mt_star hq] at h2 ⊢
  obtain ⟨i, hi, hm2⟩ := (anyTail_iff _ _).1 h2
  rw [List.drop_drop] at hm2
  rw [List.drop_drop, List.drop_drop] at hm2
  have hlen : (List.drop (u + 1) T).length = T.length - (u + 1) := List.length_drop
  rw [List.length_drop, List.length_drop] at hi
  rw [List.length_drop] at h1
  rw [hlen] at hj hi h1
  refine (anyTail_iff _ _).2 ⟨u + 1 + j + (p - (k + 1)) + i - a, ?_, ?_⟩
  · rw [List.length_drop]; omega
  · rw [List.drop_drop]
    rw [show a + (u + 1 + j + (p - (k + 1)) + i - a) = u + 1 + (j + (p - (k + 1) + i)) by omega]
    exact hm2
theorem inv_star {P : List Part} {T : List Bs} {R : Bool} {p a u : Nat} {last : Int} {q : Part} (h : Inv P T R p a last u) (ha : a < T.length) (hp : P[p]? = some q) (hq : q.1 = 37) : Inv P T R (p + 1) a p a := by
  obtain ⟨h1, h2, h3, h4⟩ := h
  have hpl := lt_of_at hp
  obtain ⟨x, hx⟩ : ∃ x, T[a]? = some x := ⟨T[a], List.getElem?_eq_getElem ha⟩
  have key : mt (P.drop p) (T.drop a) = (mt (P.drop (p + 1)) (T.drop a) || anyTail (mt (P.drop (p + 1))) (T.drop (a + 1))) := by
    rw [drop_at hp, mt_star hq, drop_at hx]; rfl
  refine ⟨by omega, h2, Nat.le_refl _, .inr ⟨p, rfl, by omega, by omega, fun i r hi hi' _ => by omega, ?_⟩⟩
  rcases h4 with ⟨_, e⟩ | ⟨k, _, hk, hd, hs, e⟩
  · rw [e, key]
  · rw [e, ← key]
    cases hm : anyTail (mt (P.drop (k + 1))) (T.drop (u + 1)) with
    | false => simp
    | true => rw [seg_star hp hq hk hd h3 ha hs hm]; rfl
theorem inv_one {P : List Part} {T : List Bs} {R : Bool} {p a u : Nat} {last : Int} {q : Part} {x : Bs} (h : Inv P T R p a last u) (hx : T[a]? = some x) (hp : P[p]? = some q) (hq : q.1 ≠ 37) (ho : one q x = true) : Inv P T R (p + 1) (a + 1) last u := by
  obtain ⟨h1, h2, h3, h4⟩ := h
  have hpl := lt_of_at hp
  have hal := lt_of_at hx
  have key : mt (P.drop p) (T.drop a) = mt (P.drop (p + 1)) (T.drop (a + 1)) := by
    rw [drop_at hp, drop_at hx, mt_one hq, ho]; rfl
  refine ⟨by omega, by omega, by omega, ?_⟩
  rcases h4 with ⟨e1, e⟩ | ⟨k, ek, hk, hd, hs, e⟩
  · exact .inl ⟨e1, by rw [e, key]⟩
  · refine .inr ⟨k, ek, by omega, by omega, fun i r hi hi' hr => ?_, by rw [e, key]⟩
    by_cases hip : i = p
    · subst hip; rw [hp] at hr; cases hr; exact hq
    · exact hs i r hi (by omega) hr
/-- nothing goes on here: part p is none, or does not stand for piece a. -/
theorem miss {P : List Part} {T : List Bs} {p a : Nat} {x : Bs} (hx : T[a]? = some x) (hm : P.length ≤ p ∨ ∃ q, P[p]? = some q ∧ q.1 ≠ 37 ∧ one q x = false) : mt (P.drop p) (T.drop a) = false := by
  rcases hm with h | ⟨q, hp, hq, ho⟩
  · rw [List.drop_eq_nil_of_le h, drop_at hx]; rfl
  · rw [drop_at hp, drop_at hx, mt_one hq, ho]; rfl
theorem inv_none {P : List Part} {T : List Bs} {R : Bool} {p a u : Nat} {x : Bs} (h : Inv P T R p a (-1) u) (hx : T[a]? = some x) (hm : P.length ≤ p ∨ ∃ q, P[p]? = some q ∧ q.1 ≠ 37 ∧ one q x = false) : R = false := by
  obtain ⟨h1, h2, h3, h4⟩ := h
  rcases h4 with ⟨_, e⟩ | ⟨k, ek, _⟩
  · rw [e, miss hx hm]
  · omega
theorem inv_back {P : List Part} {T : List Bs} {R : Bool} {p a u k : Nat} {x : Bs} (h : Inv P T R p a k u) (hx : T[a]? = some x) (hm : P.length ≤ p ∨ ∃ q, P[p]? = some q ∧ q.1 ≠ 37 ∧ one q x = false) : Inv P T R (k + 1) (u + 1) k (u + 1) := by
  obtain ⟨h1, h2, h3, h4⟩ := h
  have hal := lt_of_at hx
  rcases h4 with ⟨e1, e⟩ | ⟨k', ek, hk, hd, hs, e⟩
  · omega
  · obtain rfl : k = k' := by omega
    refine ⟨by omega, by omega, Nat.le_refl _, .inr ⟨k, rfl, by omega, by omega, fun i r hi hi' _ => by omega, ?_⟩⟩
    rw [e, miss hx hm, Bool.false_or]
    by_cases hu : u + 1 < T.length
    · obtain ⟨y, hy⟩ : ∃ y, T[u + 1]? = some y := ⟨T[u + 1], List.getElem?_eq_getElem hu⟩
      rw [drop_at hy]; rfl
    · rw [List.drop_eq_nil_of_le (show T.length ≤ u + 1 by omega), List.drop_eq_nil_of_le (show T.length ≤ u + 1 + 1 by omega)]
      simp [anyTail]
theorem inv_end {P : List Part} {T : List Bs} {R : Bool} {p u : Nat} {last : Int} (h : Inv P T R p T.length last u) : R = (P.drop p).all fun q => q.1 == 37 := by
  obtain ⟨h1, h2, h3, h4⟩ := h
  rcases h4 with ⟨_, e⟩ | ⟨k, ek, hk, hd, hs, e⟩
  · rw [e, List.drop_length, mt_nil]
  · rw [e, List.drop_length, mt_nil]
    cases hm : anyTail (mt (P.drop (k + 1))) (T.drop (u + 1)) with
    | false => simp
    | true =>
      rw [Bool.or_true]
      obtain ⟨j, hj, hm2⟩ := (anyTail_iff _ _).1 hm
      rw [List.length_drop] at hj
      have e' : P.drop (k + 1) = (P.drop (k + 1)).take (p - (k + 1)) ++ P.drop p := by
        conv => lhs; rw [← List.take_append_drop (p - (k + 1)) (P.drop (k + 1))]
        rw [List.drop_drop, show k + 1 + (p - (k + 1)) = p by omega]
      have hl : ((P.drop (k + 1)).take (p - (k + 1))).length = p - (k + 1) := by rw [List.length_take, List.length_drop]; omega
      rw [e'] at hm2
      obtain ⟨g1, g2⟩ := mt_seg _ _ _ (by
        intro r hr
        obtain ⟨i, hi⟩ := List.mem_iff_getElem?.1 hr
        rw [List.getElem?_take] at hi
        split at hi
        · rw [List.getElem?_drop] at hi
          exact hs (k + 1 + i) r (by omega) (by omega) hi
        · cases hi) hm2
      rw [hl] at g1 g2
      rw [List.drop_drop, List.length_drop] at g1
      rw [List.drop_drop, List.drop_drop, List.drop_eq_nil_of_le (show T.length ≤ u + 1 + (j + (p - (k + 1))) by omega), mt_nil] at g2
      exact g2.symm
end LK
end Go.Proofs.YtgjgmaadogkjfaaDoor
