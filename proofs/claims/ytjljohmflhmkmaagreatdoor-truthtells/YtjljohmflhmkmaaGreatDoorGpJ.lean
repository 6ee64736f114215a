/-
  What belongs together: RnM, ReH, ReI, ReJ, ReR.
-/
import Derived.Test.YtjljohmflhmkmaaGreatDoorGpG
import Derived.Test.YtjljohmflhmkmaaGreatDoorGpH
namespace Go.Proofs.YtjljohmflhmkmaaGreatDoor
set_option linter.unusedVariables false
set_option linter.unusedSimpArgs false
theorem lt_lto {a b : VM.Vl} (h : VM.chkAll [a, b] = 0) : LG.lt a b = LG.lto a b := by
  unfold LG.lt LG.lto
  rw [LG.cmp_ok h]
theorem sm_smo {a b : VM.Vl} (h : VM.chkAll [a, b] = 0) : LG.sm a b = LG.smo a b := by
  unfold LG.sm LG.smo
  rw [LG.cmp_ok h]
theorem put3_cell {w : World} {B g i : Nat} {x y z : Value} (h : g ≠ B) : (put3 w B x y z).cell? ⟨g, i, none⟩ = w.cell? ⟨g, i, none⟩ := by
  have h1 : ∀ (W : World) (j : Nat) (u : Value), (W.setCell ⟨B, j, none⟩ u).cell? ⟨g, i, none⟩ = W.cell? ⟨g, i, none⟩ := by
    intro W j u
    unfold World.cell? World.setCell
    simp only [Array.getElem?_modify]
    rw [if_neg (Ne.symm h)]
  unfold put3
  rw [h1, h1, h1]
theorem s3_put {w : World} {B g1 g2 g3 i1 i2 i3 : Nat} {x y z p q r : Value} (h : w.cell? ⟨g1, i1, none⟩ = some p ∧ w.cell? ⟨g2, i2, none⟩ = some q ∧ w.cell? ⟨g3, i3, none⟩ = some r) (h1 : g1 ≠ B) (h2 : g2 ≠ B) (h3 : g3 ≠ B) :
    (put3 w B x y z).cell? ⟨g1, i1, none⟩ = some p ∧ (put3 w B x y z).cell? ⟨g2, i2, none⟩ = some q ∧ (put3 w B x y z).cell? ⟨g3, i3, none⟩ = some r :=
  ⟨(put3_cell h1).trans h.1, (put3_cell h2).trans h.2.1, (put3_cell h3).trans h.2.2⟩
theorem pos_add {a b : Nat} (h : 0 < a + b) : (0 : Int) < (a : Int) + (b : Int) := by omega
theorem npos_add {a b : Nat} (h : ¬ 0 < a + b) : ¬ (0 : Int) < (a : Int) + (b : Int) := by omega
theorem pos_one {a : Nat} (h : 0 < a) : (0 : Int) < (a : Int) := by omega
theorem npos_one {a : Nat} (h : ¬ 0 < a) : ¬ (0 : Int) < (a : Int) := by omega
theorem ne_nat {c : Nat} (h : c ≠ 0) : ((c : Int) != 0) = true := by simp; omega
theorem ne_nat' {c : Nat} (h : c ≠ 0) : ¬ ((c : Int) = 0) := by omega
namespace EV
open VM EX
def kN (x : Vl) : Bool := decide (x.k = 0)
def kI (x : Vl) : Bool := decide (x.k = 1)
def kT (x : Vl) : Bool := decide (x.k = 2)
def kB (x : Vl) : Bool := !(kN x || (kI x || kT x))
theorem chk_kind {x : Vl} (h : chk x = 0) : 0 ≤ x.k ∧ x.k ≤ 3 := by
  unfold chk at h
  split at h
  · cases h
  · omega
theorem chk_isn {x : Vl} (h : chk x = 0) : isNul x = kN x := by
  unfold isNul kN
  by_cases hk : x.k = 0
  · unfold chk at h
    split at h
    · cases h
    split at h
    · cases h
    · rename_i h1 h2
      have a1 : x.n = 0 := by
        apply Classical.byContradiction
        intro hn
        exact h2 (Or.inl ⟨hn, by omega⟩)
      have a2 : x.s.size = 0 := by
        apply Classical.byContradiction
        intro hn
        exact h2 (Or.inr ⟨hn, by omega⟩)
      simp [hk, a1, a2]
  · simp [hk]
theorem chk_isT {x : Vl} (h : chk x = 0) : isT x = (kT x || kB x) := by
  have := chk_kind h
  unfold isT kB kN kI kT
  by_cases h2 : x.k = 2
  · simp [h2]
  · by_cases h3 : x.k = 3
    · simp [h3]
    · have : x.k = 0 ∨ x.k = 1 := by omega
      rcases this with e | e <;> simp [e]
theorem chk_bad {x : Vl} (h : chk x = 0) : bad x = (kI x || kB x) := by
  have := chk_kind h
  unfold bad kB kN kI kT
  by_cases h2 : x.k = 1
  · simp [h2]
  · by_cases h3 : x.k = 3
    · simp [h3]
    · have : x.k = 0 ∨ x.k = 2 := by omega
      rcases this with e | e <;> simp [e]
theorem any_two (p q r : Vl → Bool) : ∀ (l : List Vl), (∀ x ∈ l, r x = (p x || q x)) → (l.any r = true ↔ 0 < l.countP p + l.countP q) := by
  intro l h
  constructor
  · intro ha
    obtain ⟨x, hx, hr⟩ := List.any_eq_true.1 ha
    rw [h x hx, Bool.or_eq_true] at hr
    rcases hr with hr | hr
    · have := List.countP_pos_iff.2 ⟨x, hx, hr⟩; omega
    · have := List.countP_pos_iff.2 ⟨x, hx, hr⟩; omega
  · intro hp
    by_cases h1 : 0 < l.countP p
    · obtain ⟨x, hx, hr⟩ := List.countP_pos_iff.1 h1
      exact List.any_eq_true.2 ⟨x, hx, by rw [h x hx, hr]; rfl⟩
    · obtain ⟨x, hx, hr⟩ := List.countP_pos_iff.1 (show 0 < l.countP q by omega)
      exact List.any_eq_true.2 ⟨x, hx, by rw [h x hx, hr, Bool.or_true]⟩
theorem any_text {l : List Vl} (h : ∀ x ∈ l, chk x = 0) : l.any isT = true ↔ 0 < l.countP kT + l.countP kB := any_two _ _ _ l fun x hx => chk_isT (h x hx)
theorem any_bad {l : List Vl} (h : ∀ x ∈ l, chk x = 0) : l.any bad = true ↔ 0 < l.countP kI + l.countP kB := any_two _ _ _ l fun x hx => chk_bad (h x hx)
theorem any_null {l : List Vl} (h : ∀ x ∈ l, chk x = 0) : l.any isNul = true ↔ 0 < l.countP kN := by
  constructor
  · intro ha
    obtain ⟨x, hx, hr⟩ := List.any_eq_true.1 ha
    exact List.countP_pos_iff.2 ⟨x, hx, by rw [← chk_isn (h x hx)]; exact hr⟩
  · intro hp
    obtain ⟨x, hx, hr⟩ := List.countP_pos_iff.1 hp
    exact List.any_eq_true.2 ⟨x, hx, by rw [chk_isn (h x hx)]; exact hr⟩
theorem countP_take (p : Vl → Bool) {l : List Vl} {i : Nat} (h : i < l.length) : (l.take (i + 1)).countP p = (l.take i).countP p + (if p l[i] = true then 1 else 0) := by
  rw [List.take_succ_eq_append_getElem h, List.countP_append]
  simp [List.countP_cons, List.countP_nil]
/-- what the document's askOf tells of right values -/
def ask (op : Int) (l : List Vl) : Int :=
  if op = 10 then LG.smo (l.headD nul) ((l.drop 1).headD nul) else if op = 11 then LG.not (LG.smo (l.headD nul) ((l.drop 1).headD nul))
  else if op = 12 then LG.lto (l.headD nul) ((l.drop 1).headD nul) else if op = 13 then LG.not (LG.lto ((l.drop 1).headD nul) (l.headD nul))
  else if op = 14 then LG.lto ((l.drop 1).headD nul) (l.headD nul) else if op = 15 then LG.not (LG.lto (l.headD nul) ((l.drop 1).headD nul))
  else if op = 18 then (if (l.headD nul).k = 0 then 2 else 0) else if op = 19 then (if (l.headD nul).k = 0 then 0 else 2)
  else if op = 22 then LG.any ((l.drop 1).map (LG.smo (l.headD nul))) else if op = 23 then LG.not (LG.any ((l.drop 1).map (LG.smo (l.headD nul))))
  else if op = 24 then LG.and (LG.not (LG.lto (l.headD nul) ((l.drop 1).headD nul))) (LG.not (LG.lto ((l.drop 2).headD nul) (l.headD nul)))
  else LG.not (LG.and (LG.not (LG.lto (l.headD nul) ((l.drop 1).headD nul))) (LG.not (LG.lto ((l.drop 2).headD nul) (l.headD nul))))
theorem chkAll_of : ∀ {l : List Vl}, (∀ x ∈ l, chk x = 0) → chkAll l = 0
  | [], _ => rfl
  | x :: t, h => by
    unfold chkAll
    rw [if_pos (h x (by simp))]
    exact chkAll_of fun y hy => h y (by simp [hy])
theorem in_ask (x : Vl) : ∀ (l : List Vl), chk x = 0 → (∀ y ∈ l, chk y = 0) → l.map (LG.sm x) = l.map (LG.smo x) := by
  intro l hx h
  apply List.map_congr_left
  intro y hy
  exact sm_smo (chkAll_of (by intro z hz; simp at hz; rcases hz with rfl | rfl; exact hx; exact h _ hy))
theorem cmp_ask {op : Int} {l : List Vl} (ha : Ar op l) (h20 : op ≠ 20) (h21 : op ≠ 21) (hc : ∀ x ∈ l, chk x = 0) : cmp op l = (ask op l, 0) := by
  unfold Ar at ha
  have two : ∀ (x y : Vl), x ∈ l → y ∈ l → chkAll [x, y] = 0 := fun x y hx hy => chkAll_of (by intro z hz; simp at hz; rcases hz with rfl | rfl; exact hc _ hx; exact hc _ hy)
  rcases ha with ⟨h1, h2, hl⟩ | ⟨h1, hl⟩ | ⟨h1, hl⟩ | ⟨h1, hl, hl2⟩ | ⟨h1, hl⟩
  · obtain ⟨x, y, rfl⟩ : ∃ x y, l = [x, y] := by
      match l, hl with
      | [x, y], _ => exact ⟨x, y, rfl⟩
    have c1 := two x y (by simp) (by simp)
    have c2 := two y x (by simp) (by simp)
    have s1 : LG.sm2 x y = LG.smo x y := (if_pos c1).trans (sm_smo c1)
    have s2 : LG.lt2 x y = LG.lto x y := (if_pos c1).trans (lt_lto c1)
    have s3 : LG.lt2 y x = LG.lto y x := (if_pos c2).trans (lt_lto c2)
    have : op = 10 ∨ op = 11 ∨ op = 12 ∨ op = 13 ∨ op = 14 ∨ op = 15 := by omega
    rcases this with rfl | rfl | rfl | rfl | rfl | rfl
    all_goals simp [cmp, cmpP, pl, ask, s1, s2, s3, c1, c2]
  · obtain ⟨x, rfl⟩ : ∃ x, l = [x] := by
      match l, hl with
      | [x], _ => exact ⟨x, rfl⟩
    have hn := chk_isn (hc x (by simp))
    rcases h1 with rfl | rfl
    · by_cases hk : x.k = 0
      · simp [cmp, cmpP, pl, ask, hn, kN, hk]
      · simp [cmp, cmpP, pl, ask, hn, kN, hk]
    · by_cases hk : x.k = 0
      · simp [cmp, cmpP, pl, ask, hn, kN, hk, LG.not]
      · simp [cmp, cmpP, pl, ask, hn, kN, hk, LG.not]
  · omega
  · obtain ⟨x, y, r, rfl⟩ : ∃ x y r, l = x :: y :: r := by
      match l, hl with
      | x :: y :: r, _ => exact ⟨x, y, r, rfl⟩
    have hx := hc x (by simp)
    have hr : ∀ z ∈ y :: r, chk z = 0 := fun z hz => hc z (by simp at hz ⊢; rcases hz with h | h <;> simp [h])
    have he : LG.inErr x (y :: r) = 0 := by
      unfold LG.inErr
      rw [if_neg (by simp at hl2 ⊢; omega), if_neg (by simpa using hx)]
      exact chkAll_of hr
    have hi : LG.in2 x (y :: r) = LG.any ((y :: r).map (LG.smo x)) := by
      unfold LG.in2
      rw [if_pos he]
      unfold LG.inn
      rw [in_ask x _ hx hr]
    rcases h1 with rfl | rfl
    · simp only [cmp, cmpP, pl, ask]
      simp [hi, he]
    · simp only [cmp, cmpP, pl, ask]
      simp [hi, he]
  · obtain ⟨x, y, z, rfl⟩ : ∃ x y z, l = [x, y, z] := by
      match l, hl with
      | [x, y, z], _ => exact ⟨x, y, z, rfl⟩
    have c1 := two x y (by simp) (by simp)
    have c2 := two z x (by simp) (by simp)
    have c3 : chkAll [x, y, z] = 0 := chkAll_of hc
    have hb : LG.bt2 x y z = LG.and (LG.not (LG.lto x y)) (LG.not (LG.lto z x)) := by
      unfold LG.bt2
      rw [if_pos c3]
      unfold LG.bt
      rw [lt_lto c1, lt_lto c2]
    rcases h1 with rfl | rfl
    · simp only [cmp, cmpP, pl, ask]
      simp [hb, c3]
    · simp only [cmp, cmpP, pl, ask]
      simp [hb, c3]
theorem lto_in (a b : Vl) : LG.lto a b = 0 ∨ LG.lto a b = 1 ∨ LG.lto a b = 2 := by
  unfold LG.lto
  split
  · exact .inr (.inl rfl)
  · split
    · exact .inr (.inr rfl)
    · exact .inl rfl
theorem smo_in (a b : Vl) : LG.smo a b = 0 ∨ LG.smo a b = 1 ∨ LG.smo a b = 2 := by
  unfold LG.smo
  split
  · exact .inr (.inl rfl)
  · split
    · exact .inr (.inr rfl)
    · exact .inl rfl
theorem in_ite {c : Prop} [Decidable c] {a b : Int} (ha : a = 0 ∨ a = 1 ∨ a = 2) (hb : b = 0 ∨ b = 1 ∨ b = 2) : (if c then a else b) = 0 ∨ (if c then a else b) = 1 ∨ (if c then a else b) = 2 := by
  by_cases h : c
  · rw [if_pos h]; exact ha
  · rw [if_neg h]; exact hb
theorem ask_in (op : Int) (l : List Vl) : ask op l = 0 ∨ ask op l = 1 ∨ ask op l = 2 :=
  in_ite (smo_in _ _) (in_ite (LG.not_in _) (in_ite (lto_in _ _) (in_ite (LG.not_in _) (in_ite (lto_in _ _) (in_ite (LG.not_in _) (in_ite (in_ite (.inr (.inr rfl)) (.inl rfl)) (in_ite (in_ite (.inl rfl) (.inr (.inr rfl))) (in_ite (LG.any_in _) (in_ite (LG.not_in _) (in_ite (LG.and_in _ _) (LG.not_in _)))))))))))
/-- what the document makes of a truth value -/
def tv (t : Int) : Vl := if t = 1 then nul else ⟨1, t / 2, ⟨#[]⟩⟩
theorem tv_vt {t : Int} (h : t = 0 ∨ t = 1 ∨ t = 2) : tv t = vt t := by rcases h with rfl | rfl | rfl <;> rfl
/-- like, as the document tells it -/
theorem cmp_like {op : Int} {x y : Vl} (hop : op = 20 ∨ op = 21) (hx : chk x = 0) (hy : chk y = 0) :
    tl (cmp op [x, y]) = if 0 < [x, y].countP kI + [x, y].countP kB then .error 7 else if 0 < [x, y].countP kN then .ok nul else if perr y.s ≠ 0 then .error (perr y.s) else .ok (vt (if mtc y.s x.s = decide (op = 20) then 2 else 0)) := by
  have hb := any_bad (l := [x, y]) (by intro z hz; simp at hz; rcases hz with rfl | rfl <;> assumption)
  have hn := any_null (l := [x, y]) (by intro z hz; simp at hz; rcases hz with rfl | rfl <;> assumption)
  have hbi : (bad x = true ∨ bad y = true) ↔ 0 < [x, y].countP kI + [x, y].countP kB := by rw [← hb]; simp
  have hni : (x.k = 0 ∨ y.k = 0) ↔ 0 < [x, y].countP kN := by
    rw [← hn]
    simp only [List.any_cons, List.any_nil, Bool.or_false, Bool.or_eq_true, chk_isn hx, chk_isn hy, kN, decide_eq_true_eq]
  have hs : x.s.size ≤ 16 := by
    unfold chk at hx
    split at hx
    · cases hx
    split at hx
    · cases hx
    split at hx
    · cases hx
    · omega
  have hm : merr y.s x.s = perr y.s := by
    unfold merr
    split
    · rfl
    · rename_i h
      rw [if_neg (by omega)]
      simp at h
      exact h.symm
  have hlk : lk x y = if 0 < [x, y].countP kI + [x, y].countP kB then .error 7 else if 0 < [x, y].countP kN then .ok 1 else if perr y.s ≠ 0 then .error (perr y.s) else .ok (if mtc y.s x.s = true then 2 else 0) := by
    unfold lk
    rw [hm]
    simp only [hbi, hni]
  generalize [x, y].countP kI + [x, y].countP kB = A at *
  generalize [x, y].countP kN = B at *
  generalize perr y.s = P at *
  generalize mtc y.s x.s = M at *
  rcases hop with rfl | rfl
  · have h0 : cmp 20 [x, y] = two_ (lk x y) := by simp [cmp, cmpP, pl]
    rw [h0, hlk]
    unfold tl
    by_cases hA : 0 < A
    · rw [if_pos hA, if_pos hA]; rfl
    rw [if_neg hA, if_neg hA]
    by_cases hB : 0 < B
    · rw [if_pos hB, if_pos hB]; rfl
    rw [if_neg hB, if_neg hB]
    by_cases hP : P ≠ 0
    · rw [if_pos hP, if_pos hP]
      simp [two_, hP]
    · rw [if_neg hP, if_neg hP]
      cases M <;> simp [two_, vt]
  · have h0 : cmp 21 [x, y] = (LG.not (two_ (lk x y)).1, (two_ (lk x y)).2) := by simp [cmp, cmpP, pl]
    rw [h0, hlk]
    unfold tl
    by_cases hA : 0 < A
    · rw [if_pos hA, if_pos hA]; rfl
    rw [if_neg hA, if_neg hA]
    by_cases hB : 0 < B
    · rw [if_pos hB, if_pos hB]; rfl
    rw [if_neg hB, if_neg hB]
    by_cases hP : P ≠ 0
    · rw [if_pos hP, if_pos hP]
      simp [two_, hP]
    · rw [if_neg hP, if_neg hP]
      cases M <;> simp [two_, vt, LG.not]
/-- the truth value of a value that is no text -/
def tz (x : Vl) : Int := if x.k = 0 then 1 else if x.n = 0 then 0 else 2
theorem trs_tz : ∀ {l : List Vl}, l.any isT = false → trs l = .ok (l.map tz)
  | [], _ => rfl
  | x :: r, h => by
    simp only [List.any_cons, Bool.or_eq_false_iff] at h
    have hx : tr x = .ok (tz x) := by
      unfold tr tz
      rw [if_neg (by rw [h.1]; decide)]
      repeat' split
      all_goals first | rfl | contradiction
    simp only [trs, hx, trs_tz h.2, List.map_cons]
theorem trs_bad : ∀ {l : List Vl}, l.any isT = true → trs l = .error 7
  | [], h => by simp at h
  | x :: r, h => by
    simp only [List.any_cons, Bool.or_eq_true] at h
    by_cases hx : isT x = true
    · have : tr x = .error 7 := by unfold tr; rw [if_pos hx]
      simp only [trs, this]
    · have hr : r.any isT = true := by rcases h with h | h; exact absurd h hx; exact h
      cases ht : tr x with
      | error c =>
        unfold tr at ht
        rw [if_neg hx] at ht
        repeat' split at ht
        all_goals cases ht
      | ok t => simp only [trs, ht, trs_bad hr]
theorem tl_jn {op : Int} {l : List Vl} (hop : op = 16 ∨ op = 17 ∨ op = 4) (hc : ∀ x ∈ l, chk x = 0) :
    tl (two_ (jn op l)) = if 0 < l.countP kT + l.countP kB then .error 7 else .ok (vt (if op = 4 then LG.not ((l.map tz).headD 0) else if op = 16 then LG.all (l.map tz) else LG.any (l.map tz))) := by
  have ha := any_text hc
  by_cases h : 0 < l.countP kT + l.countP kB
  · rw [if_pos h]
    unfold jn
    rw [trs_bad (ha.2 h)]
    rfl
  · rw [if_neg h]
    have hf : l.any isT = false := by
      cases hq : l.any isT with
      | false => rfl
      | true => exact absurd (ha.1 hq) h
    unfold jn
    rw [trs_tz hf]
    rcases hop with rfl | rfl | rfl <;> simp [tl, two_]
theorem rck_doc {op : Int} {l : List Vl} (hc : ∀ x ∈ l, chk x = 0) : rck op l = if 0 < l.countP kT + l.countP kB then .error 7 else if 0 < l.countP kN then .ok nul else
    match num op (l.headD nul).n (l.getLastD nul).n with
    | .error c => .error c
    | .ok n => .ok ⟨1, n, ⟨#[]⟩⟩ := by
  unfold rck
  have h1 := any_text hc
  have h2 := any_null hc
  simp only [h1, h2]
  rfl
end EV
end Go.Proofs.YtjljohmflhmkmaaGreatDoor
namespace Go.Proofs.YtjljohmflhmkmaaGreatDoor
open Go.ChangeShapes Go.WideShapes Go.ChangeAt Go.RowKit
set_option linter.unusedVariables false
set_option linter.unusedSimpArgs false
set_option maxRecDepth 100000
set_option maxHeartbeats 2000000

theorem tv_0 (w : World) : Calls Tryz.prog 87 #[.int .i64 0] w fun e w' => e = .returned (.agg #[.int .i64 1, .int .i64 0, .string ⟨#[]⟩]) ∧ Fr w w' := by
  obtain ⟨W0, hW0⟩ : ∃ W0, w.alloc (.cells #[.int .i64 0, .int .i64 0, .string ⟨#[]⟩] 26) = W0 := ⟨_, rfl⟩
  have HB1 := hideP (show Blk W0 w.heap.size #[.int .i64 0, .int .i64 0, .string ⟨#[]⟩] 26 by rw [← hW0]; exact Blk.new w _ _)
  have HF0 := hideP (show Fr w W0 by rw [← hW0]; exact (Fr.refl w).alloc _)
  have v0 := HB1.out.cell 0 rfl
  have v1 := HB1.out.cell 1 rfl
  have v2 := HB1.out.cell 2 rfl
  have y0 := HB1.out.frozen 0
  have y1 := HB1.out.frozen 1
  have y2 := HB1.out.frozen 2
  go_enter Tryz.func87, Tryz.ntmps87
  go_wp2_with fail
  refine bodyPost_ret (v := .agg #[.int .i64 1, .int .i64 0, .string ⟨#[]⟩]) ?_ rfl ⟨rfl, HF0.out.put3 (w.heap.size) (by first | exact Nat.le_refl _ | exact Nat.le_succ _) _ _ _⟩
  obtain ⟨r0, r1, r2⟩ : (put3 W0 (w.heap.size) (.int .i64 1) (.int .i64 0) (.string ⟨#[]⟩)).cell? ⟨w.heap.size, 0, none⟩ = _ ∧ (put3 W0 (w.heap.size) (.int .i64 1) (.int .i64 0) (.string ⟨#[]⟩)).cell? ⟨w.heap.size, 1, none⟩ = _ ∧ (put3 W0 (w.heap.size) (.int .i64 1) (.int .i64 0) (.string ⟨#[]⟩)).cell? ⟨w.heap.size, 2, none⟩ = _ := ⟨(HB1.out.put3 _ _ _).cell 0 rfl, (HB1.out.put3 _ _ _).cell 1 rfl, (HB1.out.put3 _ _ _).cell 2 rfl⟩
  change (results Tryz.f87 _).run Tryz.prog (put3 W0 _ _ _ _) = .ok _ (put3 W0 _ _ _ _)
  simp [results, Tryz.results87, go_sem, r0, r1, r2]
theorem tv_1 (w : World) : Calls Tryz.prog 87 #[.int .i64 1] w fun e w' => e = .returned (.agg #[.int .i64 0, .int .i64 0, .string ⟨#[]⟩]) ∧ Fr w w' := by
  obtain ⟨W0, hW0⟩ : ∃ W0, w.alloc (.cells #[.int .i64 0, .int .i64 0, .string ⟨#[]⟩] 26) = W0 := ⟨_, rfl⟩
  have HB1 := hideP (show Blk W0 w.heap.size #[.int .i64 0, .int .i64 0, .string ⟨#[]⟩] 26 by rw [← hW0]; exact Blk.new w _ _)
  have HF0 := hideP (show Fr w W0 by rw [← hW0]; exact (Fr.refl w).alloc _)
  have v0 := HB1.out.cell 0 rfl
  have v1 := HB1.out.cell 1 rfl
  have v2 := HB1.out.cell 2 rfl
  have y0 := HB1.out.frozen 0
  have y1 := HB1.out.frozen 1
  have y2 := HB1.out.frozen 2
  go_enter Tryz.func87, Tryz.ntmps87
  go_wp2_with fail
  refine bodyPost_ret (v := .agg #[.int .i64 0, .int .i64 0, .string ⟨#[]⟩]) ?_ rfl ⟨rfl, HF0.out.put3 (w.heap.size) (by first | exact Nat.le_refl _ | exact Nat.le_succ _) _ _ _⟩
  obtain ⟨r0, r1, r2⟩ : (put3 W0 (w.heap.size) (.int .i64 0) (.int .i64 0) (.string ⟨#[]⟩)).cell? ⟨w.heap.size, 0, none⟩ = _ ∧ (put3 W0 (w.heap.size) (.int .i64 0) (.int .i64 0) (.string ⟨#[]⟩)).cell? ⟨w.heap.size, 1, none⟩ = _ ∧ (put3 W0 (w.heap.size) (.int .i64 0) (.int .i64 0) (.string ⟨#[]⟩)).cell? ⟨w.heap.size, 2, none⟩ = _ := ⟨(HB1.out.put3 _ _ _).cell 0 rfl, (HB1.out.put3 _ _ _).cell 1 rfl, (HB1.out.put3 _ _ _).cell 2 rfl⟩
  change (results Tryz.f87 _).run Tryz.prog (put3 W0 _ _ _ _) = .ok _ (put3 W0 _ _ _ _)
  simp [results, Tryz.results87, go_sem, r0, r1, r2]
theorem tv_2 (w : World) : Calls Tryz.prog 87 #[.int .i64 2] w fun e w' => e = .returned (.agg #[.int .i64 1, .int .i64 1, .string ⟨#[]⟩]) ∧ Fr w w' := by
  obtain ⟨W0, hW0⟩ : ∃ W0, w.alloc (.cells #[.int .i64 0, .int .i64 0, .string ⟨#[]⟩] 26) = W0 := ⟨_, rfl⟩
  have HB1 := hideP (show Blk W0 w.heap.size #[.int .i64 0, .int .i64 0, .string ⟨#[]⟩] 26 by rw [← hW0]; exact Blk.new w _ _)
  have HF0 := hideP (show Fr w W0 by rw [← hW0]; exact (Fr.refl w).alloc _)
  have v0 := HB1.out.cell 0 rfl
  have v1 := HB1.out.cell 1 rfl
  have v2 := HB1.out.cell 2 rfl
  have y0 := HB1.out.frozen 0
  have y1 := HB1.out.frozen 1
  have y2 := HB1.out.frozen 2
  go_enter Tryz.func87, Tryz.ntmps87
  go_wp2_with fail
  refine bodyPost_ret (v := .agg #[.int .i64 1, .int .i64 1, .string ⟨#[]⟩]) ?_ rfl ⟨rfl, HF0.out.put3 (w.heap.size) (by first | exact Nat.le_refl _ | exact Nat.le_succ _) _ _ _⟩
  obtain ⟨r0, r1, r2⟩ : (put3 W0 (w.heap.size) (.int .i64 1) (.int .i64 1) (.string ⟨#[]⟩)).cell? ⟨w.heap.size, 0, none⟩ = _ ∧ (put3 W0 (w.heap.size) (.int .i64 1) (.int .i64 1) (.string ⟨#[]⟩)).cell? ⟨w.heap.size, 1, none⟩ = _ ∧ (put3 W0 (w.heap.size) (.int .i64 1) (.int .i64 1) (.string ⟨#[]⟩)).cell? ⟨w.heap.size, 2, none⟩ = _ := ⟨(HB1.out.put3 _ _ _).cell 0 rfl, (HB1.out.put3 _ _ _).cell 1 rfl, (HB1.out.put3 _ _ _).cell 2 rfl⟩
  change (results Tryz.f87 _).run Tryz.prog (put3 W0 _ _ _ _) = .ok _ (put3 W0 _ _ _ _)
  simp [results, Tryz.results87, go_sem, r0, r1, r2]
theorem truthValue_any (t : Int) (h : t = 0 ∨ t = 1 ∨ t = 2) (w : World) : Calls Tryz.prog 87 #[.int .i64 t] w fun e w' => e = .returned (vlV (EV.vt t)) ∧ Fr w w' := by
  rcases h with rfl | rfl | rfl
  · exact tv_0 w
  · exact tv_1 w
  · exact tv_2 w
theorem rt_t (w : World) : Calls Tryz.prog 62 #[.bool true] w fun e w' => e = .returned (.int .i64 2) ∧ w' = w := rtruth_any true w
theorem rt_f (w : World) : Calls Tryz.prog 62 #[.bool false] w fun e w' => e = .returned (.int .i64 0) ∧ w' = w := rtruth_any false w
theorem rtruthOf_any (v : VM.Vl) (hk : v.k ≤ 3) (w : World) : Calls Tryz.prog 40 #[vlV v] w fun e w' => e = .returned (exT (EV.tr v)) ∧ Fr w w' := by
  obtain ⟨k, n, s⟩ := v
  simp only [vlV] at *
  by_cases h2 : 2 ≤ k
  · have e : EV.tr ⟨k, n, s⟩ = .error 7 := by
      unfold EV.tr EV.isT
      have : k = 2 ∨ k = 3 := by omega
      rcases this with rfl | rfl <;> rfl
    rw [e]
    go_enter Tryz.func40, Tryz.ntmps40
    go_wp2_with fail
    go_ret2
    exact ⟨rfl, (Fr.refl w).alloc _⟩
  · have hT : EV.isT ⟨k, n, s⟩ = false := by
      unfold EV.isT
      simp
      omega
    have e : EV.tr ⟨k, n, s⟩ = if k = 0 then .ok 1 else if n = 0 then .ok 0 else .ok 2 := by
      unfold EV.tr
      rw [if_neg (by rw [hT]; decide)]
    rw [e]
    clear e hT
    by_cases h0 : k = 0
    · subst h0
      rw [if_pos rfl]
      go_enter Tryz.func40, Tryz.ntmps40
      go_wp2_with fail
      go_ret2
      exact ⟨rfl, (Fr.refl w).alloc _⟩
    · rw [if_neg h0]
      have q0 : (k == 0) = false := by simpa using h0
      by_cases hn : n = 0
      · subst hn
        rw [if_pos rfl]
        go_enter Tryz.func40, Tryz.ntmps40
        go_wp2_with fail
        first | refine (rt_f _).mono ?_ | refine (rt_t _).mono ?_
        rintro _ w2 ⟨rfl, rfl⟩
        go_wp2_with fail
        go_ret2
        exact ⟨rfl, (Fr.refl w).alloc _⟩
      · rw [if_neg hn]
        have qn : (n != 0) = true := by simpa using hn
        go_enter Tryz.func40, Tryz.ntmps40
        go_wp2_with fail
        first | refine (rt_f _).mono ?_ | refine (rt_t _).mono ?_
        rintro _ w2 ⟨rfl, rfl⟩
        go_wp2_with fail
        go_ret2
        exact ⟨rfl, (Fr.refl w).alloc _⟩

theorem two_form {v : Value} (h : (∃ x, v = two x) ∨ (∃ a b, v = divTwo a b) ∨ ∃ a b, v = modTwo a b) : ∃ x y, v = .tuple #[.int .i64 x, .int .i64 y] := by
  rcases h with ⟨x, rfl⟩ | ⟨a, b, rfl⟩ | ⟨a, b, rfl⟩
  · exact ⟨_, _, rfl⟩
  · unfold divTwo; split <;> exact ⟨_, _, rfl⟩
  · unfold modTwo; split <;> exact ⟨_, _, rfl⟩
theorem whole_3 (a b : Int) (w : World) (ha : WH.Ok a) (hb : WH.Ok b) : Calls Tryz.prog 85 #[.int .i64 3, .int .i64 a, .int .i64 b] w fun e w' => e = .returned (two (0 - a)) ∧ w' = w := by
  have hc := hideP (minusOf_any 0 a w ⟨by decide, by decide⟩ ha)
  obtain ⟨x, y, hxy⟩ : ∃ x y, (two (0 - a)) = .tuple #[.int .i64 x, .int .i64 y] := two_form (by first | exact Or.inl ⟨_, rfl⟩ | exact Or.inr (Or.inl ⟨_, _, rfl⟩) | exact Or.inr (Or.inr ⟨_, _, rfl⟩))
  rw [hxy] at hc ⊢
  clear hxy
  go_enter Tryz.func85, Tryz.ntmps85
  go_wp2_with (go_at_call 112; refine hc.out.mono ?_)
  rintro _ w2 ⟨rfl, rfl⟩
  go_wp2_with fail
  go_ret2
  exact ⟨rfl, rfl⟩
theorem whole_5 (a b : Int) (w : World) (ha : WH.Ok a) (hb : WH.Ok b) : Calls Tryz.prog 85 #[.int .i64 5, .int .i64 a, .int .i64 b] w fun e w' => e = .returned (two (a + b)) ∧ w' = w := by
  have hc := hideP (plusOf_any a b w ha hb)
  obtain ⟨x, y, hxy⟩ : ∃ x y, (two (a + b)) = .tuple #[.int .i64 x, .int .i64 y] := two_form (by first | exact Or.inl ⟨_, rfl⟩ | exact Or.inr (Or.inl ⟨_, _, rfl⟩) | exact Or.inr (Or.inr ⟨_, _, rfl⟩))
  rw [hxy] at hc ⊢
  clear hxy
  go_enter Tryz.func85, Tryz.ntmps85
  go_wp2_with (go_at_call 113; refine hc.out.mono ?_)
  rintro _ w2 ⟨rfl, rfl⟩
  go_wp2_with fail
  go_ret2
  exact ⟨rfl, rfl⟩
theorem whole_6 (a b : Int) (w : World) (ha : WH.Ok a) (hb : WH.Ok b) : Calls Tryz.prog 85 #[.int .i64 6, .int .i64 a, .int .i64 b] w fun e w' => e = .returned (two (a - b)) ∧ w' = w := by
  have hc := hideP (minusOf_any a b w ha hb)
  obtain ⟨x, y, hxy⟩ : ∃ x y, (two (a - b)) = .tuple #[.int .i64 x, .int .i64 y] := two_form (by first | exact Or.inl ⟨_, rfl⟩ | exact Or.inr (Or.inl ⟨_, _, rfl⟩) | exact Or.inr (Or.inr ⟨_, _, rfl⟩))
  rw [hxy] at hc ⊢
  clear hxy
  go_enter Tryz.func85, Tryz.ntmps85
  go_wp2_with (go_at_call 112; refine hc.out.mono ?_)
  rintro _ w2 ⟨rfl, rfl⟩
  go_wp2_with fail
  go_ret2
  exact ⟨rfl, rfl⟩
theorem whole_7 (a b : Int) (w : World) (ha : WH.Ok a) (hb : WH.Ok b) : Calls Tryz.prog 85 #[.int .i64 7, .int .i64 a, .int .i64 b] w fun e w' => e = .returned (two (a * b)) ∧ w' = w := by
  have hc := hideP (timesOf_any a b w ha hb)
  obtain ⟨x, y, hxy⟩ : ∃ x y, (two (a * b)) = .tuple #[.int .i64 x, .int .i64 y] := two_form (by first | exact Or.inl ⟨_, rfl⟩ | exact Or.inr (Or.inl ⟨_, _, rfl⟩) | exact Or.inr (Or.inr ⟨_, _, rfl⟩))
  rw [hxy] at hc ⊢
  clear hxy
  go_enter Tryz.func85, Tryz.ntmps85
  go_wp2_with (go_at_call 114; refine hc.out.mono ?_)
  rintro _ w2 ⟨rfl, rfl⟩
  go_wp2_with fail
  go_ret2
  exact ⟨rfl, rfl⟩
theorem whole_8 (a b : Int) (w : World) (ha : WH.Ok a) (hb : WH.Ok b) : Calls Tryz.prog 85 #[.int .i64 8, .int .i64 a, .int .i64 b] w fun e w' => e = .returned (divTwo a b) ∧ w' = w := by
  have hc := hideP (overOf_any a b w ha hb)
  obtain ⟨x, y, hxy⟩ : ∃ x y, (divTwo a b) = .tuple #[.int .i64 x, .int .i64 y] := two_form (by first | exact Or.inl ⟨_, rfl⟩ | exact Or.inr (Or.inl ⟨_, _, rfl⟩) | exact Or.inr (Or.inr ⟨_, _, rfl⟩))
  rw [hxy] at hc ⊢
  clear hxy
  go_enter Tryz.func85, Tryz.ntmps85
  go_wp2_with (go_at_call 115; refine hc.out.mono ?_)
  rintro _ w2 ⟨rfl, rfl⟩
  go_wp2_with fail
  go_ret2
  exact ⟨rfl, rfl⟩
theorem whole_9 (a b : Int) (w : World) (ha : WH.Ok a) (hb : WH.Ok b) : Calls Tryz.prog 85 #[.int .i64 9, .int .i64 a, .int .i64 b] w fun e w' => e = .returned (modTwo a b) ∧ w' = w := by
  have hc := hideP (leftOf_any a b w ha hb)
  obtain ⟨x, y, hxy⟩ : ∃ x y, (modTwo a b) = .tuple #[.int .i64 x, .int .i64 y] := two_form (by first | exact Or.inl ⟨_, rfl⟩ | exact Or.inr (Or.inl ⟨_, _, rfl⟩) | exact Or.inr (Or.inr ⟨_, _, rfl⟩))
  rw [hxy] at hc ⊢
  clear hxy
  go_enter Tryz.func85, Tryz.ntmps85
  go_wp2_with (go_at_call 116; refine hc.out.mono ?_)
  rintro _ w2 ⟨rfl, rfl⟩
  go_wp2_with fail
  go_ret2
  exact ⟨rfl, rfl⟩
theorem wholeOf_any (op a b : Int) (w : World) (hop : op = 3 ∨ op = 5 ∨ op = 6 ∨ op = 7 ∨ op = 8 ∨ op = 9) (ha : WH.Ok a) (hb : WH.Ok b) : Calls Tryz.prog 85 #[.int .i64 op, .int .i64 a, .int .i64 b] w fun e w' => e = .returned (exT (EV.num op a b)) ∧ w' = w := by
  rcases hop with rfl | rfl | rfl | rfl | rfl | rfl
  · have e : exT (EV.num 3 a b) = two (0 - a) := by rw [two_ov]; congr 1; simp [EV.num]
    rw [e]; exact whole_3 a b w ha hb
  · have e : exT (EV.num 5 a b) = two (a + b) := by rw [two_ov]; congr 1
    rw [e]; exact whole_5 a b w ha hb
  · have e : exT (EV.num 6 a b) = two (a - b) := by rw [two_ov]; congr 1
    rw [e]; exact whole_6 a b w ha hb
  · have e : exT (EV.num 7 a b) = two (a * b) := by rw [two_ov]; congr 1
    rw [e]; exact whole_7 a b w ha hb
  · have e : exT (EV.num 8 a b) = divTwo a b := by rw [div_ov]; congr 1
    rw [e]; exact whole_8 a b w ha hb
  · have e : exT (EV.num 9 a b) = modTwo a b := by rw [mod_ov]; congr 1
    rw [e]; exact whole_9 a b w ha hb
end Go.Proofs.YtjljohmflhmkmaaGreatDoor
namespace Go.Proofs.YtjljohmflhmkmaaGreatDoor
open Go.ChangeShapes Go.WideShapes Go.ChangeAt Go.RowKit
set_option linter.unusedVariables false
set_option linter.unusedSimpArgs false
set_option maxRecDepth 100000
set_option maxHeartbeats 2000000
theorem s6_aft {w w' : World} {a b c d e f : Addr} {p q r s t u : Value} (h9 : Fr w w') (h : w.cell? a = some p ∧ w.cell? b = some q ∧ w.cell? c = some r ∧ w.cell? d = some s ∧ w.cell? e = some t ∧ w.cell? f = some u) : w'.cell? a = some p ∧ w'.cell? b = some q ∧ w'.cell? c = some r ∧ w'.cell? d = some s ∧ w'.cell? e = some t ∧ w'.cell? f = some u := by
  obtain ⟨h1, h2, h3, h4, h5, h6⟩ := h
  exact ⟨(Below.cell h9 (World.block_lt_of_cell? _ _ h1)).trans h1, (Below.cell h9 (World.block_lt_of_cell? _ _ h2)).trans h2, (Below.cell h9 (World.block_lt_of_cell? _ _ h3)).trans h3, (Below.cell h9 (World.block_lt_of_cell? _ _ h4)).trans h4, (Below.cell h9 (World.block_lt_of_cell? _ _ h5)).trans h5, (Below.cell h9 (World.block_lt_of_cell? _ _ h6)).trans h6⟩

theorem ask_10 (x y : VM.Vl) (v : Value) (w : World) (h : IsL cdV w v [x, y]) (hxs : x.s.size ≤ maxLen) (hys : y.s.size ≤ maxLen) :
    Calls Tryz.prog 92 #[.int .i64 10, v] w fun e w' => e = .returned (.int .i64 (LG.smo x y)) ∧ Fr w w' := by
  obtain ⟨a, cap, rfl, hcap, hcs⟩ := h
  obtain ⟨b, o, rfl, hb, hat⟩ : ∃ b o, a = some ⟨b, o, none⟩ ∧ b < w.heap.size ∧ At cdV w b o [x, y] := by
    rcases hcs with h | h
    · cases h
    · exact h
  have HS9 := hideP (show w.cell? ⟨b, o, none⟩ = some (.int .i64 x.k) ∧ w.cell? ⟨b, o + 1, none⟩ = some (.int .i64 x.n) ∧ w.cell? ⟨b, o + 2, none⟩ = some (.string x.s) ∧ w.cell? ⟨b, o + 3, none⟩ = some (.int .i64 y.k) ∧ w.cell? ⟨b, o + 4, none⟩ = some (.int .i64 y.n) ∧ w.cell? ⟨b, o + 5, none⟩ = some (.string y.s) from by
    obtain ⟨p0, q0, r0⟩ := hat.v3 0 (by simp)
    obtain ⟨p1, q1, r1⟩ := hat.v3 1 (by simp)
    simp only [List.getElem_cons_zero, List.getElem_cons_succ, Nat.zero_mul, Nat.add_zero, Nat.one_mul, Nat.add_assoc, Nat.reduceAdd, Nat.reduceMul] at p0 q0 r0 p1 q1 r1
    exact ⟨p0, q0, r0, p1, q1, r1⟩)
  have HCn := hideP (fun W => sameOf_any x y W)
  generalize LG.smo x y = R0 at *
  obtain ⟨xk, xn, xs⟩ := x
  obtain ⟨yk, yn, ys⟩ := y
  simp only [VM.Vl.val, vlV, List.length_cons, List.length_nil, Nat.zero_add, Nat.reduceAdd] at *
  clear hat hcs
  have hz := Fr.drew (Fr.refl w)
  go_enter Tryz.func92, Tryz.ntmps92
  go_upto_region 2 with fail
  go_region_held3 (fun W => W.cell? ⟨b, o, none⟩ = some (.int .i64 xk) ∧ W.cell? ⟨b, o + 1, none⟩ = some (.int .i64 xn) ∧ W.cell? ⟨b, o + 2, none⟩ = some (.string xs) ∧ W.cell? ⟨b, o + 3, none⟩ = some (.int .i64 yk) ∧ W.cell? ⟨b, o + 4, none⟩ = some (.int .i64 yn) ∧ W.cell? ⟨b, o + 5, none⟩ = some (.string ys)) (first | exact HS9.out | exact s6_aft hz HS9.out | exact s6_aft hf9 HS9.out) (first
    | (go_at_call 119; refine (HCn.out _).mono ?_; rintro _ w3 ⟨rfl, f3⟩; have hf9 := hz.trans f3; clear f3))
  all_goals (
    go_wp2_with fail
    go_ret
    exact ⟨rfl, hf9⟩)
theorem ask_11 (x y : VM.Vl) (v : Value) (w : World) (h : IsL cdV w v [x, y]) (hxs : x.s.size ≤ maxLen) (hys : y.s.size ≤ maxLen) :
    Calls Tryz.prog 92 #[.int .i64 11, v] w fun e w' => e = .returned (.int .i64 (LG.not (LG.smo x y))) ∧ Fr w w' := by
  obtain ⟨a, cap, rfl, hcap, hcs⟩ := h
  obtain ⟨b, o, rfl, hb, hat⟩ : ∃ b o, a = some ⟨b, o, none⟩ ∧ b < w.heap.size ∧ At cdV w b o [x, y] := by
    rcases hcs with h | h
    · cases h
    · exact h
  have HS9 := hideP (show w.cell? ⟨b, o, none⟩ = some (.int .i64 x.k) ∧ w.cell? ⟨b, o + 1, none⟩ = some (.int .i64 x.n) ∧ w.cell? ⟨b, o + 2, none⟩ = some (.string x.s) ∧ w.cell? ⟨b, o + 3, none⟩ = some (.int .i64 y.k) ∧ w.cell? ⟨b, o + 4, none⟩ = some (.int .i64 y.n) ∧ w.cell? ⟨b, o + 5, none⟩ = some (.string y.s) from by
    obtain ⟨p0, q0, r0⟩ := hat.v3 0 (by simp)
    obtain ⟨p1, q1, r1⟩ := hat.v3 1 (by simp)
    simp only [List.getElem_cons_zero, List.getElem_cons_succ, Nat.zero_mul, Nat.add_zero, Nat.one_mul, Nat.add_assoc, Nat.reduceAdd, Nat.reduceMul] at p0 q0 r0 p1 q1 r1
    exact ⟨p0, q0, r0, p1, q1, r1⟩)
  have HCn := hideP (fun W => sameOf_any x y W)
  generalize LG.smo x y = R0 at *
  obtain ⟨xk, xn, xs⟩ := x
  obtain ⟨yk, yn, ys⟩ := y
  simp only [VM.Vl.val, vlV, List.length_cons, List.length_nil, Nat.zero_add, Nat.reduceAdd] at *
  clear hat hcs
  have hz := Fr.drew (Fr.refl w)
  go_enter Tryz.func92, Tryz.ntmps92
  go_upto_region 4 with fail
  go_region_held3 (fun W => W.cell? ⟨b, o, none⟩ = some (.int .i64 xk) ∧ W.cell? ⟨b, o + 1, none⟩ = some (.int .i64 xn) ∧ W.cell? ⟨b, o + 2, none⟩ = some (.string xs) ∧ W.cell? ⟨b, o + 3, none⟩ = some (.int .i64 yk) ∧ W.cell? ⟨b, o + 4, none⟩ = some (.int .i64 yn) ∧ W.cell? ⟨b, o + 5, none⟩ = some (.string ys)) (first | exact HS9.out | exact s6_aft hz HS9.out | exact s6_aft hf9 HS9.out) (first
    | (go_at_call 119; refine (HCn.out _).mono ?_; rintro _ w3 ⟨rfl, f3⟩; have hf9 := hz.trans f3; clear f3)
    | (go_at_call 89; refine (truthNot_any _ _).mono ?_; rintro _ w4 ⟨rfl, rfl⟩))
  all_goals (
    go_wp2_with fail
    go_ret
    exact ⟨rfl, hf9⟩)
theorem ask_12 (x y : VM.Vl) (v : Value) (w : World) (h : IsL cdV w v [x, y]) (hxs : x.s.size ≤ maxLen) (hys : y.s.size ≤ maxLen) :
    Calls Tryz.prog 92 #[.int .i64 12, v] w fun e w' => e = .returned (.int .i64 (LG.lto x y)) ∧ Fr w w' := by
  obtain ⟨a, cap, rfl, hcap, hcs⟩ := h
  obtain ⟨b, o, rfl, hb, hat⟩ : ∃ b o, a = some ⟨b, o, none⟩ ∧ b < w.heap.size ∧ At cdV w b o [x, y] := by
    rcases hcs with h | h
    · cases h
    · exact h
  have HS9 := hideP (show w.cell? ⟨b, o, none⟩ = some (.int .i64 x.k) ∧ w.cell? ⟨b, o + 1, none⟩ = some (.int .i64 x.n) ∧ w.cell? ⟨b, o + 2, none⟩ = some (.string x.s) ∧ w.cell? ⟨b, o + 3, none⟩ = some (.int .i64 y.k) ∧ w.cell? ⟨b, o + 4, none⟩ = some (.int .i64 y.n) ∧ w.cell? ⟨b, o + 5, none⟩ = some (.string y.s) from by
    obtain ⟨p0, q0, r0⟩ := hat.v3 0 (by simp)
    obtain ⟨p1, q1, r1⟩ := hat.v3 1 (by simp)
    simp only [List.getElem_cons_zero, List.getElem_cons_succ, Nat.zero_mul, Nat.add_zero, Nat.one_mul, Nat.add_assoc, Nat.reduceAdd, Nat.reduceMul] at p0 q0 r0 p1 q1 r1
    exact ⟨p0, q0, r0, p1, q1, r1⟩)
  have HCn := hideP (fun W => lessOf_any x y W hxs hys)
  generalize LG.lto x y = R0 at *
  obtain ⟨xk, xn, xs⟩ := x
  obtain ⟨yk, yn, ys⟩ := y
  simp only [VM.Vl.val, vlV, List.length_cons, List.length_nil, Nat.zero_add, Nat.reduceAdd] at *
  clear hat hcs
  have hz := Fr.drew (Fr.refl w)
  go_enter Tryz.func92, Tryz.ntmps92
  go_upto_region 6 with fail
  go_region_held3 (fun W => W.cell? ⟨b, o, none⟩ = some (.int .i64 xk) ∧ W.cell? ⟨b, o + 1, none⟩ = some (.int .i64 xn) ∧ W.cell? ⟨b, o + 2, none⟩ = some (.string xs) ∧ W.cell? ⟨b, o + 3, none⟩ = some (.int .i64 yk) ∧ W.cell? ⟨b, o + 4, none⟩ = some (.int .i64 yn) ∧ W.cell? ⟨b, o + 5, none⟩ = some (.string ys)) (first | exact HS9.out | exact s6_aft hz HS9.out | exact s6_aft hf9 HS9.out) (first
    | (go_at_call 120; refine (HCn.out _).mono ?_; rintro _ w3 ⟨rfl, f3⟩; have hf9 := hz.trans f3; clear f3))
  all_goals (
    go_wp2_with fail
    go_ret
    exact ⟨rfl, hf9⟩)
theorem ask_13 (x y : VM.Vl) (v : Value) (w : World) (h : IsL cdV w v [x, y]) (hxs : x.s.size ≤ maxLen) (hys : y.s.size ≤ maxLen) :
    Calls Tryz.prog 92 #[.int .i64 13, v] w fun e w' => e = .returned (.int .i64 (LG.not (LG.lto y x))) ∧ Fr w w' := by
  obtain ⟨a, cap, rfl, hcap, hcs⟩ := h
  obtain ⟨b, o, rfl, hb, hat⟩ : ∃ b o, a = some ⟨b, o, none⟩ ∧ b < w.heap.size ∧ At cdV w b o [x, y] := by
    rcases hcs with h | h
    · cases h
    · exact h
  have HS9 := hideP (show w.cell? ⟨b, o, none⟩ = some (.int .i64 x.k) ∧ w.cell? ⟨b, o + 1, none⟩ = some (.int .i64 x.n) ∧ w.cell? ⟨b, o + 2, none⟩ = some (.string x.s) ∧ w.cell? ⟨b, o + 3, none⟩ = some (.int .i64 y.k) ∧ w.cell? ⟨b, o + 4, none⟩ = some (.int .i64 y.n) ∧ w.cell? ⟨b, o + 5, none⟩ = some (.string y.s) from by
    obtain ⟨p0, q0, r0⟩ := hat.v3 0 (by simp)
    obtain ⟨p1, q1, r1⟩ := hat.v3 1 (by simp)
    simp only [List.getElem_cons_zero, List.getElem_cons_succ, Nat.zero_mul, Nat.add_zero, Nat.one_mul, Nat.add_assoc, Nat.reduceAdd, Nat.reduceMul] at p0 q0 r0 p1 q1 r1
    exact ⟨p0, q0, r0, p1, q1, r1⟩)
  have HCn := hideP (fun W => lessOf_any y x W hys hxs)
  generalize LG.lto y x = R0 at *
  obtain ⟨xk, xn, xs⟩ := x
  obtain ⟨yk, yn, ys⟩ := y
  simp only [VM.Vl.val, vlV, List.length_cons, List.length_nil, Nat.zero_add, Nat.reduceAdd] at *
  clear hat hcs
  have hz := Fr.drew (Fr.refl w)
  go_enter Tryz.func92, Tryz.ntmps92
  go_upto_region 8 with fail
  go_region_held3 (fun W => W.cell? ⟨b, o, none⟩ = some (.int .i64 xk) ∧ W.cell? ⟨b, o + 1, none⟩ = some (.int .i64 xn) ∧ W.cell? ⟨b, o + 2, none⟩ = some (.string xs) ∧ W.cell? ⟨b, o + 3, none⟩ = some (.int .i64 yk) ∧ W.cell? ⟨b, o + 4, none⟩ = some (.int .i64 yn) ∧ W.cell? ⟨b, o + 5, none⟩ = some (.string ys)) (first | exact HS9.out | exact s6_aft hz HS9.out | exact s6_aft hf9 HS9.out) (first
    | (go_at_call 120; refine (HCn.out _).mono ?_; rintro _ w3 ⟨rfl, f3⟩; have hf9 := hz.trans f3; clear f3)
    | (go_at_call 89; refine (truthNot_any _ _).mono ?_; rintro _ w4 ⟨rfl, rfl⟩))
  all_goals (
    go_wp2_with fail
    go_ret
    exact ⟨rfl, hf9⟩)
theorem ask_14 (x y : VM.Vl) (v : Value) (w : World) (h : IsL cdV w v [x, y]) (hxs : x.s.size ≤ maxLen) (hys : y.s.size ≤ maxLen) :
    Calls Tryz.prog 92 #[.int .i64 14, v] w fun e w' => e = .returned (.int .i64 (LG.lto y x)) ∧ Fr w w' := by
  obtain ⟨a, cap, rfl, hcap, hcs⟩ := h
  obtain ⟨b, o, rfl, hb, hat⟩ : ∃ b o, a = some ⟨b, o, none⟩ ∧ b < w.heap.size ∧ At cdV w b o [x, y] := by
    rcases hcs with h | h
    · cases h
    · exact h
  have HS9 := hideP (show w.cell? ⟨b, o, none⟩ = some (.int .i64 x.k) ∧ w.cell? ⟨b, o + 1, none⟩ = some (.int .i64 x.n) ∧ w.cell? ⟨b, o + 2, none⟩ = some (.string x.s) ∧ w.cell? ⟨b, o + 3, none⟩ = some (.int .i64 y.k) ∧ w.cell? ⟨b, o + 4, none⟩ = some (.int .i64 y.n) ∧ w.cell? ⟨b, o + 5, none⟩ = some (.string y.s) from by
    obtain ⟨p0, q0, r0⟩ := hat.v3 0 (by simp)
    obtain ⟨p1, q1, r1⟩ := hat.v3 1 (by simp)
    simp only [List.getElem_cons_zero, List.getElem_cons_succ, Nat.zero_mul, Nat.add_zero, Nat.one_mul, Nat.add_assoc, Nat.reduceAdd, Nat.reduceMul] at p0 q0 r0 p1 q1 r1
    exact ⟨p0, q0, r0, p1, q1, r1⟩)
  have HCn := hideP (fun W => lessOf_any y x W hys hxs)
  generalize LG.lto y x = R0 at *
  obtain ⟨xk, xn, xs⟩ := x
  obtain ⟨yk, yn, ys⟩ := y
  simp only [VM.Vl.val, vlV, List.length_cons, List.length_nil, Nat.zero_add, Nat.reduceAdd] at *
  clear hat hcs
  have hz := Fr.drew (Fr.refl w)
  go_enter Tryz.func92, Tryz.ntmps92
  go_upto_region 10 with fail
  go_region_held3 (fun W => W.cell? ⟨b, o, none⟩ = some (.int .i64 xk) ∧ W.cell? ⟨b, o + 1, none⟩ = some (.int .i64 xn) ∧ W.cell? ⟨b, o + 2, none⟩ = some (.string xs) ∧ W.cell? ⟨b, o + 3, none⟩ = some (.int .i64 yk) ∧ W.cell? ⟨b, o + 4, none⟩ = some (.int .i64 yn) ∧ W.cell? ⟨b, o + 5, none⟩ = some (.string ys)) (first | exact HS9.out | exact s6_aft hz HS9.out | exact s6_aft hf9 HS9.out) (first
    | (go_at_call 120; refine (HCn.out _).mono ?_; rintro _ w3 ⟨rfl, f3⟩; have hf9 := hz.trans f3; clear f3))
  all_goals (
    go_wp2_with fail
    go_ret
    exact ⟨rfl, hf9⟩)
theorem ask_15 (x y : VM.Vl) (v : Value) (w : World) (h : IsL cdV w v [x, y]) (hxs : x.s.size ≤ maxLen) (hys : y.s.size ≤ maxLen) :
    Calls Tryz.prog 92 #[.int .i64 15, v] w fun e w' => e = .returned (.int .i64 (LG.not (LG.lto x y))) ∧ Fr w w' := by
  obtain ⟨a, cap, rfl, hcap, hcs⟩ := h
  obtain ⟨b, o, rfl, hb, hat⟩ : ∃ b o, a = some ⟨b, o, none⟩ ∧ b < w.heap.size ∧ At cdV w b o [x, y] := by
    rcases hcs with h | h
    · cases h
    · exact h
  have HS9 := hideP (show w.cell? ⟨b, o, none⟩ = some (.int .i64 x.k) ∧ w.cell? ⟨b, o + 1, none⟩ = some (.int .i64 x.n) ∧ w.cell? ⟨b, o + 2, none⟩ = some (.string x.s) ∧ w.cell? ⟨b, o + 3, none⟩ = some (.int .i64 y.k) ∧ w.cell? ⟨b, o + 4, none⟩ = some (.int .i64 y.n) ∧ w.cell? ⟨b, o + 5, none⟩ = some (.string y.s) from by
    obtain ⟨p0, q0, r0⟩ := hat.v3 0 (by simp)
    obtain ⟨p1, q1, r1⟩ := hat.v3 1 (by simp)
    simp only [List.getElem_cons_zero, List.getElem_cons_succ, Nat.zero_mul, Nat.add_zero, Nat.one_mul, Nat.add_assoc, Nat.reduceAdd, Nat.reduceMul] at p0 q0 r0 p1 q1 r1
    exact ⟨p0, q0, r0, p1, q1, r1⟩)
  have HCn := hideP (fun W => lessOf_any x y W hxs hys)
  generalize LG.lto x y = R0 at *
  obtain ⟨xk, xn, xs⟩ := x
  obtain ⟨yk, yn, ys⟩ := y
  simp only [VM.Vl.val, vlV, List.length_cons, List.length_nil, Nat.zero_add, Nat.reduceAdd] at *
  clear hat hcs
  have hz := Fr.drew (Fr.refl w)
  go_enter Tryz.func92, Tryz.ntmps92
  go_upto_region 12 with fail
  go_region_held3 (fun W => W.cell? ⟨b, o, none⟩ = some (.int .i64 xk) ∧ W.cell? ⟨b, o + 1, none⟩ = some (.int .i64 xn) ∧ W.cell? ⟨b, o + 2, none⟩ = some (.string xs) ∧ W.cell? ⟨b, o + 3, none⟩ = some (.int .i64 yk) ∧ W.cell? ⟨b, o + 4, none⟩ = some (.int .i64 yn) ∧ W.cell? ⟨b, o + 5, none⟩ = some (.string ys)) (first | exact HS9.out | exact s6_aft hz HS9.out | exact s6_aft hf9 HS9.out) (first
    | (go_at_call 120; refine (HCn.out _).mono ?_; rintro _ w3 ⟨rfl, f3⟩; have hf9 := hz.trans f3; clear f3)
    | (go_at_call 89; refine (truthNot_any _ _).mono ?_; rintro _ w4 ⟨rfl, rfl⟩))
  all_goals (
    go_wp2_with fail
    go_ret
    exact ⟨rfl, hf9⟩)
theorem ask_18 (x : VM.Vl) (v : Value) (w : World) (h : IsL cdV w v [x]) :
    Calls Tryz.prog 92 #[.int .i64 18, v] w fun e w' => e = .returned (.int .i64 (if x.k = 0 then 2 else 0)) ∧ Fr w w' := by
  obtain ⟨a, cap, rfl, hcap, hcs⟩ := h
  obtain ⟨b, o, rfl, hb, hat⟩ : ∃ b o, a = some ⟨b, o, none⟩ ∧ b < w.heap.size ∧ At cdV w b o [x] := by
    rcases hcs with h | h
    · cases h
    · exact h
  have p0 : w.cell? ⟨b, o, none⟩ = some (.int .i64 x.k) := by
    have := (hat.v3 0 (by simp)).1
    simpa using this
  generalize x.k = k at *
  simp only [List.length_cons, List.length_nil, Nat.zero_add] at *
  clear hat hcs
  by_cases hk : k = 0
  · subst hk
    rw [if_pos rfl]
    go_enter Tryz.func92, Tryz.ntmps92
    go_wp2_with fail
    first
      | (go_ret
         exact ⟨rfl, Fr.refl _⟩)
      | (first | refine (rt_t _).mono ?_ | refine (rt_f _).mono ?_
         rintro _ w2 ⟨rfl, rfl⟩
         go_wp2_with fail
         go_ret
         exact ⟨rfl, Fr.refl _⟩)
  · rw [if_neg hk]
    have q : (k == 0) = false := by simpa using hk
    clear hk
    go_enter Tryz.func92, Tryz.ntmps92
    go_wp2_with fail
    first
      | (go_ret
         exact ⟨rfl, Fr.refl _⟩)
      | (first | refine (rt_t _).mono ?_ | refine (rt_f _).mono ?_
         rintro _ w2 ⟨rfl, rfl⟩
         go_wp2_with fail
         go_ret
         exact ⟨rfl, Fr.refl _⟩)
theorem ask_19 (x : VM.Vl) (v : Value) (w : World) (h : IsL cdV w v [x]) :
    Calls Tryz.prog 92 #[.int .i64 19, v] w fun e w' => e = .returned (.int .i64 (if x.k = 0 then 0 else 2)) ∧ Fr w w' := by
  obtain ⟨a, cap, rfl, hcap, hcs⟩ := h
  obtain ⟨b, o, rfl, hb, hat⟩ : ∃ b o, a = some ⟨b, o, none⟩ ∧ b < w.heap.size ∧ At cdV w b o [x] := by
    rcases hcs with h | h
    · cases h
    · exact h
  have p0 : w.cell? ⟨b, o, none⟩ = some (.int .i64 x.k) := by
    have := (hat.v3 0 (by simp)).1
    simpa using this
  generalize x.k = k at *
  simp only [List.length_cons, List.length_nil, Nat.zero_add] at *
  clear hat hcs
  by_cases hk : k = 0
  · subst hk
    rw [if_pos rfl]
    go_enter Tryz.func92, Tryz.ntmps92
    go_wp2_with fail
    first
      | (go_ret
         exact ⟨rfl, Fr.refl _⟩)
      | (first | refine (rt_t _).mono ?_ | refine (rt_f _).mono ?_
         rintro _ w2 ⟨rfl, rfl⟩
         go_wp2_with fail
         go_ret
         exact ⟨rfl, Fr.refl _⟩)
  · rw [if_neg hk]
    have q : (k == 0) = false := by simpa using hk
    clear hk
    go_enter Tryz.func92, Tryz.ntmps92
    go_wp2_with fail
    first
      | (go_ret
         exact ⟨rfl, Fr.refl _⟩)
      | (first | refine (rt_t _).mono ?_ | refine (rt_f _).mono ?_
         rintro _ w2 ⟨rfl, rfl⟩
         go_wp2_with fail
         go_ret
         exact ⟨rfl, Fr.refl _⟩)
theorem ask_22 (x : VM.Vl) (r : List VM.Vl) (v : Value) (w : World) (h : IsL cdV w v (x :: r)) (hr : r.length ≤ 40) :
    Calls Tryz.prog 92 #[.int .i64 22, v] w fun e w' => e = .returned (.int .i64 (LG.any (r.map (LG.smo x)))) ∧ Fr w w' := by
  obtain ⟨a, cap, rfl, hcap, hcs⟩ := h
  obtain ⟨b, o, rfl, hb, hat⟩ : ∃ b o, a = some ⟨b, o, none⟩ ∧ b < w.heap.size ∧ At cdV w b o (x :: r) := by
    rcases hcs with h | h
    · cases h
    · exact h
  have HS9 := hideP (show w.cell? ⟨b, o, none⟩ = some (.int .i64 x.k) ∧ w.cell? ⟨b, o + 1, none⟩ = some (.int .i64 x.n) ∧ w.cell? ⟨b, o + 2, none⟩ = some (.string x.s) from by
    have hh := hat.v3 0 (by simp)
    simpa using hh)
  have hIs : ∀ W, Fr w W → IsL cdV W (.slice (if cap = 1 then some ⟨b, o, none⟩ else some ⟨b, o + 3, none⟩) r.length (cap - 1)) r := fun W f => by
    refine ⟨_, cap - 1, rfl, by simp at hcap; omega, ?_⟩
    cases r with
    | nil => exact .inl rfl
    | cons y r' =>
      refine .inr ⟨b, o + 3, by rw [if_neg (by simp at hcap; omega)], Nat.lt_of_lt_of_le hb f.size, fun j u hj => ?_⟩
      have h2 : (flat cdV (x :: y :: r'))[3 + j]? = some u := by
        rw [flat_cons, List.getElem?_append_right (by show 3 ≤ 3 + j; omega)]
        show (flat cdV (y :: r'))[3 + j - 3]? = some u
        rw [show 3 + j - 3 = j by omega]
        exact hj
      have := (hat.fr hb f) (3 + j) u h2
      rwa [← Nat.add_assoc] at this
  have HCn := hideP (fun W (f : Fr w W) => inOf_any x _ r W (row_of (hIs W f)) hr)
  generalize LG.any (r.map (LG.smo x)) = R0 at *
  obtain ⟨xk, xn, xs⟩ := x
  simp only [VM.Vl.val, List.length_cons] at *
  have hc1 : (1 : Int) ≤ (cap : Int) := by omega
  have hc2 : (1 : Int) ≤ (r.length : Int) + 1 := by omega
  have hc3 : (0 : Int) < (r.length : Int) + 1 := by omega
  clear hat hcs hIs
  have hz := Fr.drew (Fr.refl w)
  go_enter Tryz.func92, Tryz.ntmps92
  go_upto_region 16 with fail
  go_region_held3 (fun W => W.cell? ⟨b, o, none⟩ = some (.int .i64 xk) ∧ W.cell? ⟨b, o + 1, none⟩ = some (.int .i64 xn) ∧ W.cell? ⟨b, o + 2, none⟩ = some (.string xs)) (first | exact HS9.out | exact s3_after hz HS9.out | exact s3_after hf9 HS9.out) (first
    | (go_at_call 121; refine (HCn.out _ hz).mono ?_; generalize (if cap = 1 then (some ⟨b, o, none⟩ : Option Addr) else some ⟨b, o + 3, none⟩) = A9; rintro _ w3 ⟨rfl, f3⟩; have hf9 := hz.trans f3; clear f3))
  all_goals (
    go_wp2_with fail
    go_ret
    exact ⟨rfl, hf9⟩)
theorem ask_23 (x : VM.Vl) (r : List VM.Vl) (v : Value) (w : World) (h : IsL cdV w v (x :: r)) (hr : r.length ≤ 40) :
    Calls Tryz.prog 92 #[.int .i64 23, v] w fun e w' => e = .returned (.int .i64 (LG.not (LG.any (r.map (LG.smo x))))) ∧ Fr w w' := by
  obtain ⟨a, cap, rfl, hcap, hcs⟩ := h
  obtain ⟨b, o, rfl, hb, hat⟩ : ∃ b o, a = some ⟨b, o, none⟩ ∧ b < w.heap.size ∧ At cdV w b o (x :: r) := by
    rcases hcs with h | h
    · cases h
    · exact h
  have HS9 := hideP (show w.cell? ⟨b, o, none⟩ = some (.int .i64 x.k) ∧ w.cell? ⟨b, o + 1, none⟩ = some (.int .i64 x.n) ∧ w.cell? ⟨b, o + 2, none⟩ = some (.string x.s) from by
    have hh := hat.v3 0 (by simp)
    simpa using hh)
  have hIs : ∀ W, Fr w W → IsL cdV W (.slice (if cap = 1 then some ⟨b, o, none⟩ else some ⟨b, o + 3, none⟩) r.length (cap - 1)) r := fun W f => by
    refine ⟨_, cap - 1, rfl, by simp at hcap; omega, ?_⟩
    cases r with
    | nil => exact .inl rfl
    | cons y r' =>
      refine .inr ⟨b, o + 3, by rw [if_neg (by simp at hcap; omega)], Nat.lt_of_lt_of_le hb f.size, fun j u hj => ?_⟩
      have h2 : (flat cdV (x :: y :: r'))[3 + j]? = some u := by
        rw [flat_cons, List.getElem?_append_right (by show 3 ≤ 3 + j; omega)]
        show (flat cdV (y :: r'))[3 + j - 3]? = some u
        rw [show 3 + j - 3 = j by omega]
        exact hj
      have := (hat.fr hb f) (3 + j) u h2
      rwa [← Nat.add_assoc] at this
  have HCn := hideP (fun W (f : Fr w W) => inOf_any x _ r W (row_of (hIs W f)) hr)
  generalize LG.any (r.map (LG.smo x)) = R0 at *
  obtain ⟨xk, xn, xs⟩ := x
  simp only [VM.Vl.val, List.length_cons] at *
  have hc1 : (1 : Int) ≤ (cap : Int) := by omega
  have hc2 : (1 : Int) ≤ (r.length : Int) + 1 := by omega
  have hc3 : (0 : Int) < (r.length : Int) + 1 := by omega
  clear hat hcs hIs
  have hz := Fr.drew (Fr.refl w)
  go_enter Tryz.func92, Tryz.ntmps92
  go_upto_region 18 with fail
  go_region_held3 (fun W => W.cell? ⟨b, o, none⟩ = some (.int .i64 xk) ∧ W.cell? ⟨b, o + 1, none⟩ = some (.int .i64 xn) ∧ W.cell? ⟨b, o + 2, none⟩ = some (.string xs)) (first | exact HS9.out | exact s3_after hz HS9.out | exact s3_after hf9 HS9.out) (first
    | (go_at_call 121; refine (HCn.out _ hz).mono ?_; generalize (if cap = 1 then (some ⟨b, o, none⟩ : Option Addr) else some ⟨b, o + 3, none⟩) = A9; rintro _ w3 ⟨rfl, f3⟩; have hf9 := hz.trans f3; clear f3)
    | (go_at_call 89; refine (truthNot_any _ _).mono ?_; rintro _ w4 ⟨rfl, rfl⟩))
  all_goals (
    go_wp2_with fail
    go_ret
    exact ⟨rfl, hf9⟩)
theorem ask_24 (x y z : VM.Vl) (v : Value) (w : World) (h : IsL cdV w v [x, y, z]) (hxs : x.s.size ≤ maxLen) (hys : y.s.size ≤ maxLen) (hzs : z.s.size ≤ maxLen) :
    Calls Tryz.prog 92 #[.int .i64 24, v] w fun e w' => e = .returned (.int .i64 (LG.and (LG.not (LG.lto x y)) (LG.not (LG.lto z x)))) ∧ Fr w w' := by
  obtain ⟨a, cap, rfl, hcap, hcs⟩ := h
  obtain ⟨b, o, rfl, hb, hat⟩ : ∃ b o, a = some ⟨b, o, none⟩ ∧ b < w.heap.size ∧ At cdV w b o [x, y, z] := by
    rcases hcs with h | h
    · cases h
    · exact h
  have HS9 := hideP (show w.cell? ⟨b, o, none⟩ = some (.int .i64 x.k) ∧ w.cell? ⟨b, o + 1, none⟩ = some (.int .i64 x.n) ∧ w.cell? ⟨b, o + 2, none⟩ = some (.string x.s) ∧ w.cell? ⟨b, o + 3, none⟩ = some (.int .i64 y.k) ∧ w.cell? ⟨b, o + 4, none⟩ = some (.int .i64 y.n) ∧ w.cell? ⟨b, o + 5, none⟩ = some (.string y.s) ∧ w.cell? ⟨b, o + 6, none⟩ = some (.int .i64 z.k) ∧ w.cell? ⟨b, o + 7, none⟩ = some (.int .i64 z.n) ∧ w.cell? ⟨b, o + 8, none⟩ = some (.string z.s) from by
    obtain ⟨p0, q0, r0⟩ := hat.v3 0 (by simp)
    obtain ⟨p1, q1, r1⟩ := hat.v3 1 (by simp)
    obtain ⟨p2, q2, r2⟩ := hat.v3 2 (by simp)
    simp only [List.getElem_cons_zero, List.getElem_cons_succ, Nat.zero_mul, Nat.add_zero, Nat.one_mul, Nat.add_assoc, Nat.reduceAdd, Nat.reduceMul] at p0 q0 r0 p1 q1 r1 p2 q2 r2
    exact ⟨p0, q0, r0, p1, q1, r1, p2, q2, r2⟩)
  have HCn := hideP (fun W => betweenOf_any x y z W hxs hys hzs)
  generalize LG.and (LG.not (LG.lto x y)) (LG.not (LG.lto z x)) = R0 at *
  obtain ⟨xk, xn, xs⟩ := x
  obtain ⟨yk, yn, ys⟩ := y
  obtain ⟨zk, zn, zs⟩ := z
  simp only [VM.Vl.val, vlV, List.length_cons, List.length_nil, Nat.zero_add, Nat.reduceAdd] at *
  clear hat hcs
  have hz := Fr.drew (Fr.refl w)
  go_enter Tryz.func92, Tryz.ntmps92
  go_upto_region 20 with fail
  go_region_held3 (fun W => W.cell? ⟨b, o, none⟩ = some (.int .i64 xk) ∧ W.cell? ⟨b, o + 1, none⟩ = some (.int .i64 xn) ∧ W.cell? ⟨b, o + 2, none⟩ = some (.string xs) ∧ W.cell? ⟨b, o + 3, none⟩ = some (.int .i64 yk) ∧ W.cell? ⟨b, o + 4, none⟩ = some (.int .i64 yn) ∧ W.cell? ⟨b, o + 5, none⟩ = some (.string ys) ∧ W.cell? ⟨b, o + 6, none⟩ = some (.int .i64 zk) ∧ W.cell? ⟨b, o + 7, none⟩ = some (.int .i64 zn) ∧ W.cell? ⟨b, o + 8, none⟩ = some (.string zs)) (first | exact HS9.out | exact s9_after hz HS9.out | exact s9_after hf9 HS9.out) (first
    | (go_at_call 122; refine (HCn.out _).mono ?_; rintro _ w3 ⟨rfl, f3⟩; have hf9 := hz.trans f3; clear f3))
  all_goals (
    go_wp2_with fail
    go_ret
    exact ⟨rfl, hf9⟩)
theorem ask_25 (x y z : VM.Vl) (v : Value) (w : World) (h : IsL cdV w v [x, y, z]) (hxs : x.s.size ≤ maxLen) (hys : y.s.size ≤ maxLen) (hzs : z.s.size ≤ maxLen) :
    Calls Tryz.prog 92 #[.int .i64 25, v] w fun e w' => e = .returned (.int .i64 (LG.not (LG.and (LG.not (LG.lto x y)) (LG.not (LG.lto z x))))) ∧ Fr w w' := by
  obtain ⟨a, cap, rfl, hcap, hcs⟩ := h
  obtain ⟨b, o, rfl, hb, hat⟩ : ∃ b o, a = some ⟨b, o, none⟩ ∧ b < w.heap.size ∧ At cdV w b o [x, y, z] := by
    rcases hcs with h | h
    · cases h
    · exact h
  have HS9 := hideP (show w.cell? ⟨b, o, none⟩ = some (.int .i64 x.k) ∧ w.cell? ⟨b, o + 1, none⟩ = some (.int .i64 x.n) ∧ w.cell? ⟨b, o + 2, none⟩ = some (.string x.s) ∧ w.cell? ⟨b, o + 3, none⟩ = some (.int .i64 y.k) ∧ w.cell? ⟨b, o + 4, none⟩ = some (.int .i64 y.n) ∧ w.cell? ⟨b, o + 5, none⟩ = some (.string y.s) ∧ w.cell? ⟨b, o + 6, none⟩ = some (.int .i64 z.k) ∧ w.cell? ⟨b, o + 7, none⟩ = some (.int .i64 z.n) ∧ w.cell? ⟨b, o + 8, none⟩ = some (.string z.s) from by
    obtain ⟨p0, q0, r0⟩ := hat.v3 0 (by simp)
    obtain ⟨p1, q1, r1⟩ := hat.v3 1 (by simp)
    obtain ⟨p2, q2, r2⟩ := hat.v3 2 (by simp)
    simp only [List.getElem_cons_zero, List.getElem_cons_succ, Nat.zero_mul, Nat.add_zero, Nat.one_mul, Nat.add_assoc, Nat.reduceAdd, Nat.reduceMul] at p0 q0 r0 p1 q1 r1 p2 q2 r2
    exact ⟨p0, q0, r0, p1, q1, r1, p2, q2, r2⟩)
  have HCn := hideP (fun W => betweenOf_any x y z W hxs hys hzs)
  generalize LG.and (LG.not (LG.lto x y)) (LG.not (LG.lto z x)) = R0 at *
  obtain ⟨xk, xn, xs⟩ := x
  obtain ⟨yk, yn, ys⟩ := y
  obtain ⟨zk, zn, zs⟩ := z
  simp only [VM.Vl.val, vlV, List.length_cons, List.length_nil, Nat.zero_add, Nat.reduceAdd] at *
  clear hat hcs
  have hz := Fr.drew (Fr.refl w)
  go_enter Tryz.func92, Tryz.ntmps92
  go_upto_region 21 with fail
  go_region_held3 (fun W => W.cell? ⟨b, o, none⟩ = some (.int .i64 xk) ∧ W.cell? ⟨b, o + 1, none⟩ = some (.int .i64 xn) ∧ W.cell? ⟨b, o + 2, none⟩ = some (.string xs) ∧ W.cell? ⟨b, o + 3, none⟩ = some (.int .i64 yk) ∧ W.cell? ⟨b, o + 4, none⟩ = some (.int .i64 yn) ∧ W.cell? ⟨b, o + 5, none⟩ = some (.string ys) ∧ W.cell? ⟨b, o + 6, none⟩ = some (.int .i64 zk) ∧ W.cell? ⟨b, o + 7, none⟩ = some (.int .i64 zn) ∧ W.cell? ⟨b, o + 8, none⟩ = some (.string zs)) (first | exact HS9.out | exact s9_after hz HS9.out | exact s9_after hf9 HS9.out) (first
    | (go_at_call 122; refine (HCn.out _).mono ?_; rintro _ w3 ⟨rfl, f3⟩; have hf9 := hz.trans f3; clear f3)
    | (go_at_call 89; refine (truthNot_any _ _).mono ?_; rintro _ w4 ⟨rfl, rfl⟩))
  all_goals (
    go_wp2_with fail
    go_ret
    exact ⟨rfl, hf9⟩)
theorem askOf_any (op : Int) (l : List VM.Vl) (v : Value) (w : World) (h : IsL cdV w v l) (ha : EV.Ar op l) (h20 : op ≠ 20) (h21 : op ≠ 21) (hs : ∀ x ∈ l, x.s.size ≤ maxLen) :
    Calls Tryz.prog 92 #[.int .i64 op, v] w fun e w' => e = .returned (.int .i64 (EV.ask op l)) ∧ Fr w w' := by
  unfold EV.Ar at ha
  rcases ha with ⟨h1, h2, hl⟩ | ⟨h1, hl⟩ | ⟨h1, hl⟩ | ⟨h1, hl, hl2⟩ | ⟨h1, hl⟩
  · obtain ⟨x, y, rfl⟩ : ∃ x y, l = [x, y] := by
      match l, hl with
      | [x, y], _ => exact ⟨x, y, rfl⟩
    have hx := hs x (by simp)
    have hy := hs y (by simp)
    have : op = 10 ∨ op = 11 ∨ op = 12 ∨ op = 13 ∨ op = 14 ∨ op = 15 := by omega
    rcases this with rfl | rfl | rfl | rfl | rfl | rfl
    · exact ask_10 x y v w h hx hy
    · exact ask_11 x y v w h hx hy
    · exact ask_12 x y v w h hx hy
    · exact ask_13 x y v w h hx hy
    · exact ask_14 x y v w h hx hy
    · exact ask_15 x y v w h hx hy
  · obtain ⟨x, rfl⟩ : ∃ x, l = [x] := by
      match l, hl with
      | [x], _ => exact ⟨x, rfl⟩
    rcases h1 with rfl | rfl
    · exact ask_18 x v w h
    · exact ask_19 x v w h
  · omega
  · obtain ⟨x, r, rfl⟩ : ∃ x r, l = x :: r := by
      match l, hl with
      | x :: r, _ => exact ⟨x, r, rfl⟩
    have hr : r.length ≤ 40 := by simp at hl2; omega
    rcases h1 with rfl | rfl
    · exact ask_22 x r v w h hr
    · exact ask_23 x r v w h hr
  · obtain ⟨x, y, z, rfl⟩ : ∃ x y z, l = [x, y, z] := by
      match l, hl with
      | [x, y, z], _ => exact ⟨x, y, z, rfl⟩
    have hx := hs x (by simp)
    have hy := hs y (by simp)
    have hz := hs z (by simp)
    rcases h1 with rfl | rfl
    · exact ask_24 x y z v w h hx hy hz
    · exact ask_25 x y z v w h hx hy hz
end Go.Proofs.YtjljohmflhmkmaaGreatDoor
namespace Go.Proofs.YtjljohmflhmkmaaGreatDoor
open Go.ChangeShapes Go.WideShapes Go.ChangeAt Go.RowKit
set_option linter.unusedVariables false
set_option linter.unusedSimpArgs false
set_option maxRecDepth 100000
set_option maxHeartbeats 4000000

theorem nodeOf_lit (kids vk vn : Int) (vs nm : ByteArray) (kv cv rv : Value) (w : World) : Calls Tryz.prog 60 #[.agg #[.int .i64 1, .int .i64 kids, .int .i64 vk, .int .i64 vn, .string vs, .string nm], kv, cv, rv] w fun e w' => e = .returned (.tuple #[.agg #[.int .i64 vk, .int .i64 vn, .string vs], .int .i64 0]) ∧ Fr w w' := by
  obtain ⟨W0, hW0⟩ : ∃ W0, (w.alloc (.cells #[.int .i64 1, .int .i64 kids, .int .i64 vk, .int .i64 vn, .string vs, .string nm] 38)).alloc (.cells #[.int .i64 0, .int .i64 0, .string ⟨#[]⟩] 26) = W0 := ⟨_, rfl⟩
  have HN := hideP (show Blk W0 w.heap.size #[.int .i64 1, .int .i64 kids, .int .i64 vk, .int .i64 vn, .string vs, .string nm] 38 by rw [← hW0]; exact (Blk.new w _ _).old _)
  have HB1 := hideP (show Blk W0 (w.heap.size + 1) #[.int .i64 0, .int .i64 0, .string ⟨#[]⟩] 26 by rw [← hW0]; have := Blk.new (w.alloc (.cells #[.int .i64 1, .int .i64 kids, .int .i64 vk, .int .i64 vn, .string vs, .string nm] 38)) #[.int .i64 0, .int .i64 0, .string ⟨#[]⟩] 26; simpa using this)
  have HF0 := hideP (show Fr w W0 by rw [← hW0]; exact ((Fr.refl w).alloc _).alloc _)
  have hle0 := Fr.size HF0.out
  have u0 := HN.out.cell 0 rfl
  have u1 := HN.out.cell 1 rfl
  have u2 := HN.out.cell 2 rfl
  have u3 := HN.out.cell 3 rfl
  have u4 := HN.out.cell 4 rfl
  have u5 := HN.out.cell 5 rfl
  have v0 := HB1.out.cell 0 rfl
  have v1 := HB1.out.cell 1 rfl
  have v2 := HB1.out.cell 2 rfl
  have y0 := HB1.out.frozen 0
  have y1 := HB1.out.frozen 1
  have y2 := HB1.out.frozen 2
  go_enter Tryz.func60, Tryz.ntmps60
  go_wp2_with fail
  refine bodyPost_ret (v := .tuple #[.agg #[.int .i64 vk, .int .i64 vn, .string vs], .int .i64 0]) ?_ rfl ⟨rfl, HF0.out.put3 (w.heap.size + 1) (by first | exact Nat.le_refl _ | exact Nat.le_succ _) _ _ _⟩
  obtain ⟨r0, r1, r2⟩ : (put3 W0 (w.heap.size + 1) (.int .i64 vk) (.int .i64 vn) (.string vs)).cell? ⟨w.heap.size + 1, 0, none⟩ = _ ∧ (put3 W0 (w.heap.size + 1) (.int .i64 vk) (.int .i64 vn) (.string vs)).cell? ⟨w.heap.size + 1, 1, none⟩ = _ ∧ (put3 W0 (w.heap.size + 1) (.int .i64 vk) (.int .i64 vn) (.string vs)).cell? ⟨w.heap.size + 1, 2, none⟩ = _ := ⟨(HB1.out.put3 _ _ _).cell 0 rfl, (HB1.out.put3 _ _ _).cell 1 rfl, (HB1.out.put3 _ _ _).cell 2 rfl⟩
  change (results Tryz.f60 _).run Tryz.prog (put3 W0 _ _ _ _) = .ok _ (put3 W0 _ _ _ _)
  simp [results, Tryz.results60, go_sem, r0, r1, r2]
theorem nodeOf_col (kids vk vn : Int) (vs nm : ByteArray) (kv cv rv : Value) (cs : List ByteArray) (l : List VM.Vl) (w : World) (hc : IsL cdB w cv cs) (hr : IsL cdV w rv l) (hl : cs.length ≤ 8) (hlen : cs.length = l.length) :
    Calls Tryz.prog 60 #[.agg #[.int .i64 2, .int .i64 kids, .int .i64 vk, .int .i64 vn, .string vs, .string nm], kv, cv, rv] w fun e w' => e = .returned (exV (match EV.fnd (cs.zip l) nm.data.toList with | some y => .ok y | none => .error 5)) ∧ Fr w w' := by
  obtain ⟨W0, hW0⟩ : ∃ W0, (w.alloc (.cells #[.int .i64 2, .int .i64 kids, .int .i64 vk, .int .i64 vn, .string vs, .string nm] 38)).alloc (.cells #[.int .i64 0, .int .i64 0, .string ⟨#[]⟩] 26) = W0 := ⟨_, rfl⟩
  have HN := hideP (show Blk W0 w.heap.size #[.int .i64 2, .int .i64 kids, .int .i64 vk, .int .i64 vn, .string vs, .string nm] 38 by rw [← hW0]; exact (Blk.new w _ _).old _)
  have HB1 := hideP (show Blk W0 (w.heap.size + 1) #[.int .i64 0, .int .i64 0, .string ⟨#[]⟩] 26 by rw [← hW0]; have := Blk.new (w.alloc (.cells #[.int .i64 2, .int .i64 kids, .int .i64 vk, .int .i64 vn, .string vs, .string nm] 38)) #[.int .i64 0, .int .i64 0, .string ⟨#[]⟩] 26; simpa using this)
  have HF0 := hideP (show Fr w W0 by rw [← hW0]; exact ((Fr.refl w).alloc _).alloc _)
  have hle0 := Fr.size HF0.out
  have u0 := HN.out.cell 0 rfl
  have u1 := HN.out.cell 1 rfl
  have u2 := HN.out.cell 2 rfl
  have u3 := HN.out.cell 3 rfl
  have u4 := HN.out.cell 4 rfl
  have u5 := HN.out.cell 5 rfl
  have HC := hideP (hc.fr HF0.out)
  have HRw := hideP (hr.fr HF0.out)
  obtain ⟨R, hR⟩ : ∃ R, exV (match EV.fnd (cs.zip l) nm.data.toList with | some y => .ok y | none => .error 5) = R := ⟨_, rfl⟩
  rw [hR]
  obtain ⟨a, cap, rfl, hcap, hcs⟩ := HC.out
  obtain ⟨a', cap', rfl, hcap', hcs'⟩ := HRw.out
  have HC1 := hideP hcs
  have HC2 := hideP hcs'
  have HRe := hideP hR
  clear hc hr hcs hcs' HC HRw hR
  go_enter Tryz.func60, Tryz.ntmps60
  go_wp2_with fail
  clear u0 u1 u2 u3 u4 u5
  go_loopw [10] (fun iv wr => ∃ i : Nat, iv = .int .i64 i ∧ i ≤ cs.length ∧ EV.fnd (cs.zip l) nm.data.toList = EV.fnd ((cs.drop i).zip (l.drop i)) nm.data.toList ∧ Fr W0 wr) (fun iv _ => cs.length - (intOf iv).toNat)
  case atStart => exact ⟨0, rfl, Nat.zero_le _, rfl, Fr.refl _⟩
  case round =>
    obtain ⟨i, rfl, hi, hf, hfr⟩ := hrel
    have HFr := hideP (hfr.drew)
    by_cases hlt : i < cs.length
    · have hlt' : (i : Int) < (cs.length : Int) := by omega
      have hlt2 : i < l.length := by omega
      have hlt3 : (i : Int) < (l.length : Int) := by omega
      obtain ⟨b, o, rfl, hb, hat⟩ : ∃ b o, a = some ⟨b, o, none⟩ ∧ b < W0.heap.size ∧ At cdB W0 b o cs := by
        rcases HC1.out with h | h
        · rw [h] at hlt; simp at hlt
        · exact h
      obtain ⟨b', o', rfl, hb', hat'⟩ : ∃ b o, a' = some ⟨b, o, none⟩ ∧ b < W0.heap.size ∧ At cdV W0 b o l := by
        rcases HC2.out with h | h
        · rw [h] at hlt2; simp at hlt2
        · exact h
      have d0 := (hat.fr hb hfr).b1 i hlt
      have u5 := (HN.out.fr hfr).cell 5 rfl
      have HE := hideP ((hat'.fr hb' HFr.out).v3 i hlt2)
      rw [List.drop_eq_getElem_cons hlt, List.drop_eq_getElem_cons hlt2, List.zip_cons_cons] at hf
      by_cases hq : cs[i] = nm
      · have hz : EV.fnd (cs.zip l) nm.data.toList = some l[i] := by
          rw [hf]
          unfold EV.fnd
          rw [List.find?_cons_of_pos (by simp [hq])]
          rfl
        have HZ := hideP hz
        rw [hq] at d0
        clear hf hz hat hat' hq hfr
        go_upto_region 7 with fail
        go_region
        all_goals (
          have HB2 := hideP (HB1.out.fr HFr.out)
          have HF2 := hideP (HF0.out.trans HFr.out)
          obtain ⟨e0, e1, e2⟩ := HE.out
          generalize wr.drew = w5 at *
          have v0 := HB2.out.cell 0 rfl
          have v1 := HB2.out.cell 1 rfl
          have v2 := HB2.out.cell 2 rfl
          have y0 := HB2.out.frozen 0
          have y1 := HB2.out.frozen 1
          have y2 := HB2.out.frozen 2
          go_wp2_with fail
          refine bodyPost_ret (v := .tuple #[.agg #[.int .i64 l[i].k, .int .i64 l[i].n, .string l[i].s], .int .i64 0]) ?_ rfl ⟨by rw [← HRe.out, HZ.out]; rfl, HF2.out.put3 (w.heap.size + 1) (by first | exact Nat.le_refl _ | exact Nat.le_succ _) _ _ _⟩
          obtain ⟨r0, r1, r2⟩ : (put3 w5 (w.heap.size + 1) (.int .i64 l[i].k) (.int .i64 l[i].n) (.string l[i].s)).cell? ⟨w.heap.size + 1, 0, none⟩ = _ ∧ (put3 w5 (w.heap.size + 1) (.int .i64 l[i].k) (.int .i64 l[i].n) (.string l[i].s)).cell? ⟨w.heap.size + 1, 1, none⟩ = _ ∧ (put3 w5 (w.heap.size + 1) (.int .i64 l[i].k) (.int .i64 l[i].n) (.string l[i].s)).cell? ⟨w.heap.size + 1, 2, none⟩ = _ := ⟨(HB2.out.put3 _ _ _).cell 0 rfl, (HB2.out.put3 _ _ _).cell 1 rfl, (HB2.out.put3 _ _ _).cell 2 rfl⟩
          change (results Tryz.f60 _).run Tryz.prog (put3 w5 _ _ _ _) = .ok _ (put3 w5 _ _ _ _)
          simp [results, Tryz.results60, go_sem, r0, r1, r2])
      · have hz : EV.fnd (cs.zip l) nm.data.toList = EV.fnd ((cs.drop (i + 1)).zip (l.drop (i + 1))) nm.data.toList := by
          rw [hf]
          unfold EV.fnd
          rw [List.find?_cons_of_neg (by
            simp only [decide_eq_true_eq]
            intro h
            apply hq
            cases hA : cs[i]
            cases hB : nm
            rw [hA, hB] at h
            simp only at h
            rw [Array.toList_inj.1 h])]
        have HZ := hideP hz
        have q2 : ¬ cs[i].toList = nm.toList := by
          rw [ByteArray.toList_eq, ByteArray.toList_eq]
          intro h
          apply hq
          cases hA : cs[i]
          cases hB : nm
          rw [hA, hB] at h
          simp only at h
          rw [Array.toList_inj.1 h]
        have q1 : (cs[i].toList == nm.toList) = false := by simpa using q2
        clear hf hz hat hat' hq hfr
        generalize cs[i] = ci at *
        go_upto_region 7 with fail
        go_region
        all_goals (
          go_wp2_with fail
          go_roundw
          case rel => exact ⟨i + 1, by go_num, by omega, HZ.out, HFr.out⟩
          case measure => simp [intOf]; omega)
    · obtain rfl : i = cs.length := by omega
      have hlt' : ((cs.length : Int) < (cs.length : Int)) = False := by simp
      have hz : EV.fnd (cs.zip l) nm.data.toList = none := by
        rw [hf, List.drop_length]
        rfl
      have HZ := hideP hz
      have HB2 := hideP (HB1.out.fr hfr)
      have HF2 := hideP (HF0.out.trans hfr)
      clear hf hz hfr
      have v0 := HB2.out.cell 0 rfl
      have v1 := HB2.out.cell 1 rfl
      have v2 := HB2.out.cell 2 rfl
      have y0 := HB2.out.frozen 0
      have y1 := HB2.out.frozen 1
      have y2 := HB2.out.frozen 2
      go_wp2_with fail
      refine bodyPost_ret (v := .tuple #[.agg #[.int .i64 0, .int .i64 0, .string ⟨#[]⟩], .int .i64 5]) ?_ rfl ⟨by rw [← HRe.out, HZ.out]; rfl, HF2.out.put3 (w.heap.size + 1) (by first | exact Nat.le_refl _ | exact Nat.le_succ _) _ _ _⟩
      obtain ⟨r0, r1, r2⟩ : (put3 wr (w.heap.size + 1) (.int .i64 0) (.int .i64 0) (.string ⟨#[]⟩)).cell? ⟨w.heap.size + 1, 0, none⟩ = _ ∧ (put3 wr (w.heap.size + 1) (.int .i64 0) (.int .i64 0) (.string ⟨#[]⟩)).cell? ⟨w.heap.size + 1, 1, none⟩ = _ ∧ (put3 wr (w.heap.size + 1) (.int .i64 0) (.int .i64 0) (.string ⟨#[]⟩)).cell? ⟨w.heap.size + 1, 2, none⟩ = _ := ⟨(HB2.out.put3 _ _ _).cell 0 rfl, (HB2.out.put3 _ _ _).cell 1 rfl, (HB2.out.put3 _ _ _).cell 2 rfl⟩
      change (results Tryz.f60 _).run Tryz.prog (put3 wr _ _ _ _) = .ok _ (put3 wr _ _ _ _)
      simp [results, Tryz.results60, go_sem, r0, r1, r2]
end Go.Proofs.YtjljohmflhmkmaaGreatDoor
namespace Go.Proofs.YtjljohmflhmkmaaGreatDoor
open Go.ChangeShapes Go.WideShapes Go.ChangeAt Go.RowKit
set_option linter.unusedVariables false
set_option linter.unusedSimpArgs false
set_option maxRecDepth 100000
set_option maxHeartbeats 4000000

theorem nodeOf_ask (op kids vk vn : Int) (vs nm : ByteArray) (l : List VM.Vl) (kv cv rv : Value) (w : World) (R : Except Nat VM.Vl) (hop : (10 ≤ op ∧ op ≤ 15) ∨ op = 18 ∨ op = 19 ∨ (22 ≤ op ∧ op ≤ 25)) (h : IsL cdV w kv l) (hp : 0 < l.length) (hl : l.length ≤ 7) (T : Int) (hT : T = 0 ∨ T = 1 ∨ T = 2) (hR : R = .ok (EV.vt T)) (hcall : ∀ W, Fr w W → Calls Tryz.prog 92 #[.int .i64 op, kv] W fun e w' => e = .returned (.int .i64 T) ∧ Fr W w') :
    Calls Tryz.prog 60 #[.agg #[.int .i64 op, .int .i64 kids, .int .i64 vk, .int .i64 vn, .string vs, .string nm], kv, cv, rv] w fun e w' => e = .returned (exV R) ∧ Fr w w' := by
  obtain ⟨W0, hW0⟩ : ∃ W0, (w.alloc (.cells #[.int .i64 op, .int .i64 kids, .int .i64 vk, .int .i64 vn, .string vs, .string nm] 38)).alloc (.cells #[.int .i64 0, .int .i64 0, .string ⟨#[]⟩] 26) = W0 := ⟨_, rfl⟩
  have HN := hideP (show Blk W0 w.heap.size #[.int .i64 op, .int .i64 kids, .int .i64 vk, .int .i64 vn, .string vs, .string nm] 38 by rw [← hW0]; exact (Blk.new w _ _).old _)
  have HB1 := hideP (show Blk W0 (w.heap.size + 1) #[.int .i64 0, .int .i64 0, .string ⟨#[]⟩] 26 by rw [← hW0]; have := Blk.new (w.alloc (.cells #[.int .i64 op, .int .i64 kids, .int .i64 vk, .int .i64 vn, .string vs, .string nm] 38)) #[.int .i64 0, .int .i64 0, .string ⟨#[]⟩] 26; simpa using this)
  have HF0 := hideP (show Fr w W0 by rw [← hW0]; exact ((Fr.refl w).alloc _).alloc _)
  have hle0 := Fr.size HF0.out
  have u0 := HN.out.cell 0 rfl
  have u1 := HN.out.cell 1 rfl
  have u2 := HN.out.cell 2 rfl
  have u3 := HN.out.cell 3 rfl
  have u4 := HN.out.cell 4 rfl
  have u5 := HN.out.cell 5 rfl
  obtain ⟨a, cap, rfl, hcap, hcs⟩ := h
  obtain ⟨b, o, rfl, hb, hat⟩ : ∃ b o, a = some ⟨b, o, none⟩ ∧ b < w.heap.size ∧ At cdV w b o l := by
    rcases hcs with h | h
    · rw [h] at hp; simp at hp
    · exact h
  have HAt := hideP (hat.fr hb HF0.out)
  have HAt0 := hideP hat
  have HR := hideP hR
  have HOp := hideP hop
  have q1 : (op == 1) = false := by simp; omega
  have q2 : (op == 2) = false := by simp; omega
  clear hcs hat hR hop
  have HCa := hideP hcall
  have TV := hideP (fun W => truthValue_any T hT W)
  obtain ⟨tk, tn, tx, hvt⟩ : ∃ tk tn tx, EV.vt T = ⟨tk, tn, tx⟩ := ⟨_, _, _, rfl⟩
  rw [hvt] at TV HR
  simp only [vlV] at TV
  clear hcall hvt hT
  go_enter Tryz.func60, Tryz.ntmps60
  go_wp2_with fail
  clear q1 q2
  go_loop [11, 12, 13, 14, 15] (fun x0 x1 x2 x3 x4 => ∃ i c0 c1 c2 c3 : Nat, x4 = .int .i64 i ∧ x0 = .int .i64 c0 ∧ x1 = .int .i64 c1 ∧ x2 = .int .i64 c2 ∧ x3 = .int .i64 c3 ∧ i ≤ l.length ∧ c0 + c1 + c2 + c3 = i ∧ (l.take i).countP EV.kN = c0 ∧ (l.take i).countP EV.kT = c1 ∧ (l.take i).countP EV.kI = c2 ∧ (l.take i).countP EV.kB = c3) (fun _ _ _ _ x4 => l.length - (intOf x4).toNat)
  case atStart => exact ⟨0, 0, 0, 0, 0, rfl, rfl, rfl, rfl, rfl, Nat.zero_le _, rfl, rfl, rfl, rfl, rfl⟩
  case round =>
    obtain ⟨i, c0, c1, c2, c3, rfl, rfl, rfl, rfl, rfl, hi, hs, e0, e1, e2, e3⟩ := hrel
    by_cases hlt : i < l.length
    · have hlt' : (i : Int) < (l.length : Int) := by omega
      have d0 := (HAt.out.v3 i hlt).1
      have t0 := EV.countP_take EV.kN hlt
      have t1 := EV.countP_take EV.kT hlt
      have t2 := EV.countP_take EV.kI hlt
      have t3 := EV.countP_take EV.kB hlt
      rw [e0] at t0
      rw [e1] at t1
      rw [e2] at t2
      rw [e3] at t3
      generalize l[i] = x at *
      obtain ⟨k, xn, xs⟩ := x
      simp only [EV.kN, EV.kT, EV.kI, EV.kB] at d0 t0 t1 t2 t3
      rcases (show k = 0 ∨ k = 1 ∨ k = 2 ∨ (k ≠ 0 ∧ k ≠ 1 ∧ k ≠ 2) by omega) with rfl | rfl | rfl | ⟨k0, k1, k2⟩
      · have HT := hideP (show _ ∧ _ ∧ _ ∧ _ from ⟨t0, t1, t2, t3⟩)
        clear t0 t1 t2 t3 e0 e1 e2 e3
        go_wp2_with fail
        go_round
        case rel => exact ⟨i + 1, c0 + 1, c1, c2, c3, by go_num, by go_num, rfl, rfl, rfl, by omega, by omega, by rw [HT.out.1]; simp, by rw [HT.out.2.1]; simp, by rw [HT.out.2.2.1]; simp, by rw [HT.out.2.2.2]; simp⟩
        case measure => simp [intOf]; omega
      · have HT := hideP (show _ ∧ _ ∧ _ ∧ _ from ⟨t0, t1, t2, t3⟩)
        clear t0 t1 t2 t3 e0 e1 e2 e3
        go_wp2_with fail
        go_round
        case rel => exact ⟨i + 1, c0, c1, c2 + 1, c3, by go_num, rfl, rfl, by go_num, rfl, by omega, by omega, by rw [HT.out.1]; simp, by rw [HT.out.2.1]; simp, by rw [HT.out.2.2.1]; simp, by rw [HT.out.2.2.2]; simp⟩
        case measure => simp [intOf]; omega
      · have HT := hideP (show _ ∧ _ ∧ _ ∧ _ from ⟨t0, t1, t2, t3⟩)
        clear t0 t1 t2 t3 e0 e1 e2 e3
        go_wp2_with fail
        go_round
        case rel => exact ⟨i + 1, c0, c1 + 1, c2, c3, by go_num, rfl, by go_num, rfl, rfl, by omega, by omega, by rw [HT.out.1]; simp, by rw [HT.out.2.1]; simp, by rw [HT.out.2.2.1]; simp, by rw [HT.out.2.2.2]; simp⟩
        case measure => simp [intOf]; omega
      · have HT := hideP (show _ ∧ _ ∧ _ ∧ _ from ⟨t0, t1, t2, t3⟩)
        have HK := hideP (show k ≠ 0 ∧ k ≠ 1 ∧ k ≠ 2 from ⟨k0, k1, k2⟩)
        have z0 : (k == 0) = false := by simpa using k0
        have z1 : (k == 1) = false := by simpa using k1
        have z2 : (k == 2) = false := by simpa using k2
        clear t0 t1 t2 t3 e0 e1 e2 e3 k0 k1 k2
        go_wp2_with fail
        go_round
        case rel => exact ⟨i + 1, c0, c1, c2, c3 + 1, by go_num, rfl, rfl, rfl, by go_num, by omega, by omega, by rw [HT.out.1]; simp [HK.out], by rw [HT.out.2.1]; simp [HK.out], by rw [HT.out.2.2.1]; simp [HK.out], by rw [HT.out.2.2.2]; simp [HK.out]⟩
        case measure => simp [intOf]; omega
    · obtain rfl : i = l.length := by omega
      rw [List.take_length] at e0 e1 e2 e3
      have hlt' : ((l.length : Int) < (l.length : Int)) = False := by simp
      have hop := HOp.out
      clear e0 e1 e2 e3 HOp
      have q3 : (op == 3) = false := by simp; omega
      have q4 : (op == 4) = false := by simp; omega
      have q5 : 5 ≤ op := by omega
      have q9 : ¬ op ≤ 9 := by omega
      have q16 : (op == 16) = false := by simp; omega
      have q17 : (op == 17) = false := by simp; omega
      have q20 : (op == 20) = false := by simp; omega
      have q21 : (op == 21) = false := by simp; omega
      clear hop
      go_wp2_with fail
      refine (HCa.out _ HF0.out).mono ?_
      rintro _ w2 ⟨rfl, f2⟩
      go_wp2_with fail
      refine (TV.out _).mono ?_
      rintro _ w3 ⟨rfl, f3⟩
      have HB3 := hideP ((HB1.out.fr f2).fr f3)
      have HF3 := hideP ((HF0.out.trans f2).trans f3)
      clear f3 f2
      have v0 := HB3.out.cell 0 rfl
      have v1 := HB3.out.cell 1 rfl
      have v2 := HB3.out.cell 2 rfl
      have y0 := HB3.out.frozen 0
      have y1 := HB3.out.frozen 1
      have y2 := HB3.out.frozen 2
      go_wp2_with fail
      refine bodyPost_ret (v := .tuple #[.agg #[.int .i64 tk, .int .i64 tn, .string tx], .int .i64 0]) ?_ rfl ⟨by rw [HR.out]; rfl, HF3.out.put3 (w.heap.size + 1) (by first | exact Nat.le_refl _ | exact Nat.le_succ _) _ _ _⟩
      obtain ⟨r0, r1, r2⟩ : (put3 w3 (w.heap.size + 1) (.int .i64 tk) (.int .i64 tn) (.string tx)).cell? ⟨w.heap.size + 1, 0, none⟩ = _ ∧ (put3 w3 (w.heap.size + 1) (.int .i64 tk) (.int .i64 tn) (.string tx)).cell? ⟨w.heap.size + 1, 1, none⟩ = _ ∧ (put3 w3 (w.heap.size + 1) (.int .i64 tk) (.int .i64 tn) (.string tx)).cell? ⟨w.heap.size + 1, 2, none⟩ = _ := ⟨(HB3.out.put3 _ _ _).cell 0 rfl, (HB3.out.put3 _ _ _).cell 1 rfl, (HB3.out.put3 _ _ _).cell 2 rfl⟩
      change (results Tryz.f60 _).run Tryz.prog (put3 w3 _ _ _ _) = .ok _ (put3 w3 _ _ _ _)
      simp [results, Tryz.results60, go_sem, r0, r1, r2]
end Go.Proofs.YtjljohmflhmkmaaGreatDoor
