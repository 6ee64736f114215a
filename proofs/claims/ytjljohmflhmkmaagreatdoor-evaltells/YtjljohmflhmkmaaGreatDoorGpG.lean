/-
  What belongs together: EvV, EvW, EvX.
-/
import Derived.Test.YtjljohmflhmkmaaGreatDoorEvN
import Derived.Test.YtjljohmflhmkmaaGreatDoorEvS
import Derived.Test.YtjljohmflhmkmaaGreatDoorGpF
namespace Go.Proofs.YtjljohmflhmkmaaGreatDoor
set_option linter.unusedVariables false
set_option linter.unusedSimpArgs false
namespace EX
open VM
/-- each node is right by itself, and has as many kids as it says -/
def F.good : F → Prop
  | .nil => True
  | .nd n k s => nchk n = 0 ∧ n.kids = (k.len : Int) ∧ F.good k ∧ F.good s
theorem F.good.right : ∀ {t : F}, t.good → t.right
  | .nil, _ => trivial
  | .nd n k s, h => ⟨h.2.1, h.2.2.1.right, h.2.2.2.right⟩
theorem F.good_app : ∀ {s t : F}, s.good → t.good → (F.app s t).good
  | .nil, t, _, ht => ht
  | .nd n k s, t, hs, ht => ⟨hs.1, hs.2.1, hs.2.2.1, F.good_app hs.2.2.2 ht⟩
/-- how deep each tree is -/
def dp : F → List Nat
  | .nil => []
  | .nd n k s => (mx (dp k) + 1) :: dp s
theorem mx_nil : mx [] = 0 := rfl
theorem mx_app (a b : List Nat) : mx (a ++ b) = max (mx a) (mx b) := by
  apply Nat.le_antisymm
  · refine mx_le fun x hx => ?_
    rcases List.mem_append.1 hx with h | h
    · have := mx_mem h; omega
    · have := mx_mem h; omega
  · have h1 : mx a ≤ mx (a ++ b) := mx_le fun x hx => mx_mem (List.mem_append_left _ hx)
    have h2 : mx b ≤ mx (a ++ b) := mx_le fun x hx => mx_mem (List.mem_append_right _ hx)
    omega
theorem mx_cons (a : Nat) (b : List Nat) : mx (a :: b) = max a (mx b) := by
  have h := mx_app [a] b
  have e : mx [a] = a := by simp [mx]
  rw [e] at h
  exact h
theorem dp_app : ∀ (s t : F), dp (F.app s t) = dp s ++ dp t
  | .nil, t => rfl
  | .nd n k s, t => by simp only [F.app, dp, dp_app s t, List.cons_append]
theorem dOf_ok {n : Nd} {l : List Nat} {x : Nat} (h : dOf n l = .ok x) : nchk n = 0 ∧ n.kids ≤ (l.length : Int) ∧ x = mx l + 1 := by
  unfold dOf at h
  split at h
  · cases h
  · split at h
    · cases h
    · rename_i h1 h2
      cases h
      exact ⟨by simpa using h1, by omega, rfl⟩
theorem dOf_of {n : Nd} {l : List Nat} (h : nchk n = 0) (hk : n.kids ≤ (l.length : Int)) : dOf n l = .ok (mx l + 1) := by
  unfold dOf
  rw [if_neg (by simp [h]), if_neg (by omega)]
theorem dp_len : ∀ (t : F), (dp t).length = t.len
  | .nil => rfl
  | .nd n k s => by simp only [dp, F.len, List.length_cons, dp_len s]
theorem vals_dOf : ∀ {t : F}, t.good → vals dOf t = .ok (dp t)
  | .nil, _ => rfl
  | .nd n k s, h => vals_nd (vals_dOf h.2.2.1) (dOf_of h.1 (by rw [dp_len, h.2.1]; exact Int.le_refl _)) (vals_dOf h.2.2.2)
theorem good_of : ∀ {t : F} {ds : List Nat}, t.right → vals dOf t = .ok ds → t.good
  | .nil, _, _, _ => trivial
  | .nd n k s, ds, hr, h => by
    unfold vals at h
    split at h
    · cases h
    rename_i ks hk
    split at h
    · cases h
    rename_i x hx
    split at h
    · cases h
    rename_i zs hz
    exact ⟨(dOf_ok hx).1, hr.1, good_of hr.2.1 hk, good_of hr.2.2 hz⟩
theorem up_flat_err {α : Type} {f : Nd → List α → Except Nat α} : ∀ (t : F) (e : List Nd) (free : List α) (c : Nat), t.right → vals f t = .error c → up f (t.flat ++ e) free = .error c
  | .nil, e, free, c, _, h => by cases h
  | .nd n k s, e, free, c, hr, h => by
    unfold vals at h
    split at h
    · rename_i c' hk
      cases h
      simp only [F.flat, List.append_assoc, List.cons_append]
      exact up_flat_err k _ free _ hr.2.1 hk
    rename_i ks hk
    have hl := vals_len hk
    have hn : n.kids.toNat = ks.length := by have := hr.1; omega
    have e1 : (free ++ ks).length - n.kids.toNat = free.length := by rw [List.length_append]; omega
    split at h
    · rename_i c' hx
      cases h
      simp only [F.flat, List.append_assoc, List.cons_append]
      rw [up_flat k _ free ks hr.2.1 hk, up, e1, List.drop_left]
      simp only [hx]
    rename_i x hx
    split at h
    · rename_i c' hz
      cases h
      simp only [F.flat, List.append_assoc, List.cons_append]
      rw [up_flat k _ free ks hr.2.1 hk, up_cons (x := x) (by rw [e1, List.drop_left]; exact hx)]
      exact up_flat_err s e _ _ hr.2.2 hz
    · cases h
/-- gone through node by node is gone through tree by tree -/
theorem up_vals {α : Type} {f : Nd → List α → Except Nat α} {t : F} (h : t.right) : up f t.flat [] = vals f t := by
  cases hv : vals f t with
  | error c =>
    have := up_flat_err (f := f) t [] [] c h hv
    rwa [List.append_nil] at this
  | ok xs =>
    have := up_flat (f := f) t [] [] xs h hv
    rw [List.append_nil] at this
    rw [this]
    rfl
/-- an expression that is right: a tree -/
theorem ck_tree {e : List Nd} (h : ck e = 0) : ∃ n k, e = k.flat ++ [n] ∧ (F.nd n k .nil).good ∧ mx (dp k) + 1 ≤ 12 ∧ e.length ≤ 60 := by
  unfold ck at h
  split at h
  · rename_i c hc
    exact absurd h (dep_ne hc)
  · rename_i y hy
    unfold dep at hy
    split at hy
    · cases hy
    split at hy
    · cases hy
    split at hy
    · cases hy
    rename_i h1 h2 _ out hout
    split at hy
    · cases hy
    split at hy
    · cases hy
    rename_i h3 h4
    obtain ⟨t, hf, hr, hv⟩ := up_forest (f := dOf) (fun n ks x hx => ⟨kids_nonneg (dOf_ok hx).1, by have := (dOf_ok hx).2.1; have := kids_nonneg (dOf_ok hx).1; omega⟩) e .nil [] out rfl trivial hout
    have hg := good_of hr hv
    have hp := up_pos e [] out hout (.inl (fun h => h2 (by rw [h]; rfl)))
    have hl := vals_len hv
    rw [vals_dOf hg] at hv
    cases hv
    cases t with
    | nil => exact absurd rfl hp
    | nd n k s =>
      cases s with
      | nd _ _ _ => simp only [F.len] at hl; simp only [hl] at h3; omega
      | nil =>
        refine ⟨n, k, ?_, hg, ?_, by omega⟩
        · simpa [F.flat] using hf.symm
        · simp only [dp, List.headD_cons] at h4
          omega
theorem dep_tree {n : Nd} {k : F} (h : (F.nd n k .nil).good) : dep (k.flat ++ [n]) = if 60 < (k.flat ++ [n]).length then .error 2 else if 12 < mx (dp k) + 1 then .error 10 else .ok (mx (dp k) + 1) := by
  have e : (F.nd n k .nil).flat = k.flat ++ [n] := rfl
  have hu : up dOf (k.flat ++ [n]) [] = .ok [mx (dp k) + 1] := by
    rw [← e, up_vals h.right, vals_dOf h]
    rfl
  unfold dep
  rw [hu]
  split
  · rfl
  rw [if_neg (by simp)]
  rfl
theorem ck_of {n : Nd} {k : F} (h : (F.nd n k .nil).good) (hd : mx (dp k) + 1 ≤ 12) (hl : (k.flat ++ [n]).length ≤ 60) : ck (k.flat ++ [n]) = 0 := by
  unfold ck
  rw [dep_tree h, if_neg (by omega), if_neg (by omega)]
/-- of a tree nothing else can be wrong -/
theorem ck_else {n : Nd} {k : F} (h : (F.nd n k .nil).good) : ck (k.flat ++ [n]) = 0 ∨ ck (k.flat ++ [n]) = 2 ∨ ck (k.flat ++ [n]) = 10 := by
  unfold ck
  rw [dep_tree h]
  by_cases h1 : 60 < (k.flat ++ [n]).length
  · rw [if_pos h1]; exact .inr (.inl rfl)
  rw [if_neg h1]
  by_cases h2 : 12 < mx (dp k) + 1
  · rw [if_pos h2]; exact .inr (.inr rfl)
  · rw [if_neg h2]; exact .inl rfl
/-- what is told of a tree's root -/
def nv {α : Type} (f : Nd → List α → Except Nat α) (n : Nd) (k : F) : Except Nat α := match vals f k with
  | .error c => .error c
  | .ok ks => f n ks
theorem vals_one {α : Type} (f : Nd → List α → Except Nat α) (n : Nd) (k s : F) : vals f (.nd n k s) = match nv f n k with
    | .error c => .error c
    | .ok x => match vals f s with
      | .error c => .error c
      | .ok ys => .ok (x :: ys) := by
  unfold nv
  rw [vals]
  cases vals f k with
  | error c => rfl
  | ok ks => rfl
theorem vals_more {α : Type} {f g : Nd → List α → Except Nat α} (hfg : ∀ n l x, f n l = .ok x → g n l = .ok x) : ∀ {t : F} {xs : List α}, vals f t = .ok xs → vals g t = .ok xs
  | .nil, xs, h => h
  | .nd n k s, xs, h => by
    unfold vals at h
    split at h
    · cases h
    rename_i ks hk
    split at h
    · cases h
    rename_i x hx
    split at h
    · cases h
    rename_i zs hz
    cases h
    exact vals_nd (vals_more hfg hk) (hfg _ _ _ hx) (vals_more hfg hz)
theorem nv_more {α : Type} {f g : Nd → List α → Except Nat α} (hfg : ∀ n l x, f n l = .ok x → g n l = .ok x) {n : Nd} {k : F} {x : α} (h : nv f n k = .ok x) : nv g n k = .ok x := by
  unfold nv at h ⊢
  split at h
  · cases h
  rename_i ks hk
  rw [vals_more hfg hk]
  exact hfg _ _ _ h
theorem up_map {α : Type} {f : Nd → List α → Except Nat α} {p : Nd → Nd} (hp : ∀ n l, f (p n) l = f n l) (hk : ∀ n, (p n).kids = n.kids) : ∀ (e : List Nd) (free : List α), up f (e.map p) free = up f e free
  | [], free => rfl
  | n :: e, free => by
    simp only [List.map_cons, up, hp, hk]
    split
    · rfl
    · exact up_map hp hk e _
end EX
namespace EV
open VM EX
theorem ev_nv {n : Nd} {k : F} {cs : List ByteArray} {l : List Vl} (h : (F.nd n k .nil).good) (hck : ck (k.flat ++ [n]) = 0) (hco : coE cs l = 0) : ev (k.flat ++ [n]) cs l = nv (wo (fnd (cs.zip l))) n k := by
  have e : (F.nd n k .nil).flat = k.flat ++ [n] := rfl
  unfold ev
  rw [if_neg (by simp [hck]), if_neg (by simp [hco]), ← e, up_vals h.right, vals_one]
  cases nv (wo (fnd (cs.zip l))) n k with
  | error c => rfl
  | ok x => rfl
theorem wo_more {f g : List UInt8 → Option Vl} (hf : ∀ s y, f s = some y → g s = some y) (n : Nd) (l : List Vl) (x : Vl) (h : wo f n l = .ok x) : wo g n l = .ok x := by
  unfold wo at h ⊢
  split at h
  · rename_i h1; rw [if_pos h1]; exact h
  rename_i h1
  rw [if_neg h1]
  split at h
  · rename_i h2
    rw [if_pos h2]
    split at h
    · rename_i y hy
      rw [hf _ _ hy]
      exact h
    · cases h
  · rename_i h2
    rw [if_neg h2]
    exact h
theorem chkAll_app (l : List Vl) (x : Vl) (hl : chkAll l = 0) (hx : chk x = 0) : chkAll (l ++ [x]) = 0 := by
  induction l with
  | nil => simp [chkAll, hx]
  | cons y l ih =>
    simp only [List.cons_append, chkAll] at hl ⊢
    split at hl
    · rename_i h; rw [if_pos h]; exact ih hl
    · rename_i h; exact absurd hl h
theorem chkAll_mem {l : List Vl} (hl : chkAll l = 0) : ∀ x ∈ l, chk x = 0 := by
  induction l with
  | nil => intro x hx; simp at hx
  | cons y l ih =>
    simp only [chkAll] at hl
    split at hl
    · rename_i h
      intro x hx
      rcases List.mem_cons.1 hx with rfl | hx
      · exact h
      · exact ih hl x hx
    · rename_i h; exact absurd hl h
theorem coE_ok {cs : List ByteArray} {l : List Vl} (h : coE cs l = 0) : cs.length ≤ 8 ∧ cs.length = l.length ∧ chkAll l = 0 := by
  unfold coE at h
  split at h
  · cases h
  split at h
  · cases h
  exact ⟨by omega, by omega, h⟩
theorem ev_ok {e : List Nd} {cs : List ByteArray} {l : List Vl} {v : Vl} (h : ev e cs l = .ok v) : ck e = 0 ∧ coE cs l = 0 := by
  unfold ev at h
  split at h
  · cases h
  split at h
  · cases h
  exact ⟨by omega, by omega⟩
/-- a column more -/
theorem ev_more {e : List Nd} {cs : List ByteArray} {l : List Vl} {v x : Vl} {c : ByteArray} (h : ev e cs l = .ok v) (hc : cs.length < 8) (hx : chk x = 0) : ev e (cs ++ [c]) (l ++ [x]) = .ok v := by
  obtain ⟨h1, h2⟩ := ev_ok h
  obtain ⟨h3, h4, h5⟩ := coE_ok h2
  obtain ⟨n, k, rfl, hg, _, _⟩ := ck_tree h1
  rw [ev_nv hg h1 h2] at h
  have hco : coE (cs ++ [c]) (l ++ [x]) = 0 := by
    unfold coE
    rw [if_neg (by simp; omega), if_neg (by simp [h4]), chkAll_app l x h5 hx]
  rw [ev_nv hg h1 hco]
  have hm : ∀ s y, fnd (cs.zip l) s = some y → fnd ((cs ++ [c]).zip (l ++ [x])) s = some y := by
    intro s y hy
    rw [List.zip_append h4]
    show fnd (cs.zip l ++ [(c, x)]) s = some y
    rw [fnd_snoc, hy]
  exact nv_more (fun n l y hy => wo_more hm n l y hy) h
def lit (y : Vl) : Nd := ⟨1, 0, y, ⟨#[]⟩⟩
def isCol (c : ByteArray) (n : Nd) : Bool := decide (n.op = 2) && (decide (n.kids = 0) && (decide (n.v.k = 0) && (decide (n.v.n = 0) && (decide (n.v.s = ⟨#[]⟩) && decide (n.nm = c)))))
theorem isCol_eq {c : ByteArray} {n : Nd} (h : isCol c n = true) : n = ⟨2, 0, nul, c⟩ := by
  obtain ⟨a, b, ⟨p, q, r⟩, d⟩ := n
  simp only [isCol, Bool.and_eq_true, decide_eq_true_eq] at h
  obtain ⟨h1, h2, h3, h4, h5, h6⟩ := h
  rw [h1, h2, h3, h4, h5, h6]
  rfl
/-- a node with a column's literal in its place -/
def plc (c : ByteArray) (y : Vl) (n : Nd) : Nd := if isCol c n = true then lit y else n
theorem plc_kids (c : ByteArray) (y : Vl) (n : Nd) : (plc c y n).kids = n.kids := by
  unfold plc
  split
  · rename_i h
    rw [isCol_eq h]
    rfl
  · rfl
theorem nchk_lit {y : Vl} (h : chk y = 0) (h0 : 0 ≤ y.n) : nchk (lit y) = 0 := by
  show (if (1 : Int) < 1 ∨ (25 : Int) < 1 then 7 else if (0 : Int) < kl 1 ∨ km 1 < 0 then 1 else if (1 : Int) ≠ 1 ∧ isNul y = false then 1 else if (1 : Int) ≠ 2 ∧ (⟨#[]⟩ : ByteArray).size ≠ 0 then 1 else if (1 : Int) = 1 then lchk y else if (1 : Int) = 2 ∧ LX.nm (⟨#[]⟩ : ByteArray).data.toList = false then 1 else 0) = 0
  rw [if_neg (by decide), if_neg (by decide), if_neg (by simp), if_neg (by simp [ByteArray.size]), if_pos rfl]
  unfold lchk
  rw [if_neg (by simp [h]), if_neg (by omega)]
theorem nchk_col {c : ByteArray} (h : LX.nm c.data.toList = true) : nchk ⟨2, 0, nul, c⟩ = 0 := by
  show (if (2 : Int) < 1 ∨ (25 : Int) < 2 then 7 else if (0 : Int) < kl 2 ∨ km 2 < 0 then 1 else if (2 : Int) ≠ 1 ∧ isNul nul = false then 1 else if (2 : Int) ≠ 2 ∧ c.size ≠ 0 then 1 else if (2 : Int) = 1 then lchk nul else if (2 : Int) = 2 ∧ LX.nm c.data.toList = false then 1 else 0) = 0
  rw [if_neg (by decide), if_neg (by decide), if_neg (by decide), if_neg (by simp), if_neg (by decide), if_neg (by simp [h])]
/-- with a column's literal in the column's place -/
theorem ev_placed {e : List Nd} {cs : List ByteArray} {l : List Vl} {y : Vl} {c : ByteArray} (hy : chk y = 0) (h0 : 0 ≤ y.n) (hc : LX.nm c.data.toList = true) (hf : fnd (cs.zip l) c.data.toList = some y) : ev (e.map (plc c y)) cs l = ev e cs l := by
  have h1 : ∀ n (l : List Nat), dOf (plc c y n) l = dOf n l := by
    intro n l
    unfold plc
    split
    · rename_i h
      rw [isCol_eq h]
      unfold dOf
      rw [nchk_lit hy h0, nchk_col hc]
      rfl
    · rfl
  have h2 : ∀ n (ks : List Vl), wo (fnd (cs.zip l)) (plc c y n) ks = wo (fnd (cs.zip l)) n ks := by
    intro n ks
    unfold plc
    split
    · rename_i h
      rw [isCol_eq h]
      have e1 : wo (fnd (cs.zip l)) (lit y) ks = .ok y := by unfold wo lit; rw [if_pos rfl]
      have e2 : wo (fnd (cs.zip l)) ⟨2, 0, nul, c⟩ ks = .ok y := by
        unfold wo
        rw [if_neg (show ¬ (2 : Int) = 1 by decide), if_pos rfl]
        simp only [hf]
      rw [e1, e2]
    · rfl
  have hck : ck (e.map (plc c y)) = ck e := by
    unfold ck dep
    rw [List.length_map, up_map h1 (plc_kids c y)]
  unfold ev
  rw [hck, up_map h2 (plc_kids c y)]
theorem fnd_at {cs : List ByteArray} {l : List Vl} {k : Nat} (hk : k < cs.length) (hl : k < l.length) (hno : ∀ i (h : i < k), cs[i]'(by omega) ≠ cs[k]) : fnd (cs.zip l) cs[k].data.toList = some l[k] := by
  induction cs generalizing l k with
  | nil => simp at hk
  | cons a cs ih =>
    cases l with
    | nil => simp at hl
    | cons y l =>
      cases k with
      | zero => simp [fnd]
      | succ k =>
        have hk' : k < cs.length := by simpa using hk
        have hl' : k < l.length := by simpa using hl
        have h0 := hno 0 (by omega)
        simp only [List.getElem_cons_zero, List.getElem_cons_succ] at h0
        have hne : ¬ a.data.toList = cs[k].data.toList := fun h => h0 (by
          have : a.data = cs[k].data := Array.toList_inj.1 h
          exact ByteArray.ext this)
        have := ih (l := l) (k := k) hk' hl' (fun i h => by have := hno (i + 1) (by omega); simpa using this)
        simp only [List.getElem_cons_succ, List.zip_cons_cons, fnd, List.find?_cons, hne, decide_false] at this ⊢
        exact this
end EV
end Go.Proofs.YtjljohmflhmkmaaGreatDoor
namespace Go.Proofs.YtjljohmflhmkmaaGreatDoor
set_option linter.unusedVariables false
set_option linter.unusedSimpArgs false
namespace EX
open VM
/-- the expressions of trees side by side -/
def F.parts : F → List (List Nd)
  | .nil => []
  | .nd n k s => (k.flat ++ [n]) :: F.parts s
theorem F.parts_flat : ∀ (t : F), t.parts.flatten = t.flat
  | .nil => rfl
  | .nd n k s => by simp [F.parts, F.flat, F.parts_flat s]
theorem F.parts_len : ∀ (t : F), t.parts.length = t.len
  | .nil => rfl
  | .nd n k s => by simp [F.parts, F.len, F.parts_len s]
theorem F.parts_app : ∀ (s t : F), (F.app s t).parts = s.parts ++ t.parts
  | .nil, t => rfl
  | .nd n k s, t => by simp [F.parts, F.app, F.parts_app s t]
/-- how many nodes each tree has -/
def szs : F → List Nat
  | .nil => []
  | .nd n k s => (sm (szs k) + 1) :: szs s
theorem sm_cons (a : Nat) (l : List Nat) : sm (a :: l) = a + sm l := rfl
theorem flat_szs : ∀ (t : F), t.flat.length = sm (szs t)
  | .nil => rfl
  | .nd n k s => by
    simp only [F.flat, szs, sm_cons, List.length_append, List.length_cons, flat_szs k, flat_szs s]
    omega
theorem vals_sOf : ∀ (t : F), vals sOf t = .ok (szs t)
  | .nil => rfl
  | .nd n k s => vals_nd (vals_sOf k) rfl (vals_sOf s)
/-- a list cut into pieces of these lengths -/
def cuts : List Nat → List Nd → List (List Nd)
  | [], _ => []
  | a :: r, e => e.take a :: cuts r (e.drop a)
theorem cuts_len : ∀ (ss : List Nat) (e : List Nd), (cuts ss e).length = ss.length
  | [], _ => rfl
  | a :: r, e => by simp [cuts, cuts_len r]
theorem cuts_szs : ∀ (t : F) (r : List Nd), cuts (szs t) (t.flat ++ r) = t.parts
  | .nil, r => rfl
  | .nd n k s, r => by
    have e : (F.nd n k s).flat ++ r = (k.flat ++ [n]) ++ (s.flat ++ r) := by simp [F.flat]
    have hl : (k.flat ++ [n]).length = sm (szs k) + 1 := by rw [List.length_append, flat_szs]; rfl
    simp only [szs, cuts, F.parts]
    rw [e, ← hl, List.take_left, List.drop_left, cuts_szs s r]
theorem cuts_at : ∀ (ss : List Nat) (e : List Nd) (i : Nat) (h : i < ss.length), (cuts ss e)[i]'(by rw [cuts_len]; exact h) = (e.drop (sm (ss.take i))).take ss[i]
  | a :: r, e, 0, h => by simp [cuts, sm]
  | a :: r, e, i + 1, h => by
    have := cuts_at r (e.drop a) i (by simpa using h)
    simp only [cuts, List.getElem_cons_succ, List.take_succ_cons, sm_cons]
    rw [this, List.drop_drop]
/-- the expressions of the root's kids -/
def kds (e : List Nd) : List (List Nd) := match up sOf e.dropLast [] with
  | .error _ => []
  | .ok ss => cuts ss e
theorem kds_tree {n : Nd} {k : F} (h : k.right) : kds (k.flat ++ [n]) = k.parts := by
  unfold kds
  rw [List.dropLast_concat, up_vals h, vals_sOf]
  exact cuts_szs k [n]
/-- each part of trees is a tree -/
theorem part_at : ∀ (t : F) (i : Nat) (h : i < t.parts.length), t.good → ∃ n k, t.parts[i] = k.flat ++ [n] ∧ (F.nd n k .nil).good ∧ mx (dp k) + 1 ≤ mx (dp t) ∧ (k.flat ++ [n]).length ≤ t.flat.length
  | .nd n k s, 0, _, hg => ⟨n, k, rfl, ⟨hg.1, hg.2.1, hg.2.2.1, trivial⟩, by simp only [dp, mx_cons]; omega, by simp [F.flat]⟩
  | .nd n k s, i + 1, h, hg => by
    obtain ⟨n', k', h1, h2, h3, h4⟩ := part_at s i (by simpa [F.parts] using h) hg.2.2.2
    refine ⟨n', k', by simpa [F.parts] using h1, h2, by simp only [dp, mx_cons]; omega, ?_⟩
    simp only [F.flat, List.length_append, List.length_cons, List.length_nil] at h4 ⊢
    omega
end EX
namespace EV
open VM EX
theorem chk_nul : chk nul = 0 := rfl
theorem chk_vt (t : Int) : chk (vt t) = 0 := by
  unfold vt
  split
  · rfl
  split
  · rfl
  · rfl
theorem chk_int (n : Int) : chk ⟨1, n, ⟨#[]⟩⟩ = 0 := by
  unfold chk
  simp [ByteArray.size]
theorem tl_ok {p : Int × Nat} {x : Vl} (h : tl p = .ok x) : x = vt p.1 ∧ p.2 = 0 := by
  unfold tl at h
  split at h
  · cases h
  · cases h; exact ⟨rfl, by omega⟩
theorem wo_chk {f : List UInt8 → Option Vl} {n : Nd} {l : List Vl} {x : Vl} (hf : ∀ s y, f s = some y → chk y = 0) (hn : nchk n = 0) (h : wo f n l = .ok x) : chk x = 0 := by
  unfold wo at h
  split at h
  · rename_i h1
    cases h
    unfold nchk at hn
    split at hn
    · cases hn
    split at hn
    · cases hn
    split at hn
    · cases hn
    split at hn
    · cases hn
    unfold lchk at hn
    split at hn
    · rename_i h; exact absurd hn h
    · omega
  split at h
  · split at h
    · rename_i y hy
      cases h
      exact hf _ _ hy
    · cases h
  split at h
  · unfold rck at h
    split at h
    · cases h
    split at h
    · cases h; rfl
    split at h
    · cases h
    · cases h; exact chk_int _
  split at h
  · rw [(tl_ok h).1]; exact chk_vt _
  · rw [(tl_ok h).1]; exact chk_vt _
theorem nv_chk {f : List UInt8 → Option Vl} {n : Nd} {k : F} {x : Vl} (hf : ∀ s y, f s = some y → chk y = 0) (hn : nchk n = 0) (h : nv (wo f) n k = .ok x) : chk x = 0 := by
  unfold nv at h
  split at h
  · cases h
  · exact wo_chk hf hn h
theorem fnd_chk {cs : List ByteArray} {l : List Vl} (h : chkAll l = 0) (s : List UInt8) (y : Vl) (hy : fnd (cs.zip l) s = some y) : chk y = 0 := by
  obtain ⟨c, hc⟩ := fnd_mem hy
  exact chkAll_mem h y (List.of_mem_zip hc).2
/-- literals side by side -/
def lits : List Vl → F
  | [] => .nil
  | y :: r => .nd (lit y) .nil (lits r)
theorem lits_flat : ∀ (l : List Vl), (lits l).flat = l.map lit
  | [] => rfl
  | y :: r => by simp [lits, F.flat, lits_flat r]
theorem lits_len : ∀ (l : List Vl), (lits l).len = l.length
  | [] => rfl
  | y :: r => by simp [lits, F.len, lits_len r]
theorem lits_good : ∀ (l : List Vl), (∀ y ∈ l, chk y = 0 ∧ 0 ≤ y.n) → (lits l).good
  | [], _ => trivial
  | y :: r, h => ⟨nchk_lit (h y (by simp)).1 (h y (by simp)).2, rfl, trivial, lits_good r (fun z hz => h z (by simp [hz]))⟩
theorem lits_dp : ∀ (l : List Vl), mx (dp (lits l)) ≤ 1
  | [] => by simp [lits, dp, mx_nil]
  | y :: r => by
    have := lits_dp r
    simp only [lits, dp, mx_cons, mx_nil]
    omega
theorem lits_vals (f : List UInt8 → Option Vl) : ∀ (l : List Vl), vals (wo f) (lits l) = .ok l
  | [] => rfl
  | y :: r => vals_nd (ks := []) rfl (by unfold wo lit; rw [if_pos rfl]) (lits_vals f r)
/-- what the first parts are worth, one by one -/
theorem vals_take_ok {f : List UInt8 → Option Vl} : ∀ (t : F) (i : Nat) (h : i < t.parts.length) (n : Nd) (k : F) (ws : List Vl) (w : Vl), t.good → t.parts[i] = k.flat ++ [n] → (F.nd n k .nil).good → vals (wo f) (F.take i t) = .ok ws → nv (wo f) n k = .ok w → vals (wo f) (F.take (i + 1) t) = .ok (ws ++ [w]) := by
  intro t i h n k ws w hg hp hgk hv hw
  have key : ∀ (t : F) (ws : List Vl) (i : Nat) (h : i < t.parts.length), t.good → t.parts[i] = k.flat ++ [n] → vals (wo f) (F.take i t) = .ok ws → vals (wo f) (F.take (i + 1) t) = .ok (ws ++ [w]) := by
    clear hv hg hp h
    intro t
    induction t with
    | nil => intro ws i h; simp [F.parts] at h
    | nd n' k' s _ ih =>
      intro ws i h hg hp hv
      cases i with
      | zero =>
        cases hv
        simp only [F.parts, List.getElem_cons_zero] at hp
        have hu1 : up (wo f) (k'.flat ++ [n']) [] = vals (wo f) (.nd n' k' .nil) := up_vals (t := .nd n' k' .nil) ⟨hg.2.1, hg.2.2.1.right, trivial⟩
        have hu2 : up (wo f) (k.flat ++ [n]) [] = vals (wo f) (.nd n k .nil) := up_vals (t := .nd n k .nil) hgk.right
        rw [hp] at hu1
        have hu3 := hu1.symm.trans hu2
        rw [vals_one, vals_one, hw] at hu3
        show vals (wo f) (.nd n' k' .nil) = .ok [w]
        rw [vals_one]
        exact hu3
      | succ i =>
        simp only [F.take] at hv ⊢
        unfold vals at hv
        split at hv
        · cases hv
        rename_i ks hk
        split at hv
        · cases hv
        rename_i x hx
        split at hv
        · cases hv
        rename_i zs hz
        cases hv
        exact vals_nd hk hx (ih zs i (by simpa [F.parts] using h) hg.2.2.2 (by simpa [F.parts] using hp) hz)
  exact key t ws i h hg hp hv
theorem vals_take_err {f : List UInt8 → Option Vl} : ∀ (t : F) (i : Nat) (h : i < t.parts.length) (n : Nd) (k : F) (ws : List Vl) (c : Nat), t.good → t.parts[i] = k.flat ++ [n] → (F.nd n k .nil).good → vals (wo f) (F.take i t) = .ok ws → nv (wo f) n k = .error c → vals (wo f) t = .error c := by
  intro t i h n k ws c hg hp hgk hv hw
  have key : ∀ (t : F) (ws : List Vl) (i : Nat) (h : i < t.parts.length), t.good → t.parts[i] = k.flat ++ [n] → vals (wo f) (F.take i t) = .ok ws → vals (wo f) t = .error c := by
    clear hv hg hp h
    intro t
    induction t with
    | nil => intro ws i h; simp [F.parts] at h
    | nd n' k' s _ ih =>
      intro ws i h hg hp hv
      cases i with
      | zero =>
        simp only [F.parts, List.getElem_cons_zero] at hp
        have hu1 : up (wo f) (k'.flat ++ [n']) [] = vals (wo f) (.nd n' k' .nil) := up_vals (t := .nd n' k' .nil) ⟨hg.2.1, hg.2.2.1.right, trivial⟩
        have hu2 : up (wo f) (k.flat ++ [n]) [] = vals (wo f) (.nd n k .nil) := up_vals (t := .nd n k .nil) hgk.right
        rw [hp] at hu1
        have hu3 := hu1.symm.trans hu2
        rw [vals_one, vals_one, hw] at hu3
        rw [vals_one]
        cases hn : nv (wo f) n' k' with
        | error c' => rw [hn] at hu3; cases hu3; rfl
        | ok x => rw [hn] at hu3; cases hu3
      | succ i =>
        simp only [F.take] at hv
        unfold vals at hv
        split at hv
        · cases hv
        rename_i ks hk
        split at hv
        · cases hv
        rename_i x hx
        split at hv
        · cases hv
        rename_i zs hz
        cases hv
        have := ih zs i (by simpa [F.parts] using h) hg.2.2.2 (by simpa [F.parts] using hp) hz
        simp only [vals, hk, hx, this]
  exact key t ws i h hg hp hv
theorem take_all (t : F) : F.take t.parts.length t = t := by
  rw [F.parts_len]
  induction t with
  | nil => rfl
  | nd n k s _ ih => simp only [F.len, F.take, ih]
/-- with literals of what its kids are worth an expression is worth the same -/
theorem ev_kids {n : Nd} {k : F} {cs : List ByteArray} {l ws : List Vl} (hg : (F.nd n k .nil).good) (hck : ck (k.flat ++ [n]) = 0) (hco : coE cs l = 0) (hv : vals (wo (fnd (cs.zip l))) k = .ok ws) (hw : ∀ y ∈ ws, chk y = 0 ∧ 0 ≤ y.n) : ev (ws.map lit ++ [n]) cs l = ev (k.flat ++ [n]) cs l := by
  have hlen := vals_len hv
  have hk7 : n.kids ≤ 7 := by
    have h := hg.1
    unfold nchk at h
    split at h
    · cases h
    split at h
    · cases h
    rename_i h2
    have : km n.op ≤ 7 := by unfold km; (repeat' split) <;> decide
    omega
  have hgl : (F.nd n (lits ws) .nil).good := ⟨hg.1, by rw [lits_len, hlen]; exact hg.2.1, lits_good ws hw, trivial⟩
  have hck' : ck ((lits ws).flat ++ [n]) = 0 := by
    refine ck_of hgl (by have := lits_dp ws; omega) ?_
    rw [lits_flat, List.length_append, List.length_map, hlen]
    have := hg.2.1
    simp only [List.length_cons, List.length_nil]
    omega
  rw [ev_nv hg hck hco, ← lits_flat, ev_nv hgl hck' hco]
  unfold nv
  rw [hv, lits_vals]

/-- what a node becomes by what its kids became -/
def fOf (n : Nd) (ks : List (List Nd)) : Except Nat (List Nd) := .ok (match ev (ks.flatten ++ [n]) [] [] with
  | .ok v => if v.n < 0 then ks.flatten ++ [n] else [lit v]
  | .error _ => ks.flatten ++ [n])
/-- a folded expression -/
def fld (e : List Nd) : List Nd := match up fOf e [] with
  | .ok out => out.headD []
  | .error _ => []
def non : List UInt8 → Option Vl := fun _ => none
theorem fnd_nil : fnd (([] : List ByteArray).zip ([] : List Vl)) = non := rfl
/-- folded trees -/
def ff : F → F
  | .nil => .nil
  | .nd n k s => match nv (wo non) n (ff k) with
    | .ok v => if v.n < 0 then .nd n (ff k) (ff s) else .nd (lit v) .nil (ff s)
    | .error _ => .nd n (ff k) (ff s)
theorem ff_cases (n : Nd) (k s : F) : (ff (.nd n k s) = .nd n (ff k) (ff s) ∧ ∀ v, nv (wo non) n (ff k) = .ok v → v.n < 0) ∨ ∃ v, nv (wo non) n (ff k) = .ok v ∧ 0 ≤ v.n ∧ ff (.nd n k s) = .nd (lit v) .nil (ff s) := by
  cases h : nv (wo non) n (ff k) with
  | error c => left; exact ⟨by rw [ff, h], fun v hv => by cases hv⟩
  | ok v =>
    by_cases h0 : v.n < 0
    · left; exact ⟨by rw [ff, h]; simp only [if_pos h0], fun v' hv => by cases hv; exact h0⟩
    · right; exact ⟨v, rfl, by omega, by rw [ff, h]; simp only [if_neg h0]⟩
theorem ff_len : ∀ (t : F), (ff t).len = t.len
  | .nil => rfl
  | .nd n k s => by
    rcases ff_cases n k s with ⟨h, _⟩ | ⟨v, _, _, h⟩
    · rw [h]; simp only [F.len, ff_len s]
    · rw [h]; simp only [F.len, ff_len s]
theorem ff_good : ∀ {t : F}, t.good → (ff t).good
  | .nil, _ => trivial
  | .nd n k s, h => by
    rcases ff_cases n k s with ⟨e, _⟩ | ⟨v, hv, h0, e⟩
    · rw [e]; exact ⟨h.1, by rw [ff_len]; exact h.2.1, ff_good h.2.2.1, ff_good h.2.2.2⟩
    · rw [e]; exact ⟨nchk_lit (nv_chk (fun _ _ h => by cases h) h.1 hv) h0, rfl, trivial, ff_good h.2.2.2⟩
theorem ff_dp : ∀ (t : F), mx (dp (ff t)) ≤ mx (dp t)
  | .nil => Nat.le_refl _
  | .nd n k s => by
    have h1 := ff_dp k
    have h2 := ff_dp s
    rcases ff_cases n k s with ⟨e, _⟩ | ⟨v, hv, h0, e⟩
    · rw [e]; simp only [dp, mx_cons]; omega
    · rw [e]; simp only [dp, mx_cons, mx_nil]; omega
theorem ff_flat : ∀ (t : F), (ff t).flat.length ≤ t.flat.length
  | .nil => Nat.le_refl _
  | .nd n k s => by
    have h1 := ff_flat k
    have h2 := ff_flat s
    rcases ff_cases n k s with ⟨e, _⟩ | ⟨v, hv, h0, e⟩
    · rw [e]; simp only [F.flat, List.length_append, List.length_cons]; omega
    · rw [e]; simp only [F.flat, List.length_append, List.length_cons, List.length_nil]; omega
theorem wo_non {f : List UInt8 → Option Vl} (n : Nd) (l : List Vl) (x : Vl) (h : wo non n l = .ok x) : wo f n l = .ok x := wo_more (fun s y hy => by cases hy) n l x h
theorem nv_vals {f : Nd → List Vl → Except Nat Vl} {n : Nd} {k k' : F} (h : vals f k = vals f k') : nv f n k = nv f n k' := by unfold nv; rw [h]
theorem ff_vals (f : List UInt8 → Option Vl) : ∀ (t : F), vals (wo f) (ff t) = vals (wo f) t
  | .nil => rfl
  | .nd n k s => by
    have h1 := ff_vals f k
    have h2 := ff_vals f s
    rcases ff_cases n k s with ⟨e, _⟩ | ⟨v, hv, h0, e⟩
    · rw [e, vals_one, vals_one, h2, nv_vals h1]
    · have h3 : nv (wo f) n k = .ok v := by rw [← nv_vals h1]; exact nv_more (fun n l x h => wo_non n l x h) hv
      have h4 : nv (wo f) (lit v) .nil = .ok v := by
        show wo f (lit v) [] = .ok v
        unfold wo lit
        rw [if_pos rfl]
      rw [e, vals_one, vals_one, h2, h3, h4]
theorem ff_ff : ∀ (t : F), ff (ff t) = ff t
  | .nil => rfl
  | .nd n k s => by
    have h1 := ff_ff k
    have h2 := ff_ff s
    rcases ff_cases n k s with ⟨e, hno⟩ | ⟨v, hv, h0, e⟩
    · rw [e]
      rcases ff_cases n (ff k) (ff s) with ⟨e', _⟩ | ⟨v, hv, h0, e'⟩
      · rw [e', h1, h2]
      · rw [h1] at hv
        have := hno v hv
        omega
    · rw [e]
      have h4 : nv (wo non) (lit v) (ff .nil) = .ok v := by
        show wo non (lit v) [] = .ok v
        unfold wo lit
        rw [if_pos rfl]
      rcases ff_cases (lit v) .nil (ff s) with ⟨e', hno⟩ | ⟨v', hv', h0', e'⟩
      · have := hno v h4
        omega
      · rw [h4] at hv'
        cases hv'
        rw [e', h2]
theorem vals_fOf : ∀ {t : F}, t.good → mx (dp t) ≤ 12 → t.flat.length ≤ 60 → vals fOf t = .ok (ff t).parts
  | .nil, _, _, _ => rfl
  | .nd n k s, h, hd, hl => by
    simp only [dp, mx_cons] at hd
    simp only [F.flat, List.length_append, List.length_cons] at hl
    have h1 := vals_fOf h.2.2.1 (by omega) (by omega)
    have h2 := vals_fOf h.2.2.2 (by omega) (by omega)
    have hg : (F.nd n (ff k) .nil).good := ⟨h.1, by rw [ff_len]; exact h.2.1, ff_good h.2.2.1, trivial⟩
    have hck : ck ((ff k).flat ++ [n]) = 0 := ck_of hg (by have := ff_dp k; omega) (by have := ff_flat k; simp only [List.length_append, List.length_cons, List.length_nil]; omega)
    have he : ev ((ff k).flat ++ [n]) [] [] = nv (wo non) n (ff k) := ev_nv hg hck rfl
    have hx : fOf n (ff k).parts = .ok (match nv (wo non) n (ff k) with
      | .ok v => if v.n < 0 then (ff k).flat ++ [n] else [lit v]
      | .error _ => (ff k).flat ++ [n]) := by
      unfold fOf
      rw [F.parts_flat, he]
    rw [vals_nd h1 hx h2]
    rcases ff_cases n k s with ⟨e, hno⟩ | ⟨v, hv, h0, e⟩
    · rw [e]
      cases hn : nv (wo non) n (ff k) with
      | error c => rfl
      | ok v =>
        simp only [if_pos (hno v hn)]
        rfl
    · rw [e, hv]
      simp only [if_neg (show ¬ v.n < 0 by omega)]
      rfl
theorem fld_tree {n : Nd} {k : F} (h : (F.nd n k .nil).good) (hck : ck (k.flat ++ [n]) = 0) : up fOf (k.flat ++ [n]) [] = .ok (ff (.nd n k .nil)).parts ∧ fld (k.flat ++ [n]) = (ff (.nd n k .nil)).flat ∧ ∃ n' k', ff (.nd n k .nil) = .nd n' k' .nil := by
  obtain ⟨n1, k1, e1, hg1, hd1, hl1⟩ := ck_tree hck
  have e : (F.nd n k .nil).flat = k.flat ++ [n] := rfl
  have hd : mx (dp (.nd n k .nil)) ≤ 12 := by
    have hu1 := up_vals (f := dOf) (t := .nd n k .nil) h.right
    have hu2 := up_vals (f := dOf) (t := .nd n1 k1 .nil) hg1.right
    rw [vals_dOf h] at hu1
    rw [vals_dOf hg1] at hu2
    have e2 : (F.nd n1 k1 .nil).flat = (F.nd n k .nil).flat := by rw [e, e1]; rfl
    rw [e2, hu1] at hu2
    have : dp (.nd n k .nil) = dp (.nd n1 k1 .nil) := by injection hu2
    rw [this]
    simp only [dp, mx_cons, mx_nil]
    omega
  have hv := vals_fOf h hd (by rw [e]; exact hl1)
  have hone : ∃ n' k', ff (.nd n k .nil) = .nd n' k' .nil := by
    rcases ff_cases n k .nil with ⟨e, hno⟩ | ⟨v, hv, h0, e⟩
    · exact ⟨_, _, e⟩
    · exact ⟨_, _, e⟩
  have hu : up fOf (k.flat ++ [n]) [] = .ok (ff (.nd n k .nil)).parts := by rw [← e, up_vals h.right, hv]
  refine ⟨hu, ?_, hone⟩
  unfold fld
  rw [hu]
  obtain ⟨n', k', e'⟩ := hone
  rw [e']
  rfl
/-- what is known of a folded expression -/
theorem fld_all {e : List Nd} (h : ck e = 0) : ck (fld e) = 0 ∧ (fld e).length ≤ e.length ∧ fld (fld e) = fld e ∧ ∀ cs l, ev (fld e) cs l = ev e cs l := by
  obtain ⟨n, k, rfl, hg, hd, hl⟩ := ck_tree h
  obtain ⟨h1, h2, n', k', h3⟩ := fld_tree hg h
  have hgf := ff_good hg
  have hdf := ff_dp (.nd n k .nil)
  have hlf := ff_flat (.nd n k .nil)
  have hff := ff_ff (.nd n k .nil)
  have hvf := fun f => ff_vals f (.nd n k .nil)
  rw [h3] at hgf hdf hlf hff hvf
  rw [h2, h3]
  have e' : (F.nd n' k' .nil).flat = k'.flat ++ [n'] := rfl
  have e : (F.nd n k .nil).flat = k.flat ++ [n] := rfl
  rw [e, e'] at hlf
  have hck : ck (k'.flat ++ [n']) = 0 := ck_of hgf (by simp only [dp, mx_cons, mx_nil] at hdf; omega) (by omega)
  rw [e']
  refine ⟨hck, hlf, ?_, ?_⟩
  · obtain ⟨_, h5, _⟩ := fld_tree hgf hck
    rw [h5, hff, e']
  · intro cs l
    by_cases hco : coE cs l = 0
    · rw [ev_nv hg h hco, ev_nv hgf hck hco]
      have := hvf (fnd (cs.zip l))
      rw [vals_one, vals_one] at this
      cases h6 : nv (wo (fnd (cs.zip l))) n' k' with
      | error c =>
        cases h7 : nv (wo (fnd (cs.zip l))) n k with
        | error c' => rw [h6, h7] at this; cases this; rfl
        | ok x => rw [h6, h7] at this; cases this
      | ok x =>
        cases h7 : nv (wo (fnd (cs.zip l))) n k with
        | error c' => rw [h6, h7] at this; cases this
        | ok y => rw [h6, h7] at this; cases this; rfl
    · unfold ev
      rw [if_neg (show ¬ ck (k'.flat ++ [n']) ≠ 0 by simp [hck]), if_neg (show ¬ ck (k.flat ++ [n]) ≠ 0 by simp [h]), if_pos hco, if_pos hco]
end EV
end Go.Proofs.YtjljohmflhmkmaaGreatDoor
namespace Go.Proofs.YtjljohmflhmkmaaGreatDoor
set_option linter.unusedVariables false
set_option linter.unusedSimpArgs false
namespace EV
open VM EX
/-- the op that Not turns an And, an Or into -/
def flp (b : Bool) (op : Int) : Int := if b = true then (if op = 16 then 17 else 16) else op
def notN : Nd := ⟨4, 1, nul, ⟨#[]⟩⟩
/-- what trees become, or what becomes of Not of them -/
def pf : Bool → F → F
  | b, .nil => .nil
  | b, .nd n k s =>
    if n.op = 4 then F.app (pf (!b) k) (pf b s)
    else if n.op = 16 ∨ n.op = 17 then .nd ⟨flp b n.op, n.kids, n.v, n.nm⟩ (pf b k) (pf b s)
    else if b = false then .nd n k (pf b s)
    else if cpt n.op ≠ 0 then .nd ⟨cpt n.op, n.kids, n.v, n.nm⟩ k (pf b s)
    else .nd notN (.nd n k .nil) (pf b s)
/-- ops -/
theorem op_in {n : Nd} (h : nchk n = 0) : 1 ≤ n.op ∧ n.op ≤ 25 := by
  unfold nchk at h
  split at h
  · cases h
  · omega
theorem nchk_parts {n : Nd} (h : nchk n = 0) : (1 ≤ n.op ∧ n.op ≤ 25) ∧ kl n.op ≤ n.kids ∧ n.kids ≤ km n.op ∧ (n.op ≠ 1 → isNul n.v = true) ∧ (n.op ≠ 2 → n.nm.size = 0) := by
  unfold nchk at h
  split at h
  · cases h
  split at h
  · cases h
  split at h
  · cases h
  split at h
  · cases h
  rename_i h1 h2 h3 h4
  refine ⟨by omega, by omega, by omega, fun h5 => ?_, fun h5 => ?_⟩
  · cases hb : isNul n.v with
    | true => rfl
    | false => exact absurd ⟨h5, hb⟩ h3
  · by_cases h6 : n.nm.size = 0
    · exact h6
    · exact absurd ⟨h5, h6⟩ h4
theorem nchk_op {n : Nd} (h : nchk n = 0) (op : Int) (h1 : 3 ≤ n.op) (h2 : 3 ≤ op) (h3 : op ≤ 25) (hkl : kl op = kl n.op) (hkm : km op = km n.op) : nchk ⟨op, n.kids, n.v, n.nm⟩ = 0 := by
  obtain ⟨_, h4, h5, h6, h7⟩ := nchk_parts h
  show (if op < 1 ∨ 25 < op then 7 else if n.kids < kl op ∨ km op < n.kids then 1 else if op ≠ 1 ∧ isNul n.v = false then 1 else if op ≠ 2 ∧ n.nm.size ≠ 0 then 1 else if op = 1 then lchk n.v else if op = 2 ∧ LX.nm n.nm.data.toList = false then 1 else 0) = 0
  rw [hkl, hkm, if_neg (by omega), if_neg (by omega), if_neg (by rw [h6 (by omega)]; simp), if_neg (by rw [h7 (by omega)]; simp), if_neg (by omega), if_neg (by intro h; omega)]
theorem nchk_not : nchk notN = 0 := by
  show (if (4 : Int) < 1 ∨ (25 : Int) < 4 then 7 else if (1 : Int) < kl 4 ∨ km 4 < 1 then 1 else if (4 : Int) ≠ 1 ∧ isNul nul = false then 1 else if (4 : Int) ≠ 2 ∧ (⟨#[]⟩ : ByteArray).size ≠ 0 then 1 else if (4 : Int) = 1 then lchk nul else if (4 : Int) = 2 ∧ LX.nm (⟨#[]⟩ : ByteArray).data.toList = false then 1 else 0) = 0
  rw [if_neg (by decide), if_neg (by decide), if_neg (by decide), if_neg (by simp [ByteArray.size]), if_neg (by decide), if_neg (by simp)]
theorem cpt_in {op : Int} (h : cpt op ≠ 0) : op = 10 ∨ op = 11 ∨ op = 12 ∨ op = 13 ∨ op = 14 ∨ op = 15 ∨ op = 18 ∨ op = 19 ∨ op = 20 ∨ op = 21 ∨ op = 22 ∨ op = 23 ∨ op = 24 ∨ op = 25 := by
  by_cases hop : op = 10 ∨ op = 11 ∨ op = 12 ∨ op = 13 ∨ op = 14 ∨ op = 15 ∨ op = 18 ∨ op = 19 ∨ op = 20 ∨ op = 21 ∨ op = 22 ∨ op = 23 ∨ op = 24 ∨ op = 25
  · exact hop
  · refine absurd ?_ h
    unfold cpt
    rw [if_neg (by omega), if_neg (by omega), if_neg (by omega), if_neg (by omega), if_neg (by omega), if_neg (by omega), if_neg (by omega), if_neg (by omega), if_neg (by omega), if_neg (by omega), if_neg (by omega), if_neg (by omega), if_neg (by omega), if_neg (by omega)]
theorem cpt_cpt {op : Int} (h : cpt op ≠ 0) : cpt (cpt op) = op ∧ cpt op ≠ 4 ∧ cpt op ≠ 16 ∧ cpt op ≠ 17 ∧ kl (cpt op) = kl op ∧ km (cpt op) = km op ∧ 3 ≤ cpt op ∧ cpt op ≤ 25 := by
  rcases cpt_in h with rfl | rfl | rfl | rfl | rfl | rfl | rfl | rfl | rfl | rfl | rfl | rfl | rfl | rfl <;> decide
theorem flp_in (b : Bool) {op : Int} (h : op = 16 ∨ op = 17) : (flp b op = 16 ∨ flp b op = 17) ∧ kl (flp b op) = kl op ∧ km (flp b op) = km op := by
  rcases h with rfl | rfl <;> cases b <;> decide
theorem flp_flp {op : Int} (h : op = 16 ∨ op = 17) : flp true (flp true op) = op := by
  rcases h with rfl | rfl <;> decide
theorem kids_not {n : Nd} {k : F} (h : nchk n = 0) (h4 : n.op = 4) (hk : n.kids = (k.len : Int)) : k.len = 1 := by
  obtain ⟨_, h1, h2, _⟩ := nchk_parts h
  rw [h4] at h1 h2
  have e1 : kl 4 = 1 := by decide
  have e2 : km 4 = 1 := by decide
  omega
theorem pf_len : ∀ (t : F) (b : Bool), t.good → (pf b t).len = t.len
  | .nil, b, _ => rfl
  | .nd n k s, b, h => by
    have h1 := pf_len k (!b) h.2.2.1
    have h3 := pf_len s b h.2.2.2
    unfold pf
    split
    · rename_i h4
      rw [F.len_app, h1, h3, kids_not h.1 h4 h.2.1]
      simp only [F.len]
      omega
    split
    · simp only [F.len, h3]
    split
    · simp only [F.len, h3]
    split
    · simp only [F.len, h3]
    · simp only [F.len, h3]
theorem pf_good : ∀ (t : F) (b : Bool), t.good → (pf b t).good
  | .nil, b, _ => trivial
  | .nd n k s, b, h => by
    have h3 := pf_good s b h.2.2.2
    have ho := op_in h.1
    unfold pf
    split
    · exact F.good_app (pf_good k (!b) h.2.2.1) h3
    rename_i h4
    split
    · rename_i h5
      obtain ⟨f1, f2, f3⟩ := flp_in b h5
      exact ⟨nchk_op h.1 _ (by omega) (by omega) (by omega) f2 f3, by rw [pf_len k b h.2.2.1]; exact h.2.1, pf_good k b h.2.2.1, h3⟩
    split
    · exact ⟨h.1, h.2.1, h.2.2.1, h3⟩
    split
    · rename_i h6
      obtain ⟨_, _, _, _, f2, f3, f4, f5⟩ := cpt_cpt h6
      have := cpt_in h6
      exact ⟨nchk_op h.1 _ (by omega) f4 f5 f2 f3, h.2.1, h.2.2.1, h3⟩
    · exact ⟨nchk_not, rfl, ⟨h.1, h.2.1, h.2.2.1, trivial⟩, h3⟩
/-- what a pushed expression's trees look like -/
def nf : F → Prop
  | .nil => True
  | .nd n k s => (if n.op = 4 then n = notN ∧ ∃ n' k', k = .nd n' k' .nil ∧ n'.op ≠ 4 ∧ n'.op ≠ 16 ∧ n'.op ≠ 17 ∧ cpt n'.op = 0 else if n.op = 16 ∨ n.op = 17 then nf k else True) ∧ nf s
theorem nf_app : ∀ {s t : F}, nf s → nf t → nf (F.app s t)
  | .nil, t, _, h => h
  | .nd n k s, t, h, ht => by
    unfold nf at h
    unfold F.app nf
    exact ⟨h.1, nf_app h.2 ht⟩
theorem pf_nf : ∀ (t : F) (b : Bool), nf (pf b t)
  | .nil, b => by unfold pf nf; trivial
  | .nd n k s, b => by
    have h3 := pf_nf s b
    unfold pf
    split
    · exact nf_app (pf_nf k (!b)) h3
    rename_i h4
    split
    · rename_i h5
      unfold nf
      refine ⟨?_, h3⟩
      obtain ⟨f1, _, _⟩ := flp_in b h5
      rw [if_neg (by show ¬ flp b n.op = 4; omega), if_pos f1]
      exact pf_nf k b
    rename_i h5
    split
    · unfold nf
      refine ⟨?_, h3⟩
      rw [if_neg h4, if_neg h5]
      trivial
    split
    · rename_i h6
      unfold nf
      refine ⟨?_, h3⟩
      obtain ⟨_, g1, g2, g3, _⟩ := cpt_cpt h6
      rw [if_neg g1, if_neg (by show ¬ (cpt n.op = 16 ∨ cpt n.op = 17); omega)]
      trivial
    · rename_i h6
      unfold nf
      refine ⟨?_, h3⟩
      rw [if_pos (show notN.op = 4 from rfl)]
      exact ⟨rfl, n, k, rfl, h4, by omega, by omega, by omega⟩
/-- Not of it, pushed, pushed again, is it -/
theorem pf_pf : ∀ (t : F), nf t → t.good → pf true (pf true t) = t
  | .nil, _, _ => by unfold pf; unfold pf; rfl
  | .nd n k s, h, hg => by
    have ho := op_in hg.1
    unfold nf at h
    obtain ⟨h1, h2⟩ := h
    have h3 := pf_pf s h2 hg.2.2.2
    by_cases h4 : n.op = 4
    · rw [if_pos h4] at h1
      obtain ⟨rfl, n', k', rfl, g1, g2, g3, g4⟩ := h1
      have e1 : pf true (.nd notN (.nd n' k' .nil) s) = .nd n' k' (pf true s) := by
        rw [pf, if_pos (show notN.op = 4 from rfl)]
        show F.app (pf false (.nd n' k' .nil)) (pf true s) = _
        rw [pf, if_neg g1, if_neg (by omega), if_pos rfl]
        show F.nd n' k' (F.app (pf false .nil) (pf true s)) = _
        rfl
      rw [e1, pf, if_neg g1, if_neg (by omega), if_neg (by simp), if_neg (by simp [g4]), h3]
    rw [if_neg h4] at h1
    by_cases h5 : n.op = 16 ∨ n.op = 17
    · rw [if_pos h5] at h1
      obtain ⟨f1, _, _⟩ := flp_in true h5
      have e1 : pf true (.nd n k s) = .nd ⟨flp true n.op, n.kids, n.v, n.nm⟩ (pf true k) (pf true s) := by rw [pf, if_neg h4, if_pos h5]
      rw [e1, pf, if_neg (by show ¬ flp true n.op = 4; omega), if_pos f1, h3, pf_pf k h1 hg.2.2.1]
      show F.nd ⟨flp true (flp true n.op), n.kids, n.v, n.nm⟩ k s = _
      rw [flp_flp h5]
    by_cases h6 : cpt n.op ≠ 0
    · obtain ⟨g0, g1, g2, g3, _⟩ := cpt_cpt h6
      have e1 : pf true (.nd n k s) = .nd ⟨cpt n.op, n.kids, n.v, n.nm⟩ k (pf true s) := by rw [pf, if_neg h4, if_neg h5, if_neg (by simp), if_pos h6]
      have h7 : cpt (cpt n.op) ≠ 0 := by rw [g0]; omega
      rw [e1, pf, if_neg g1, if_neg (by show ¬ (cpt n.op = 16 ∨ cpt n.op = 17); omega), if_neg (by simp), if_pos h7, h3]
      show F.nd ⟨cpt (cpt n.op), n.kids, n.v, n.nm⟩ k s = _
      rw [g0]
    · have e1 : pf true (.nd n k s) = .nd notN (.nd n k .nil) (pf true s) := by rw [pf, if_neg h4, if_neg h5, if_neg (by simp), if_neg h6]
      rw [e1, pf, if_pos (show notN.op = 4 from rfl)]
      show F.app (pf false (.nd n k .nil)) (pf true (pf true s)) = _
      rw [pf, if_neg h4, if_neg h5, if_pos rfl, h3]
      rfl
/-- the truth of what is told, if there is one -/
def tt : Except Nat Vl → Option Int
  | .error _ => none
  | .ok v => match tr v with
    | .error _ => none
    | .ok t => some t
def ttF (f : List UInt8 → Option Vl) : F → Option (List Int)
  | .nil => some []
  | .nd n k s => match tt (nv (wo f) n k) with
    | none => none
    | some t => match ttF f s with
      | none => none
      | some ts => some (t :: ts)
theorem ttF_app (f : List UInt8 → Option Vl) : ∀ (s t : F), ttF f (F.app s t) = match ttF f s with
    | none => none
    | some a => match ttF f t with
      | none => none
      | some b => some (a ++ b)
  | .nil, t => by
    show ttF f t = _
    simp only [ttF]
    cases ttF f t <;> rfl
  | .nd n k s, t => by
    simp only [F.app, ttF, ttF_app f s t]
    cases tt (nv (wo f) n k) with
    | none => rfl
    | some x =>
      cases ttF f s with
      | none => rfl
      | some a => cases ttF f t <;> rfl
theorem ttF_vals (f : List UInt8 → Option Vl) : ∀ (t : F), ttF f t = match vals (wo f) t with
    | .error _ => none
    | .ok ks => match trs ks with
      | .error _ => none
      | .ok ts => some ts
  | .nil => rfl
  | .nd n k s => by
    rw [ttF, vals_one, ttF_vals f s]
    cases nv (wo f) n k with
    | error c => rfl
    | ok x =>
      cases hv : vals (wo f) s with
      | error c =>
        simp only [tt]
        cases tr x <;> rfl
      | ok ys =>
        simp only [tt, trs]
        cases tr x with
        | error c => rfl
        | ok t =>
          cases trs ys <;> rfl
theorem tr_in {v : Vl} {t : Int} (h : tr v = .ok t) : t = 0 ∨ t = 1 ∨ t = 2 := by
  unfold tr at h
  split at h
  · cases h
  split at h
  · cases h; simp
  split at h
  · cases h; simp
  · cases h; simp
theorem tr_vt (t : Int) : tr (vt t) = .ok (LG.kn t) := by
  unfold vt LG.kn
  by_cases h2 : t = 2
  · subst h2; rfl
  rw [if_neg h2]
  by_cases h0 : t = 0
  · subst h0; rfl
  rw [if_neg h0, if_neg h0, if_neg h2]
  rfl
theorem tt_tl (p : Int × Nat) : tt (tl p) = if p.2 ≠ 0 then none else some (LG.kn p.1) := by
  unfold tl
  split
  · rfl
  · simp only [tt, tr_vt]
theorem tt_in {f : List UInt8 → Option Vl} {n : Nd} {k : F} {t : Int} (h : tt (nv (wo f) n k) = some t) : t = 0 ∨ t = 1 ∨ t = 2 := by
  unfold tt at h
  split at h
  · cases h
  split at h
  · cases h
  · rename_i ht
    cases h
    exact tr_in ht
theorem jn_in {op : Int} {l : List Vl} {t : Int} (h : jn op l = .ok t) : LG.kn t = t := by
  unfold jn at h
  split at h
  · cases h
  split at h
  · cases h; exact LG.kn_of (LG.all_in _)
  split at h
  · cases h; exact LG.kn_of (LG.any_in _)
  · cases h; exact LG.kn_of (LG.not_in _)
/-- the truth of an And, an Or, a Not by those of its kids -/
theorem tt_jn (f : List UInt8 → Option Vl) {n : Nd} (k : F) (h : n.op = 16 ∨ n.op = 17 ∨ n.op = 4) : tt (nv (wo f) n k) = match ttF f k with
    | none => none
    | some ts => some (if n.op = 16 then LG.all ts else if n.op = 17 then LG.any ts else LG.not (ts.headD 0)) := by
  rw [ttF_vals]
  unfold nv
  cases vals (wo f) k with
  | error c => rfl
  | ok ks =>
    have hw : wo f n ks = tl (two_ (jn n.op ks)) := by
      unfold wo
      rw [if_neg (by omega), if_neg (by omega), if_neg (by omega), if_pos h]
    simp only [hw, tt_tl]
    cases ht : trs ks with
    | error c =>
      have hj : jn n.op ks = .error c := by unfold jn; rw [ht]
      have hc : c ≠ 0 := by
        have key : ∀ (l : List Vl) (c : Nat), trs l = .error c → c ≠ 0 := by
          intro l
          induction l with
          | nil => intro c h; cases h
          | cons v r ih =>
            intro c h
            unfold trs at h
            split at h
            · rename_i hc; cases h; exact tr_ne hc
            · split at h
              · rename_i hc; cases h; exact ih _ hc
              · cases h
        exact key _ _ ht
      rw [hj]
      show (if c ≠ 0 then none else _) = _
      rw [if_pos hc]
    | ok ts =>
      have hj : jn n.op ks = .ok (if n.op = 16 then LG.all ts else if n.op = 17 then LG.any ts else LG.not (ts.headD 0)) := by
        unfold jn
        rw [ht]
        simp only
        split
        · rfl
        split <;> rfl
      have := jn_in hj
      rw [hj]
      simp only
      generalize (if n.op = 16 then LG.all ts else if n.op = 17 then LG.any ts else LG.not (ts.headD 0)) = X at *
      show (if (0 : Nat) ≠ 0 then none else some (LG.kn X)) = _
      rw [if_neg (by simp), this]
theorem not_not {t : Int} (h : t = 0 ∨ t = 1 ∨ t = 2) : LG.not (LG.not t) = t := by rcases h with rfl | rfl | rfl <;> rfl
theorem not_all : ∀ (l : List Int), LG.any (l.map LG.not) = LG.not (LG.all l)
  | [] => rfl
  | a :: t => by
    have h1 := LG.kn_in a
    have h2 := LG.kn_in (LG.all t)
    simp only [List.map_cons, LG.any, LG.all, not_all t]
    show max (LG.kn (LG.not a)) (LG.kn (LG.not (LG.all t))) = LG.not (LG.and a (LG.all t))
    rw [LG.kn_not, LG.kn_not, LG.not_kn, LG.kn_and]
    omega
theorem not_any : ∀ (l : List Int), LG.all (l.map LG.not) = LG.not (LG.any l)
  | [] => rfl
  | a :: t => by
    have h1 := LG.kn_in a
    have h2 := LG.kn_in (LG.any t)
    simp only [List.map_cons, LG.any, LG.all, not_any t]
    show min (LG.kn (LG.not a)) (LG.kn (LG.not (LG.any t))) = LG.not (LG.or a (LG.any t))
    rw [LG.kn_not, LG.kn_not, LG.not_kn, LG.kn_or]
    omega
/-- what has a counterpart, and the counterpart -/
theorem tt_cpt (f : List UInt8 → Option Vl) {n : Nd} (k : F) (h : cpt n.op ≠ 0) : tt (nv (wo f) ⟨cpt n.op, n.kids, n.v, n.nm⟩ k) = (tt (nv (wo f) n k)).map LG.not := by
  unfold nv
  cases vals (wo f) k with
  | error c => rfl
  | ok ks =>
    have h1 : ∀ op : Int, (op = 10 ∨ op = 11 ∨ op = 12 ∨ op = 13 ∨ op = 14 ∨ op = 15 ∨ op = 18 ∨ op = 19 ∨ op = 20 ∨ op = 21 ∨ op = 22 ∨ op = 23 ∨ op = 24 ∨ op = 25) → ∀ a b c, wo f ⟨op, a, b, c⟩ ks = tl (cmp op ks) := by
      intro op hop a b c
      show (if op = 1 then _ else if op = 2 then _ else if op = 3 ∨ (5 ≤ op ∧ op ≤ 9) then _ else if op = 16 ∨ op = 17 ∨ op = 4 then _ else _) = _
      rw [if_neg (by omega), if_neg (by omega), if_neg (by omega), if_neg (by omega)]
    obtain ⟨op, a, b, c⟩ := n
    have hin := cpt_in h
    have hin2 : cpt (cpt op) ≠ 0 := by rw [(cpt_cpt h).1]; show op ≠ 0; simp only at hin; omega
    simp only at h hin ⊢
    rw [h1 op hin, h1 _ (cpt_in hin2)]
    have hc : (cmp (cpt op) ks).2 = (cmp op ks).2 ∧ LG.kn (cmp (cpt op) ks).1 = LG.not (LG.kn (cmp op ks).1) := by
      have hnk : ∀ x, LG.kn (LG.not x) = LG.not (LG.kn x) := fun x => by
        rcases LG.kn_in x with h | h | h <;> rw [LG.kn_not, h] <;> rfl
      have hkk : ∀ x, LG.kn x = LG.not (LG.kn (LG.not x)) := fun x => by
        rcases LG.kn_in x with h | h | h <;> rw [LG.kn_not, h] <;> rfl
      rcases hin with rfl | rfl | rfl | rfl | rfl | rfl | rfl | rfl | rfl | rfl | rfl | rfl | rfl | rfl
      · exact ⟨rfl, hnk _⟩
      · exact ⟨rfl, hkk _⟩
      · exact ⟨rfl, hnk _⟩
      · exact ⟨rfl, hkk _⟩
      · exact ⟨rfl, hnk _⟩
      · exact ⟨rfl, hkk _⟩
      · exact ⟨rfl, hnk _⟩
      · exact ⟨rfl, hkk _⟩
      · exact ⟨rfl, hnk _⟩
      · exact ⟨rfl, hkk _⟩
      · exact ⟨rfl, hnk _⟩
      · exact ⟨rfl, hkk _⟩
      · exact ⟨rfl, hnk _⟩
      · exact ⟨rfl, hkk _⟩
    rw [tt_tl, tt_tl, hc.1, hc.2]
    split <;> rfl
/-- a truth of one of two -/
def bn (b : Bool) (t : Int) : Int := if b = true then LG.not t else t
theorem pf_truth (f : List UInt8 → Option Vl) : ∀ (t : F) (b : Bool), t.good → ttF f (pf b t) = (ttF f t).map (List.map (bn b))
  | .nil, b, _ => by unfold pf; rfl
  | .nd n k s, b, hg => by
    have hs := pf_truth f s b hg.2.2.2
    have hgo : ∀ n' k', tt (nv (wo f) n' k') = (tt (nv (wo f) n k)).map (bn b) → ttF f (.nd n' k' (pf b s)) = (ttF f (.nd n k s)).map (List.map (bn b)) := by
      intro n' k' h
      rw [ttF, ttF, h, hs]
      cases tt (nv (wo f) n k) with
      | none => rfl
      | some t => cases ttF f s <;> rfl
    rw [pf]
    by_cases h4 : n.op = 4
    · rw [if_pos h4]
      have hk := pf_truth f k (!b) hg.2.2.1
      rw [ttF_app, hs, hk, ttF, tt_jn f k (by omega)]
      have hlen : ∀ ts, ttF f k = some ts → ∃ t, ts = [t] ∧ (t = 0 ∨ t = 1 ∨ t = 2) := by
        intro ts hts
        have h1 := kids_not hg.1 h4 hg.2.1
        cases k with
        | nil => cases h1
        | nd n' k' s' =>
          cases s' with
          | nd _ _ _ => simp only [F.len] at h1; omega
          | nil =>
            rw [ttF] at hts
            cases htt : tt (nv (wo f) n' k') with
            | none => rw [htt] at hts; cases hts
            | some t =>
              rw [htt] at hts
              cases hts
              exact ⟨t, rfl, tt_in htt⟩
      cases hts : ttF f k with
      | none => rfl
      | some ts =>
        obtain ⟨t, rfl, ht⟩ := hlen ts hts
        simp only [Option.map_some, List.map_cons, List.map_nil]
        rw [if_neg (by omega), if_neg (by omega)]
        simp only [List.headD_cons]
        cases ttF f s with
        | none => rfl
        | some ss =>
          simp only [Option.map_some, List.map_cons, List.cons_append, List.nil_append]
          congr 2
          cases b with
          | false => rfl
          | true => exact (not_not ht).symm
    rw [if_neg h4]
    by_cases h5 : n.op = 16 ∨ n.op = 17
    · rw [if_pos h5]
      refine hgo _ _ ?_
      obtain ⟨f1, _, _⟩ := flp_in b h5
      have hk := pf_truth f k b hg.2.2.1
      rw [tt_jn f _ (by show flp b n.op = 16 ∨ flp b n.op = 17 ∨ flp b n.op = 4; omega), tt_jn f k (by omega), hk]
      cases ttF f k with
      | none => rfl
      | some ts =>
        simp only [Option.map_some]
        congr 1
        cases b with
        | false =>
          show (if n.op = 16 then _ else if n.op = 17 then _ else _) = _
          have e : ts.map (bn false) = ts := by
            have : bn false = id := by funext x; rfl
            rw [this, List.map_id]
          rw [e]
          rfl
        | true =>
          have e : ts.map (bn true) = ts.map LG.not := rfl
          rw [e]
          rcases h5 with h5 | h5
          · show (if flp true n.op = 16 then _ else if flp true n.op = 17 then _ else _) = LG.not _
            rw [h5, if_neg (by decide), if_pos (by decide), if_pos rfl, not_all]
          · show (if flp true n.op = 16 then _ else if flp true n.op = 17 then _ else _) = LG.not _
            rw [h5, if_pos (by decide), if_neg (by decide), if_pos rfl, not_any]
    rw [if_neg h5]
    cases b with
    | false =>
      rw [if_pos rfl]
      refine hgo _ _ ?_
      cases tt (nv (wo f) n k) <;> rfl
    | true =>
      rw [if_neg (by simp)]
      by_cases h6 : cpt n.op ≠ 0
      · rw [if_pos h6]
        exact hgo _ _ (tt_cpt f k h6)
      · rw [if_neg h6]
        refine hgo _ _ ?_
        rw [tt_jn f _ (by exact .inr (.inr rfl)), ttF]
        cases tt (nv (wo f) n k) with
        | none => rfl
        | some t => rfl
end EV
end Go.Proofs.YtjljohmflhmkmaaGreatDoor
