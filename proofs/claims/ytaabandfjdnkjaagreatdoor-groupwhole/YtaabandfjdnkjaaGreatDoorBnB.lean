/-
  What is told of all is told of what is told of the groups. Plain lists.
-/
import Derived.Test.YtaabandfjdnkjaaGreatDoorGqF
import Derived.Test.YtaabandfjdnkjaaGreatDoorGqC
namespace Go.Proofs.YtaabandfjdnkjaaGreatDoor
set_option linter.unusedVariables false
set_option linter.unusedSimpArgs false
set_option maxRecDepth 100000
namespace BG
open VM
theorem cmp00 {a b : Vl} (h : chkAll [a, b] = 0) : CM.cmp a b = CM.ord a b := if_pos h
theorem cbq (a b : UInt8) (l m : List UInt8) : Lib.compareBytes (a :: l) (b :: m) = if a.toNat < b.toNat then -1 else if b.toNat < a.toNat then 1 else Lib.compareBytes l m := by
  rw [Lib.compareBytes]
  simp only [UInt8.lt_iff_toNat_lt]
theorem cb00 : ∀ {l m : List UInt8}, Lib.compareBytes l m = 0 ↔ l = m := by
  intro l
  induction l with
  | nil => intro m; cases m <;> simp [Lib.compareBytes]
  | cons a t ih =>
    intro m
    cases m with
    | nil => simp [Lib.compareBytes]
    | cons b u =>
      rw [cbq]
      by_cases h1 : a.toNat < b.toNat
      · rw [if_pos h1]
        have : a ≠ b := by rintro rfl; omega
        simp [this]
      · rw [if_neg h1]
        by_cases h2 : b.toNat < a.toNat
        · rw [if_pos h2]
          have : a ≠ b := by rintro rfl; omega
          simp [this]
        · rw [if_neg h2]
          obtain rfl : a = b := UInt8.toNat_inj.1 (by omega)
          simp [ih]
theorem ord00 (a b : Vl) : CM.ord a b = 0 ↔ a = b := by
  constructor
  · intro h
    have h1 := (SM.ord_le a b).1 (by omega)
    have h2 := (SM.ord_le b a).1 (by rw [SM.ord_anti]; omega)
    have hk : a.k = b.k := by omega
    have hn : a.n = b.n := by omega
    have h3 : Lib.compareBytes a.s.data.toList b.s.data.toList = 0 := by
      have e := SM.cb_anti a.s.data.toList b.s.data.toList
      have p1 : Lib.compareBytes a.s.data.toList b.s.data.toList ≤ 0 := by
        rcases h1 with h | ⟨_, h | ⟨_, h⟩⟩
        · omega
        · omega
        · exact h
      have p2 : Lib.compareBytes b.s.data.toList a.s.data.toList ≤ 0 := by
        rcases h2 with h | ⟨_, h | ⟨_, h⟩⟩
        · omega
        · omega
        · exact h
      omega
    have hs : a.s = b.s := by
      have := cb00.1 h3
      cases ha : a.s; cases hb : b.s
      rw [ha, hb] at this
      simp at this
      rw [this]
    cases a; cases b
    simp only at hk hn hs
    rw [hk, hn, hs]
  · rintro rfl
    have := SM.ord_anti a a
    omega
theorem cb3 : ∀ l m : List UInt8, Lib.compareBytes l m = -1 ∨ Lib.compareBytes l m = 0 ∨ Lib.compareBytes l m = 1
  | [], [] => by simp [Lib.compareBytes]
  | [], _ :: _ => by simp [Lib.compareBytes]
  | _ :: _, [] => by simp [Lib.compareBytes]
  | a :: l, b :: m => by
    rw [Lib.compareBytes]
    split
    · exact .inl rfl
    · split
      · exact .inr (.inr rfl)
      · exact cb3 l m
theorem ci3 (a b : Int) : CM.ci a b = -1 ∨ CM.ci a b = 0 ∨ CM.ci a b = 1 := by
  unfold CM.ci; repeat' split
  all_goals omega
theorem or33 {a b c : Int} (h1 : a = -1 ∨ a = 0 ∨ a = 1) (h2 : b = -1 ∨ b = 0 ∨ b = 1) (h3 : c = -1 ∨ c = 0 ∨ c = 1) : CM.or3 a b c = -1 ∨ CM.or3 a b c = 0 ∨ CM.or3 a b c = 1 := by
  unfold CM.or3; split
  · exact h1
  · split
    · exact h2
    · exact h3
theorem ord3 (a b : Vl) : CM.ord a b = -1 ∨ CM.ord a b = 0 ∨ CM.ord a b = 1 := by
  unfold CM.ord
  exact or33 (ci3 _ _) (ci3 _ _) (cb3 _ _)
/-- as good, from a side -/
def Lq (s : Int) (a b : Vl) : Prop := if s = -1 then CM.ord a b ≤ 0 else CM.ord b a ≤ 0
theorem better {s : Int} (hs : s = -1 ∨ s = 1) (v f : Vl) : CM.ord v f = s ↔ ¬ Lq s f v := by
  have h := ord3 v f
  have a := SM.ord_anti v f
  unfold Lq
  rcases hs with rfl | rfl
  · rw [if_pos rfl]; omega
  · rw [if_neg (by decide)]; omega
theorem lq_trans {s : Int} {a b c : Vl} (h1 : Lq s a b) (h2 : Lq s b c) : Lq s a c := by
  unfold Lq at *
  split
  · rename_i e; rw [if_pos e] at h1 h2; exact SM.ord_trans _ _ _ h1 h2
  · rename_i e; rw [if_neg e] at h1 h2; exact SM.ord_trans _ _ _ h2 h1
theorem lq_total (s : Int) (a b : Vl) : Lq s a b ∨ Lq s b a := by
  have h := SM.ord_anti a b
  unfold Lq
  split <;> omega
theorem lq_anti {s : Int} {a b : Vl} (h1 : Lq s a b) (h2 : Lq s b a) : a = b := by
  have h := SM.ord_anti a b
  refine (ord00 a b).1 ?_
  unfold Lq at *
  split at h1
  · rename_i e; rw [if_pos e] at h2; omega
  · rename_i e; rw [if_neg e] at h2; omega
theorem far_spec {s : Int} (hs : s = -1 ∨ s = 1) : ∀ (l : List Vl) (x : Vl), VM.chk x = 0 → (∀ v ∈ l, VM.chk v = 0) → far s x l ∈ x :: l ∧ ∀ y ∈ x :: l, Lq s (far s x l) y
  | [], x, _, _ => ⟨by simp [far], fun y hy => by
      simp at hy; subst hy
      rcases lq_total s y y with h | h <;> exact h⟩
  | v :: t, x, hx, hl => by
    have hv := hl v (by simp)
    have hc : CM.cmp v x = CM.ord v x := cmp00 (by simp [chkAll, hv, hx])
    have e : far s x (v :: t) = far s (if CM.cmp v x = s then v else x) t := rfl
    rw [e, hc]
    by_cases h : CM.ord v x = s
    · rw [if_pos h]
      obtain ⟨h1, h2⟩ := far_spec hs t v hv (fun y hy => hl y (by simp [hy]))
      refine ⟨List.mem_cons_of_mem _ h1, fun y hy => ?_⟩
      rcases List.mem_cons.1 hy with rfl | hy
      · refine lq_trans (h2 v (by simp)) ?_
        rcases lq_total s v y with g | g
        · exact g
        · exact absurd g ((better hs v y).1 h)
      · exact h2 y hy
    · rw [if_neg h]
      obtain ⟨h1, h2⟩ := far_spec hs t x hx (fun y hy => hl y (by simp [hy]))
      refine ⟨?_, fun y hy => ?_⟩
      · rcases List.mem_cons.1 h1 with h1 | h1
        · rw [h1]; simp
        · exact List.mem_cons_of_mem _ (List.mem_cons_of_mem _ h1)
      · rcases List.mem_cons.1 hy with rfl | hy
        · exact h2 y (by simp)
        · rcases List.mem_cons.1 hy with rfl | hy
          · refine lq_trans (h2 x (by simp)) ?_
            exact Classical.not_not.1 fun g => h ((better hs y x).2 g)
          · exact h2 y (List.mem_cons_of_mem _ hy)
theorem far_hd {s : Int} (hs : s = -1 ∨ s = 1) {V : List Vl} (h0 : V ≠ []) (hV : ∀ v ∈ V, VM.chk v = 0) : far s (V.headD nulV) V ∈ V ∧ ∀ y ∈ V, Lq s (far s (V.headD nulV) V) y := by
  cases V with
  | nil => exact absurd rfl h0
  | cons h t =>
    obtain ⟨h1, h2⟩ := far_spec hs (h :: t) h (hV h (by simp)) hV
    refine ⟨?_, fun y hy => h2 y (List.mem_cons_of_mem _ hy)⟩
    rcases List.mem_cons.1 h1 with h1 | h1
    · show far s h (h :: t) ∈ h :: t
      rw [h1]; simp
    · exact h1
/-- the best of the best ones -/
theorem far_far {s : Int} (hs : s = -1 ∨ s = 1) {V : List Vl} {Vs : List (List Vl)} (hV : ∀ v ∈ V, VM.chk v = 0) (hn : ∀ W ∈ Vs, W ≠ []) (hm : ∀ v, v ∈ V ↔ ∃ W ∈ Vs, v ∈ W) (h0 : V ≠ []) :
    far s ((Vs.map fun W => far s (W.headD nulV) W).headD nulV) (Vs.map fun W => far s (W.headD nulV) W) = far s (V.headD nulV) V := by
  have hW : ∀ W ∈ Vs, ∀ v ∈ W, VM.chk v = 0 := fun W hW v hv => hV v ((hm v).2 ⟨W, hW, hv⟩)
  have hMn : ∀ v ∈ Vs.map (fun W => far s (W.headD nulV) W), v ∈ V := by
    intro v hv
    obtain ⟨W, h1, rfl⟩ := List.mem_map.1 hv
    exact (hm _).2 ⟨W, h1, (far_hd hs (hn W h1) (hW W h1)).1⟩
  have hM0 : Vs.map (fun W => far s (W.headD nulV) W) ≠ [] := by
    obtain ⟨v, hv⟩ := List.exists_mem_of_ne_nil V h0
    obtain ⟨W, h1, _⟩ := (hm v).1 hv
    intro e
    have := List.map_eq_nil_iff.1 e
    rw [this] at h1; cases h1
  obtain ⟨a1, a2⟩ := far_hd hs hM0 (fun v hv => hV v (hMn v hv))
  obtain ⟨b1, b2⟩ := far_hd hs h0 hV
  refine lq_anti ?_ (b2 _ (hMn _ a1))
  obtain ⟨W, h1, h2⟩ := (hm _).1 b1
  exact lq_trans (a2 _ (List.mem_map.2 ⟨W, h1, rfl⟩)) ((far_hd hs (hn W h1) (hW W h1)).2 _ h2)
/-- what is told where all is told -/
def vl (e : Except Nat (List Vl)) : List Vl := match e with
  | .ok x => x
  | .error _ => []
theorem mp_inv {α : Type} {f : α → Except Nat (List Vl)} : ∀ {l : List α} {r : List (List Vl)}, mp f l = .ok r → r = l.map (fun a => vl (f a)) ∧ ∀ a ∈ l, f a = .ok (vl (f a))
  | [], r, h => by cases h; exact ⟨rfl, fun a ha => by cases ha⟩
  | a :: t, r, h => by
    cases hf : f a with
    | error c => rw [mp_err hf] at h; cases h
    | ok x =>
      rw [mp_ok hf] at h
      cases ht : mp f t with
      | error c => rw [ht] at h; cases h
      | ok r' =>
        rw [ht] at h
        cases h
        obtain ⟨h1, h2⟩ := mp_inv ht
        refine ⟨?_, fun b hb => ?_⟩
        · rw [List.map_cons, hf, ← h1]; rfl
        · rcases List.mem_cons.1 hb with rfl | hb
          · rw [hf]; rfl
          · exact h2 b hb
theorem mp4 {f : Ag → Except Nat Vl} {a b c d : Ag} {r : List Vl} (h : mp f [a, b, c, d] = .ok r) : ∃ x y z u, f a = .ok x ∧ f b = .ok y ∧ f c = .ok z ∧ f d = .ok u ∧ r = [x, y, z, u] := by
  cases ha : f a with
  | error e => rw [mp_err ha] at h; cases h
  | ok x =>
    rw [mp_ok ha] at h
    cases hb : f b with
    | error e => rw [mp_err hb] at h; cases h
    | ok y =>
      rw [mp_ok hb] at h
      cases hc : f c with
      | error e => rw [mp_err hc] at h; cases h
      | ok z =>
        rw [mp_ok hc] at h
        cases hd : f d with
        | error e => rw [mp_err hd] at h; cases h
        | ok u =>
          rw [mp_ok hd] at h
          cases h
          exact ⟨x, y, z, u, rfl, rfl, rfl, rfl, rfl⟩
def A4 (c : Int) : List Ag := [⟨1, c⟩, ⟨2, c⟩, ⟨3, c⟩, ⟨4, c⟩]
def B4 : List Ag := [⟨2, 1⟩, ⟨2, 2⟩, ⟨3, 3⟩, ⟨4, 4⟩]
/-- what four things tell of rows -/
def sm4 (V : List Vl) : Vl := if V = [] then nulV else ⟨1, (V.map (·.n)).sum, ⟨#[]⟩⟩
def fr4 (s : Int) (V : List Vl) : Vl := if V = [] then nulV else far s (V.headD nulV) V
def okS (V : List Vl) : Prop := V = [] ∨ (V.all (fun x => decide (x.k = 1)) = true ∧ V.length ≤ 40 ∧ WH.err (V.map (·.n)).sum = 0)
theorem tel4 {ls : List (List Vl)} {c : Int} (hc : 0 ≤ c) {r : List Vl} (h : mp (tel ls) (A4 c) = .ok r) :
    r = [⟨1, ((vls ls c.toNat).length : Int), ⟨#[]⟩⟩, sm4 (vls ls c.toNat), fr4 (-1) (vls ls c.toNat), fr4 1 (vls ls c.toNat)] ∧ okS (vls ls c.toNat) := by
  obtain ⟨x, y, z, u, h1, h2, h3, h4, rfl⟩ := mp4 h
  unfold tel at h1 h2 h3 h4
  simp only at h1 h2 h3 h4
  rw [if_neg (by omega), if_pos trivial] at h1
  rw [if_neg (by omega), if_neg (by decide)] at h2 h3 h4
  cases h1
  unfold sm4 fr4 okS
  by_cases hv : vls ls c.toNat = []
  · rw [if_pos hv] at h2 h3 h4
    cases h2; cases h3; cases h4
    rw [if_pos hv, if_pos hv, if_pos hv]
    exact ⟨rfl, .inl hv⟩
  · rw [if_neg hv] at h2 h3 h4
    rw [if_neg hv, if_neg hv, if_neg hv]
    rw [if_pos trivial] at h2
    rw [if_neg (by decide), if_pos trivial] at h3
    rw [if_neg (by decide), if_neg (by decide)] at h4
    cases h3; cases h4
    unfold smO at h2
    split at h2
    · cases h2
    rename_i q1
    split at h2
    · cases h2
    rename_i q2
    split at h2
    · cases h2
    rename_i q3
    cases h2
    exact ⟨rfl, .inr ⟨by simpa using q1, by omega, by omega⟩⟩
end BG
end Go.Proofs.YtaabandfjdnkjaaGreatDoor
