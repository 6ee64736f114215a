/-
  What is known of folded and of pushed expressions, for the statements.
-/
import Derived.Test.YtjljohmflhmkmaaGreatDoorEwE
namespace Go.Proofs.YtjljohmflhmkmaaGreatDoor
set_option linter.unusedVariables false
set_option linter.unusedSimpArgs false
namespace EV
open VM EX
theorem tru_ne {e : List Nd} {cs : List ByteArray} {l : List Vl} {c : Nat} (h : tru e cs l = .error c) : c ≠ 0 := by
  unfold tru at h
  split at h
  · rename_i hc; cases h; exact ev_ne hc
  · exact tr_ne h
theorem up_fOf_ok : ∀ (e : List Nd) (free out : List (List Nd)), (∀ n ∈ e, okN n) → (∀ x ∈ free.flatten, okN x) → up fOf e free = .ok out → ∀ x ∈ out.flatten, okN x
  | [], free, out, _, hf, h => by cases h; exact hf
  | n :: e, free, out, hn, hf, h => by
    unfold up at h
    split at h
    · cases h
    rename_i x hx
    have hdrop : ∀ y ∈ (free.drop (free.length - n.kids.toNat)).flatten, okN y := fun y hy => hf y (by
      rw [← List.take_append_drop (free.length - n.kids.toNat) free, List.flatten_append]
      exact List.mem_append_right _ hy)
    have htake : ∀ y ∈ (free.take (free.length - n.kids.toNat)).flatten, okN y := fun y hy => hf y (by
      rw [← List.take_append_drop (free.length - n.kids.toNat) free, List.flatten_append]
      exact List.mem_append_left _ hy)
    refine up_fOf_ok e _ out (fun m hm => hn m (by simp [hm])) ?_ h
    intro y hy
    rw [List.flatten_append] at hy
    rcases List.mem_append.1 hy with h1 | h1
    · exact htake y h1
    · exact (fOf_ok (hn n (by simp)) hdrop hx).1 y (by simpa using h1)
theorem fld_ok {e : List Nd} (h : ∀ n ∈ e, okN n) : ∀ x ∈ fld e, okN x := by
  unfold fld
  split
  · rename_i out hout
    have := up_fOf_ok e [] out h (fun x hx => by simp at hx) hout
    cases out with
    | nil => intro x hx; simp at hx
    | cons m r =>
      intro x hx
      exact this x (by simp only [List.flatten_cons]; exact List.mem_append_left _ hx)
  · intro x hx; simp at hx
theorem notN_ok : okN notN := ⟨by decide, gd_nul⟩
theorem pf_ok : ∀ (t : F) (b : Bool), (∀ x ∈ t.flat, okN x) → ∀ x ∈ (pf b t).flat, okN x
  | .nil, b, _ => by rw [pf]; intro x hx; simp [F.flat] at hx
  | .nd n k s, b, h => by
    have hk : ∀ x ∈ k.flat, okN x := fun x hx => h x (by simp [F.flat, hx])
    have hs : ∀ x ∈ s.flat, okN x := fun x hx => h x (by simp [F.flat, hx])
    have hn := h n (by simp [F.flat])
    have i1 := pf_ok k (!b) hk
    have i2 := pf_ok k b hk
    have i3 := pf_ok s b hs
    rw [pf]
    intro x hx
    split at hx
    · rw [F.flat_app] at hx
      rcases List.mem_append.1 hx with h | h
      · exact i1 x h
      · exact i3 x h
    split at hx
    · simp only [F.flat, List.mem_append, List.mem_cons] at hx
      rcases hx with h | rfl | h
      · exact i2 x h
      · exact hn
      · exact i3 x h
    split at hx
    · simp only [F.flat, List.mem_append, List.mem_cons] at hx
      rcases hx with h | rfl | h
      · exact hk x h
      · exact hn
      · exact i3 x h
    split at hx
    · simp only [F.flat, List.mem_append, List.mem_cons] at hx
      rcases hx with h | rfl | h
      · exact hk x h
      · exact hn
      · exact i3 x h
    · simp only [F.flat, List.mem_append, List.mem_cons, List.not_mem_nil, or_false] at hx
      rcases hx with (h | rfl) | rfl | h
      · exact hk x h
      · exact hn
      · exact notN_ok
      · exact i3 x h
/-- a pushed expression's tree -/
theorem psh_tree {e : List Nd} (h : ck e = 0) : ∃ n k n' k', e = k.flat ++ [n] ∧ (F.nd n k .nil).good ∧ pf false (.nd n k .nil) = .nd n' k' .nil ∧ (F.nd n' k' .nil).good ∧ nf (.nd n' k' .nil) ∧ psh e = k'.flat ++ [n'] := by
  obtain ⟨n, k, rfl, hg, hd, hl⟩ := ck_tree h
  have hl1 := pf_len (.nd n k .nil) false hg
  have hg1 := pf_good (.nd n k .nil) false hg
  have hn1 := pf_nf (.nd n k .nil) false
  have hp : psh (k.flat ++ [n]) = (pf false (.nd n k .nil)).flat := by unfold psh; rw [tre_of hg.right]
  cases hT : pf false (.nd n k .nil) with
  | nil => rw [hT] at hl1; cases hl1
  | nd n' k' s' =>
    rw [hT] at hl1 hg1 hn1 hp
    cases s' with
    | nd _ _ _ => simp only [F.len] at hl1; omega
    | nil => exact ⟨n, k, n', k', rfl, hg, hT, hg1, hn1, hp⟩
theorem psh_ok {e : List Nd} (hc : ck e = 0) (h : ∀ n ∈ e, okN n) : ∀ x ∈ psh e, okN x := by
  obtain ⟨n, k, n', k', rfl, hg, hT, hg1, hn1, hp⟩ := psh_tree hc
  have := pf_ok (.nd n k .nil) false h
  rw [hT] at this
  rw [hp]
  exact this
def okO (x : Except Nat Int) : Option Int := match x with
  | .ok t => some t
  | .error _ => none
theorem okO_tru {n : Nd} {k : F} {cs : List ByteArray} {l : List Vl} (h : (F.nd n k .nil).good) (hck : ck (k.flat ++ [n]) = 0) (hco : coE cs l = 0) : okO (tru (k.flat ++ [n]) cs l) = tt (nv (wo (fnd (cs.zip l))) n k) := by
  unfold tru
  rw [ev_nv h hck hco]
  cases nv (wo (fnd (cs.zip l))) n k with
  | error c => rfl
  | ok v =>
    show okO (tr v) = match tr v with
      | .error _ => none
      | .ok t => some t
    cases tr v <;> rfl
/-- a pushed expression has the truth that it had -/
theorem psh_same {e : List Nd} {cs : List ByteArray} {l : List Vl} (hc : ck e = 0) (h2 : ck (psh e) = 0) : okO (tru (psh e) cs l) = okO (tru e cs l) := by
  obtain ⟨n, k, n', k', rfl, hg, hT, hg1, hn1, hp⟩ := psh_tree hc
  rw [hp] at h2 ⊢
  by_cases hco : coE cs l = 0
  · rw [okO_tru hg hc hco, okO_tru hg1 h2 hco]
    have ht := pf_truth (fnd (cs.zip l)) (.nd n k .nil) false hg
    rw [hT] at ht
    have e : (ttF (fnd (cs.zip l)) (.nd n k .nil)).map (List.map (bn false)) = ttF (fnd (cs.zip l)) (.nd n k .nil) := by
      have : bn false = id := by funext x; rfl
      rw [this, List.map_id_fun]
      simp
    rw [e] at ht
    simp only [ttF] at ht
    cases h3 : tt (nv (wo (fnd (cs.zip l))) n' k') with
    | none =>
      cases h4 : tt (nv (wo (fnd (cs.zip l))) n k) with
      | none => rfl
      | some t => rw [h3, h4] at ht; cases ht
    | some t' =>
      cases h4 : tt (nv (wo (fnd (cs.zip l))) n k) with
      | none => rw [h3, h4] at ht; cases ht
      | some t => rw [h3, h4] at ht; cases ht; rfl
  · have h5 : ∀ e', ck e' = 0 → okO (tru e' cs l) = none := by
      intro e' h'
      unfold tru ev
      rw [if_neg (by simp [h']), if_pos hco]
      rfl
    rw [h5 _ hc, h5 _ h2]
end EV
end Go.Proofs.YtjljohmflhmkmaaGreatDoor
