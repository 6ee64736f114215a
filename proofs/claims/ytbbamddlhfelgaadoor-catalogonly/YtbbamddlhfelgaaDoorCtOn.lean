/-
  What is read has just the rows it was read from (the plain side).
-/
import Derived.Test.YtbbamddlhfelgaaDoorCtBk
namespace Go.Proofs.YtbbamddlhfelgaaDoor
set_option linter.unusedVariables false
set_option linter.unusedSimpArgs false
namespace CT
theorem txt_nought {x : VM.Vl} (h : VM.chk x = 0) (hk : x.k = 2) : x = ⟨2, 0, x.s⟩ := by
  obtain ⟨k, n, s⟩ := x
  simp only at hk
  subst hk
  unfold VM.chk at h
  simp only at h
  by_cases hn : n = 0
  · subst hn; rfl
  · rw [if_neg (by simp), if_pos (by left; exact ⟨hn, by decide⟩)] at h
    cases h
theorem cells3 (s : ByteArray) (h : 3 ≤ s.size) : s = (⟨#[UInt8.ofNat (b_ s 0), UInt8.ofNat (b_ s 1), UInt8.ofNat (b_ s 2)]⟩ : ByteArray) ++ s.extract 3 s.size := by
  have h3 := bs_three s h
  apply ByteArray.ext
  apply Array.ext'
  have e : (s.extract 3 s.size).data.toList = s.data.toList.drop 3 := by
    rw [ByteArray.data_extract, Array.toList_extract]
    simp [List.extract]
    exact List.take_of_length_le (by rw [List.length_drop, Array.length_toList]; exact Nat.le_refl _)
  rw [ByteArray.data_append, Array.toList_append, e]
  show s.data.toList = [UInt8.ofNat (b_ s 0), UInt8.ofNat (b_ s 1), UInt8.ofNat (b_ s 2)] ++ s.data.toList.drop 3
  rw [← h3, List.take_append_drop]
theorem col_only {x : VM.Vl} (h : VM.chk x = 0) (hb : colB x = true) : (⟨2, 0, ct (colA x)⟩ : VM.Vl) = x := by
  unfold colB at hb
  simp only [Bool.and_eq_true, decide_eq_true_eq] at hb
  obtain ⟨hk, h3, h0, h1, h2⟩ := hb
  rw [txt_nought h hk]
  have hA : colA (⟨2, 0, x.s⟩ : VM.Vl) = ⟨x.s.extract 3 x.s.size, (b_ x.s 0 : Int) - 48, decide (b_ x.s 1 = 110), decide (b_ x.s 2 = 117)⟩ := by
    unfold colA
    rw [if_pos ⟨rfl, h3⟩]
  rw [hA]
  have e0 : 48 + ((b_ x.s 0 : Int) - 48).toNat = b_ x.s 0 := by omega
  have e1 : mk (decide (b_ x.s 1 = 110)) 110 = b_ x.s 1 := by
    rcases h1 with h | h <;> rw [h] <;> rfl
  have e2 : mk (decide (b_ x.s 2 = 117)) 117 = b_ x.s 2 := by
    rcases h2 with h | h <;> rw [h] <;> rfl
  have hc : ct ⟨x.s.extract 3 x.s.size, (b_ x.s 0 : Int) - 48, decide (b_ x.s 1 = 110), decide (b_ x.s 2 = 117)⟩ = x.s := by
    unfold ct mrk
    simp only [e0, e1, e2]
    exact (cells3 x.s h3).symm
  rw [hc]
theorem cols_only : ∀ (l : List VM.Vl), (∀ x ∈ l, VM.chk x = 0) → l.all colB = true → (l.map colA).map (fun c => (⟨2, 0, ct c⟩ : VM.Vl)) = l
  | [], _, _ => rfl
  | x :: l, h, hb => by
    rw [List.all_cons, Bool.and_eq_true] at hb
    rw [List.map_cons, List.map_cons, col_only (h x (by simp)) hb.1, cols_only l (fun y hy => h y (by simp [hy])) hb.2]
theorem chkAll_each : ∀ (l : List VM.Vl), VM.chkAll l = 0 → ∀ x ∈ l, VM.chk x = 0
  | [], _, x, hx => by simp at hx
  | y :: l, h, x, hx => by
    unfold VM.chkAll at h
    by_cases h1 : VM.chk y = 0
    · rw [if_pos h1] at h
      rcases List.mem_cons.1 hx with rfl | hx
      · exact h1
      · exact chkAll_each l h x hx
    · rw [if_neg h1] at h
      exact absurd h h1
theorem chkE_each : ∀ (l : List LF.En) (last : Int), LF.chkE last l = 0 → ∀ e ∈ l, ∀ x ∈ e.2, VM.chk x = 0
  | [], _, _, e, he => by simp at he
  | y :: l, last, h, e, he => by
    rw [LF.chkE] at h
    by_cases h1 : LF.one last y = 0
    · rw [if_pos h1] at h
      rcases List.mem_cons.1 he with rfl | he
      · unfold LF.one at h1
        split at h1
        · cases h1
        · split at h1
          · cases h1
          · unfold VM.chkRow at h1
            split at h1
            · cases h1
            · exact chkAll_each _ h1
      · exact chkE_each l _ h e he
    · rw [if_neg h1] at h
      exact absurd h h1
theorem tab_only {e : LF.En} (h : ∀ x ∈ e.2, VM.chk x = 0) (hb : tabB e = true) : ((tabA e).id, row (tabA e)) = e := by
  obtain ⟨id, l⟩ := e
  cases l with
  | nil => cases hb
  | cons x r =>
    simp only [tabB, Bool.and_eq_true, decide_eq_true_eq] at hb
    show (id, (⟨2, 0, x.s⟩ : VM.Vl) :: (r.map colA).map (fun c => (⟨2, 0, ct c⟩ : VM.Vl))) = (id, x :: r)
    rw [cols_only r (fun y hy => h y (by simp [hy])) hb.2, ← txt_nought (h x (by simp)) hb.1]
theorem tabs_only : ∀ (l : List LF.En), (∀ e ∈ l, ∀ x ∈ e.2, VM.chk x = 0) → l.all tabB = true → rows (l.map tabA) = l
  | [], _, _ => rfl
  | e :: l, h, hb => by
    rw [List.all_cons, Bool.and_eq_true] at hb
    have h1 := tab_only (h e (by simp)) hb.1
    have h2 := tabs_only l (fun y hy => h y (by simp [hy])) hb.2
    show ((tabA e).id, row (tabA e)) :: rows (l.map tabA) = e :: l
    rw [h1, h2]
/-- what is read has just the rows it was read from -/
theorem rows_of {l : List LF.En} (h : ofE l = 0) : chk (l.map tabA) = 0 ∧ rows (l.map tabA) = l := by
  unfold ofE at h
  by_cases h0 : LF.chk l = 0
  · rw [if_neg (by simp [h0])] at h
    by_cases h1 : l.all tabB = true
    · rw [if_pos h1] at h
      refine ⟨h, tabs_only l ?_ h1⟩
      unfold LF.chk at h0
      split at h0
      · cases h0
      · exact chkE_each l 0 h0
    · rw [if_neg h1] at h
      cases h
  · rw [if_pos h0] at h
    exact absurd h h0
end CT
end Go.Proofs.YtbbamddlhfelgaaDoor
