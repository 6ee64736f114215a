/-
  Tables are read from their rows as they were (the plain side).
-/
import Derived.Test.YtefojbfihnnpdaaDoorCtU
namespace Go.Proofs.YtefojbfihnnpdaaDoor
set_option linter.unusedVariables false
set_option linter.unusedSimpArgs false
namespace CT
theorem nm_small {s : ByteArray} (h : nm s = true) : s.size ≤ 12 := by
  unfold nm LX.nm at h
  simp only [Bool.and_eq_true, decide_eq_true_eq] at h
  have h1 := h.1
  have hl : (bs s).length = s.size := by unfold bs; rw [Array.length_toList]; rfl
  generalize bs s = l at h1 hl
  match l, h1 with
  | [], h1 => cases h1
  | b :: r, h1 =>
    unfold LX.chkWord at h1
    simp only at h1
    split at h1
    · split at h1
      · cases h1
      · omega
    · cases h1
theorem b_app (m n : ByteArray) (i : Nat) (h : i < m.size) : b_ (m ++ n) i = b_ m i := by
  unfold b_ bs
  have e : (m ++ n).data.toList = m.data.toList ++ n.data.toList := by simp
  rw [e, List.getD_eq_getElem?_getD, List.getD_eq_getElem?_getD, List.getElem?_append_left (by rw [Array.length_toList]; exact h)]
theorem ext_app (m n : ByteArray) (h : m.size = 3) : (m ++ n).extract 3 (m ++ n).size = n := by
  have : (m ++ n).size = 3 + n.size := by rw [ByteArray.size_append, h]
  rw [this, ← h, ByteArray.extract_append_eq_right rfl (by omega)]
theorem col_back (c : Cl) (h : OkC c) : colA ⟨2, 0, ct c⟩ = c ∧ colB ⟨2, 0, ct c⟩ = true := by
  obtain ⟨n, k, nn, u⟩ := c
  have hlo := h.lo
  have hhi := h.hi
  simp only at hlo hhi
  obtain ⟨kk, rfl⟩ := Int.eq_ofNat_of_zero_le hlo
  have hk : kk ≤ 3 := by omega
  have hm : (mrk ⟨n, kk, nn, u⟩).size = 3 := rfl
  have hs : 3 ≤ (ct ⟨n, kk, nn, u⟩).size := by unfold ct; rw [ByteArray.size_append, hm]; omega
  have b0 : b_ (ct ⟨n, kk, nn, u⟩) 0 = 48 + kk := by
    unfold ct; rw [b_app _ _ _ (by rw [hm]; omega)]
    show (UInt8.ofNat (48 + (kk : Int).toNat)).toNat = _
    rw [UInt8.toNat_ofNat', Int.toNat_natCast]; omega
  have b1 : b_ (ct ⟨n, kk, nn, u⟩) 1 = mk nn 110 := by
    unfold ct; rw [b_app _ _ _ (by rw [hm]; omega)]
    cases nn <;> rfl
  have b2 : b_ (ct ⟨n, kk, nn, u⟩) 2 = mk u 117 := by
    unfold ct; rw [b_app _ _ _ (by rw [hm]; omega)]
    cases u <;> rfl
  have ex : (ct ⟨n, kk, nn, u⟩).extract 3 (ct ⟨n, kk, nn, u⟩).size = n := ext_app _ _ hm
  constructor
  · unfold colA
    rw [if_pos ⟨rfl, hs⟩]
    simp only [b0, b1, b2, ex]
    congr 1
    · omega
    · cases nn <;> simp [mk]
    · cases u <;> simp [mk]
  · unfold colB
    simp only [b0, b1, b2]
    rw [decide_eq_true hs]
    have : decide (48 ≤ 48 + kk ∧ 48 + kk ≤ 51) = true := decide_eq_true (by omega)
    rw [this]
    cases nn <;> cases u <;> simp [mk]
theorem cols_back : ∀ (l : List Cl), (∀ c ∈ l, OkC c) → (l.map fun c => (⟨2, 0, ct c⟩ : VM.Vl)).map colA = l ∧ (l.map fun c => (⟨2, 0, ct c⟩ : VM.Vl)).all colB = true
  | [], _ => ⟨rfl, rfl⟩
  | c :: l, h => by
    obtain ⟨h1, h2⟩ := col_back c (h c (by simp))
    obtain ⟨h3, h4⟩ := cols_back l fun x hx => h x (by simp [hx])
    simp only [List.map_cons, List.all_cons, h1, h2, h3, h4, Bool.and_self, and_self]
theorem tab_back (s : Sc) (h : OkT s) : tabA (s.id, row s) = s ∧ tabB (s.id, row s) = true := by
  obtain ⟨h1, h2⟩ := cols_back s.c h.each
  constructor
  · show (⟨s.id, s.n, (s.c.map fun c => (⟨2, 0, ct c⟩ : VM.Vl)).map colA⟩ : Sc) = s
    rw [h1]
  · show (decide ((2 : Int) = 2) && (s.c.map fun c => (⟨2, 0, ct c⟩ : VM.Vl)).all colB) = true
    rw [h2]; rfl
theorem tabs_back : ∀ (l : List Sc), (∀ s ∈ l, OkT s) → (rows l).map tabA = l ∧ (rows l).all tabB = true
  | [], _ => ⟨rfl, rfl⟩
  | s :: l, h => by
    obtain ⟨h1, h2⟩ := tab_back s (h s (by simp))
    obtain ⟨h3, h4⟩ := tabs_back l fun x hx => h x (by simp [hx])
    simp only [rows, List.map_cons, List.all_cons] at h3 h4 ⊢
    simp only [h1, h2, h3, h4, Bool.and_self, and_self]
theorem txt_chk (s : ByteArray) (h : s.size ≤ 16) : VM.chk ⟨2, 0, s⟩ = 0 := by
  unfold VM.chk
  rw [if_neg (by simp), if_neg (by simp), if_neg (by show ¬ 16 < s.size; omega)]
theorem chkAll_zero : ∀ (l : List VM.Vl), (∀ x ∈ l, VM.chk x = 0) → VM.chkAll l = 0
  | [], _ => rfl
  | x :: l, h => by
    unfold VM.chkAll
    rw [if_pos (h x (by simp))]
    exact chkAll_zero l fun y hy => h y (by simp [hy])
theorem ct_small {c : Cl} (h : OkC c) : (ct c).size ≤ 16 := by
  have := nm_small h.nm
  unfold ct
  rw [ByteArray.size_append]
  have : (mrk c).size = 3 := rfl
  omega
theorem row_small {s : Sc} (h : OkT s) : ∀ x ∈ row s, x.s.size ≤ 16 ∧ VM.chk x = 0 ∧ x.n = 0 := by
  intro x hx
  rcases List.mem_cons.1 hx with rfl | hx
  · have := nm_small h.nm
    exact ⟨by show s.n.size ≤ 16; omega, txt_chk _ (by omega), rfl⟩
  · obtain ⟨c, hc, rfl⟩ := List.mem_map.1 hx
    have := ct_small (h.each c hc)
    exact ⟨this, txt_chk _ this, rfl⟩
theorem row_len {s : Sc} (h : OkT s) : (row s).length ≤ 7 := by
  have := h.six
  simp [row]
  omega
theorem row_chk {s : Sc} (h : OkT s) : VM.chkRow (row s) = 0 := by
  unfold VM.chkRow
  have := row_len h
  rw [if_neg (by omega)]
  exact chkAll_zero _ fun x hx => (row_small h x hx).2.1
theorem rows_chkE : ∀ (l : List Sc) (last : Int) (seen : List Bs), chkS last seen l = 0 → LF.chkE last (rows l) = 0
  | [], _, _, _ => rfl
  | s :: l, last, seen, h => by
    have hok := chkS_ok (s :: l) last seen h s (by simp)
    unfold chkS at h
    by_cases h1 : s.id < 1 ∨ 999 < s.id
    · rw [if_pos h1] at h; simp at h
    rw [if_neg h1] at h
    by_cases h2 : s.id ≤ last
    · rw [if_pos h2] at h; simp at h
    rw [if_neg h2] at h
    by_cases h3 : chkT s.n s.c ≠ 0
    · rw [if_pos h3] at h; exact absurd h h3
    rw [if_neg h3] at h
    by_cases h4 : bs s.n ∈ seen
    · rw [if_pos h4] at h; simp at h
    rw [if_neg h4] at h
    have ho : LF.one last (s.id, row s) = 0 := by
      unfold LF.one
      rw [if_neg (by show ¬ s.id < 1; omega), if_neg h2]
      exact row_chk hok
    show LF.chkE last ((s.id, row s) :: rows l) = 0
    rw [LF.chkE, if_pos ho]
    exact rows_chkE l _ _ h
theorem rows_chk {l : List Sc} (h : chk l = 0) : LF.chk (rows l) = 0 := by
  have h6 := (chk_ok h).1
  unfold chk at h
  rw [if_neg (by omega)] at h
  unfold LF.chk
  have hl : (rows l).length = l.length := by simp [rows]
  rw [if_neg (by omega)]
  exact rows_chkE l 0 [] h
/-- what was told is read again -/
theorem of_rows {l : List Sc} (h : chk l = 0) : ofE (rows l) = 0 ∧ (rows l).map tabA = l := by
  obtain ⟨h1, h2⟩ := tabs_back l (chk_ok h).2
  refine ⟨?_, h1⟩
  unfold ofE
  rw [if_neg (by simp [rows_chk h]), if_pos h2, h1, h]
end CT
end Go.Proofs.YtefojbfihnnpdaaDoor
