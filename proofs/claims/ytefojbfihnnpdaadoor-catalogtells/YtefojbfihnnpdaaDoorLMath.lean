/-
  What is written is read as it was, what is read is written as it stood, and each beginning ends too early.
-/
import Derived.Test.YtefojbfihnnpdaaDoorWMath
namespace Go.Proofs.YtefojbfihnnpdaaDoor
namespace LM
open VM

def wide (x : Vl) : Prop := -9223372036854775808 ≤ x.n ∧ x.n ≤ 9223372036854775807

theorem nu_enc {n : Nat} (h : n < 18446744073709551616) (rest : List UInt8) : RM.nu (NM.enc n ++ rest) = .ok (n, rest) := by
  have e := NM.rd_enc rest n 0 0 (by simpa using h) (Or.inr rfl)
  unfold RM.nu
  rw [e]
  simp
theorem nu_cut {n k : Nat} (h : n < 18446744073709551616) (hk : k < (NM.enc n).length) : RM.nu ((NM.enc n).take k) = .error 5 := by
  have e := NM.rd_cut n k 0 0 (by simpa using h) hk
  unfold RM.nu
  rw [e]
  simp
theorem nu_only {l t : List UInt8} {n : Nat} (h : RM.nu l = .ok (n, t)) : l = NM.enc n ++ t ∧ n < 18446744073709551616 := by
  unfold RM.nu at h
  split at h
  · rename_i h0
    cases h
    obtain ⟨m, h1, h2, h3, h4, _⟩ := NM.rd_only l 0 0 h0
    have h1' : (NM.rd l 0 0).1 = m := by simpa using h1
    rw [h1', h4, Nat.sub_zero, List.take_append_drop]
    exact ⟨rfl, by have := NM.rd_lt l; omega⟩
  · cases h
theorem cnt_enc {m n : Nat} (h : n < 18446744073709551616) (hm : n ≤ m) (rest : List UInt8) : RM.cnt m (NM.enc n ++ rest) = .ok (n, rest) := by
  unfold RM.cnt
  rw [nu_enc h]
  simp only
  rw [if_neg (by omega)]
theorem cnt_cut {m n k : Nat} (h : n < 18446744073709551616) (hk : k < (NM.enc n).length) : RM.cnt m ((NM.enc n).take k) = .error 5 := by
  unfold RM.cnt
  rw [nu_cut h hk]
theorem cnt_only {m : Nat} {l t : List UInt8} {n : Nat} (h : RM.cnt m l = .ok (n, t)) : l = NM.enc n ++ t ∧ n < 18446744073709551616 ∧ n ≤ m := by
  unfold RM.cnt at h
  split at h
  · cases h
  · rename_i h'
    split at h
    · cases h
    · cases h
      obtain ⟨h1, h2⟩ := nu_only h'
      exact ⟨h1, h2, by omega⟩

theorem empty_of {s : ByteArray} (h : s.size = 0) : s = ⟨#[]⟩ := by
  obtain ⟨⟨l⟩⟩ := s
  have : l.length = 0 := h
  rw [List.length_eq_zero_iff.1 this]
theorem ba_of (s : ByteArray) : (⟨s.data.toList.toArray⟩ : ByteArray) = s := by cases s; simp

theorem zag_zig {n : Int} : RM.zag (WM.zig n) = n := by
  unfold RM.zag WM.zig
  split <;> split <;> omega
theorem zig_zag (u : Nat) : WM.zig (RM.zag u) = u := by
  unfold RM.zag WM.zig
  split <;> split <;> omega
theorem zig_lt {x : Vl} (h : wide x) : WM.zig x.n < 18446744073709551616 := by
  unfold wide at h
  unfold WM.zig
  split <;> omega
theorem dl (s : ByteArray) : s.data.toList.length = s.size := by rw [Array.length_toList]; rfl

theorem kinds {x : Vl} (h : chk x = 0) : (x = ⟨0, 0, ⟨#[]⟩⟩) ∨ (x.k = 1 ∧ x.s = ⟨#[]⟩) ∨ ((x.k = 2 ∨ x.k = 3) ∧ x.n = 0 ∧ x.s.size ≤ 16) := by
  obtain ⟨h1, h2, h3, h4, h5⟩ := WM.chk_ok h
  obtain ⟨k, n, s⟩ := x
  simp only at *
  have hk : k = 0 ∨ k = 1 ∨ k = 2 ∨ k = 3 := by omega
  rcases hk with rfl | rfl | hk
  · left
    have hn : n = 0 := by
      by_cases c : n = 0
      · exact c
      · have := h3 c; omega
    have hs : s.size = 0 := by
      by_cases c : s.size = 0
      · exact c
      · have := h4 c; omega
    rw [hn, empty_of hs]
  · right; left
    have hs : s.size = 0 := by
      by_cases c : s.size = 0
      · exact c
      · have := h4 c; omega
    exact ⟨rfl, empty_of hs⟩
  · right; right
    refine ⟨hk, ?_, h5⟩
    by_cases c : n = 0
    · exact c
    · have := h3 c; omega

theorem vl_one (t : List UInt8) : RM.vl (1 :: t) = RM.nt t := rfl
theorem vl_two (t : List UInt8) : RM.vl (2 :: t) = RM.tx 2 t := rfl
theorem vl_three (t : List UInt8) : RM.vl (3 :: t) = RM.tx 3 t := rfl
theorem tx_enc (k : Nat) (s : ByteArray) (h : s.size ≤ 16) (rest : List UInt8) : RM.tx k (NM.enc s.size ++ s.data.toList ++ rest) = .ok (⟨k, 0, s⟩, rest) := by
  unfold RM.tx
  rw [List.append_assoc, cnt_enc (by omega) h]
  simp only
  have e := dl s
  rw [if_neg (by rw [List.length_append]; omega), ← e, List.take_left' rfl, List.drop_left' rfl, ba_of]
theorem nt_enc {n : Int} (h : WM.zig n < 18446744073709551616) (rest : List UInt8) : RM.nt (NM.enc (WM.zig n) ++ rest) = .ok (⟨1, n, ⟨#[]⟩⟩, rest) := by
  unfold RM.nt
  rw [nu_enc h]
  simp only
  rw [zag_zig]

theorem vl_back {x : Vl} (h : chk x = 0) (hw : wide x) (rest : List UInt8) : RM.vl (WM.vb x ++ rest) = .ok (x, rest) := by
  rcases kinds h with rfl | ⟨h1, h2⟩ | ⟨h1, h2, h3⟩
  · rfl
  · obtain ⟨k, n, s⟩ := x
    simp only at h1 h2
    subst h1 h2
    show RM.vl (1 :: (NM.enc (WM.zig n) ++ rest)) = _
    rw [vl_one, nt_enc (zig_lt hw)]
  · obtain ⟨k, n, s⟩ := x
    simp only at h1 h2 h3
    subst h2
    rcases h1 with rfl | rfl
    · show RM.vl (2 :: (NM.enc s.size ++ s.data.toList ++ rest)) = _
      rw [vl_two, tx_enc 2 s h3]
      rfl
    · show RM.vl (3 :: (NM.enc s.size ++ s.data.toList ++ rest)) = _
      rw [vl_three, tx_enc 3 s h3]
      rfl
theorem vls_back {l : List Vl} (h : ∀ x ∈ l, chk x = 0) (hw : ∀ x ∈ l, wide x) (rest : List UInt8) : RM.vls l.length (l.flatMap WM.vb ++ rest) = .ok (l, rest) := by
  induction l with
  | nil => rfl
  | cons a t ih =>
    rw [List.flatMap_cons, List.append_assoc, List.length_cons, RM.vls, vl_back (h a (by simp)) (hw a (by simp))]
    simp only
    rw [ih (fun x hx => h x (by simp [hx])) (fun x hx => hw x (by simp [hx]))]
theorem row_back {l : List Vl} (h : chkRow l = 0) (hw : ∀ x ∈ l, wide x) (rest : List UInt8) : RM.row (WM.row l ++ rest) = .ok (l, rest) := by
  obtain ⟨h8, ha⟩ := WM.chkRow_ok h
  unfold RM.row WM.row
  rw [List.append_assoc, cnt_enc (by omega) h8]
  exact vls_back ha hw rest

theorem take_two {a b : List UInt8} {k : Nat} (h : ¬ k < a.length) : (a ++ b).take k = a ++ b.take (k - a.length) := by
  rw [List.take_append, List.take_of_length_le (by omega)]
theorem take_one {a b : List UInt8} {k : Nat} (h : k < a.length) : (a ++ b).take k = a.take k := by
  rw [List.take_append, show k - a.length = 0 by omega]
  simp
theorem vl_cut {x : Vl} (h : chk x = 0) (hw : wide x) {k : Nat} (hk : k < (WM.vb x).length) : RM.vl ((WM.vb x).take k) = .error 5 := by
  cases k with
  | zero => rfl
  | succ k =>
    rcases kinds h with rfl | ⟨h1, h2⟩ | ⟨h1, h2, h3⟩
    · have e : (WM.vb ⟨0, 0, ⟨#[]⟩⟩).length = 1 := rfl
      omega
    · obtain ⟨kk, n, s⟩ := x
      simp only at h1 h2
      subst h1 h2
      have e : WM.vb ⟨1, n, ⟨#[]⟩⟩ = 1 :: NM.enc (WM.zig n) := rfl
      rw [e] at hk ⊢
      rw [List.take_succ_cons, vl_one]
      unfold RM.nt
      rw [nu_cut (zig_lt hw) (by simpa using hk)]
    · obtain ⟨kk, n, s⟩ := x
      simp only at h1 h2 h3
      subst h2
      have key : ∀ q, k < (NM.enc s.size ++ s.data.toList).length → RM.tx q ((NM.enc s.size ++ s.data.toList).take k) = .error 5 := by
        intro q hq
        unfold RM.tx
        by_cases c : k < (NM.enc s.size).length
        · rw [take_one c, cnt_cut (by omega) c]
        · rw [take_two c, cnt_enc (by omega) h3]
          simp only
          have e := dl s
          rw [List.length_append] at hq
          rw [if_pos (by rw [List.length_take]; omega)]
      rcases h1 with rfl | rfl
      · have e : WM.vb ⟨2, 0, s⟩ = 2 :: (NM.enc s.size ++ s.data.toList) := rfl
        rw [e] at hk ⊢
        rw [List.take_succ_cons, vl_two]
        exact key 2 (by simpa using hk)
      · have e : WM.vb ⟨3, 0, s⟩ = 3 :: (NM.enc s.size ++ s.data.toList) := rfl
        rw [e] at hk ⊢
        rw [List.take_succ_cons, vl_three]
        exact key 3 (by simpa using hk)
theorem vls_cut {l : List Vl} (h : ∀ x ∈ l, chk x = 0) (hw : ∀ x ∈ l, wide x) : ∀ {k : Nat}, k < (l.flatMap WM.vb).length → RM.vls l.length ((l.flatMap WM.vb).take k) = .error 5 := by
  induction l with
  | nil => intro k hk; simp at hk
  | cons a t ih =>
    intro k hk
    rw [List.flatMap_cons] at hk ⊢
    rw [List.length_cons, RM.vls]
    by_cases c : k < (WM.vb a).length
    · rw [take_one c, vl_cut (h a (by simp)) (hw a (by simp)) c]
    · rw [take_two c, vl_back (h a (by simp)) (hw a (by simp))]
      simp only
      rw [List.length_append] at hk
      rw [ih (fun x hx => h x (by simp [hx])) (fun x hx => hw x (by simp [hx])) (by omega)]
theorem row_cut {l : List Vl} (h : chkRow l = 0) (hw : ∀ x ∈ l, wide x) {k : Nat} (hk : k < (WM.row l).length) : RM.row ((WM.row l).take k) = .error 5 := by
  obtain ⟨h8, ha⟩ := WM.chkRow_ok h
  unfold WM.row at hk ⊢
  unfold RM.row
  by_cases c : k < (NM.enc l.length).length
  · rw [take_one c, cnt_cut (by omega) c]
  · rw [take_two c, cnt_enc (by omega) h8]
    simp only
    rw [List.length_append] at hk
    exact vls_cut ha hw (by omega)

theorem zag_wide {u : Nat} (h : u < 18446744073709551616) : -9223372036854775808 ≤ RM.zag u ∧ RM.zag u ≤ 9223372036854775807 := by
  unfold RM.zag
  split <;> omega
theorem u8_eq {b : UInt8} {n : Nat} (h : b.toNat = n) : b = UInt8.ofNat n := by
  rw [← h]
  simp
theorem tx_only {k : Nat} {l t : List UInt8} {x : Vl} (h : RM.tx k l = .ok (x, t)) : x.k = k ∧ x.n = 0 ∧ x.s.size ≤ 16 ∧ l = NM.enc x.s.size ++ x.s.data.toList ++ t := by
  unfold RM.tx at h
  split at h
  · cases h
  · rename_i n u h'
    obtain ⟨h1, h2, h3⟩ := cnt_only h'
    split at h
    · cases h
    · rename_i h4
      cases h
      have e : (⟨(u.take n).toArray⟩ : ByteArray).size = n := by
        show (u.take n).length = n
        rw [List.length_take]
        omega
      refine ⟨rfl, rfl, by simp only; omega, ?_⟩
      simp only
      rw [e, h1, List.append_assoc]
      simp
theorem nt_only {l t : List UInt8} {x : Vl} (h : RM.nt l = .ok (x, t)) : ∃ u, x = ⟨1, RM.zag u, ⟨#[]⟩⟩ ∧ u < 18446744073709551616 ∧ l = NM.enc u ++ t := by
  unfold RM.nt at h
  split at h
  · cases h
  · rename_i n u h'
    obtain ⟨h1, h2⟩ := nu_only h'
    cases h
    exact ⟨n, rfl, h2, h1⟩
theorem chk_text {k : Int} {s : ByteArray} (hk : k = 2 ∨ k = 3) (h : s.size ≤ 16) : chk ⟨k, 0, s⟩ = 0 := by
  unfold chk
  simp only
  rw [if_neg (by omega), if_neg (by rintro (⟨a, _⟩ | ⟨_, b⟩); exact a rfl; exact b hk), if_neg (by omega)]
theorem chk_int (n : Int) : chk ⟨1, n, ⟨#[]⟩⟩ = 0 := by
  unfold chk
  simp only
  rw [if_neg (by omega), if_neg (by rintro (⟨_, b⟩ | ⟨a, _⟩); exact b rfl; exact a rfl)]
  rfl
theorem vl_only {l t : List UInt8} {x : Vl} (h : RM.vl l = .ok (x, t)) : chk x = 0 ∧ wide x ∧ l = WM.vb x ++ t := by
  unfold RM.vl at h
  split at h
  · cases h
  · rename_i b u
    split at h
    · rename_i hb
      cases h
      refine ⟨by decide, by unfold wide; decide, ?_⟩
      rw [u8_eq hb]
      rfl
    · split at h
      · rename_i hb
        obtain ⟨q, rfl, hq, rfl⟩ := nt_only h
        refine ⟨chk_int _, zag_wide hq, ?_⟩
        rw [u8_eq hb]
        show _ = 1 :: (NM.enc (WM.zig (RM.zag q)) ++ t)
        rw [zig_zag]
        rfl
      · split at h
        · rename_i hb
          obtain ⟨h1, h2, h3, h4⟩ := tx_only h
          obtain ⟨k, n, s⟩ := x
          simp only at h1 h2 h3 h4
          subst h2
          rw [h4]
          rcases hb with hb | hb
          · rw [hb] at h1
            subst h1
            refine ⟨chk_text (Or.inl rfl) h3, ⟨by simp only; omega, by simp only; omega⟩, ?_⟩
            rw [u8_eq hb]
            rfl
          · rw [hb] at h1
            subst h1
            refine ⟨chk_text (Or.inr rfl) h3, ⟨by simp only; omega, by simp only; omega⟩, ?_⟩
            rw [u8_eq hb]
            rfl
        · cases h
theorem vls_only : ∀ {n : Nat} {l t : List UInt8} {xs : List Vl}, RM.vls n l = .ok (xs, t) → xs.length = n ∧ (∀ x ∈ xs, chk x = 0) ∧ (∀ x ∈ xs, wide x) ∧ l = xs.flatMap WM.vb ++ t := by
  intro n
  induction n with
  | zero => intro l t xs h; cases h; exact ⟨rfl, fun x hx => by simp at hx, fun x hx => by simp at hx, rfl⟩
  | succ n ih =>
    intro l t xs h
    rw [RM.vls] at h
    split at h
    · cases h
    · rename_i x u h1
      split at h
      · cases h
      · rename_i ys v h2
        cases h
        obtain ⟨a1, a2, a3⟩ := vl_only h1
        obtain ⟨b1, b2, b3, b4⟩ := ih h2
        refine ⟨by simp [b1], ?_, ?_, ?_⟩
        · intro y hy
          rcases List.mem_cons.1 hy with rfl | hy
          · exact a1
          · exact b2 y hy
        · intro y hy
          rcases List.mem_cons.1 hy with rfl | hy
          · exact a2
          · exact b3 y hy
        · rw [a3, b4, List.flatMap_cons, List.append_assoc]
theorem chkAll_mk {l : List Vl} (h : ∀ x ∈ l, chk x = 0) : chkAll l = 0 := by
  induction l with
  | nil => rfl
  | cons a t ih =>
    rw [chkAll, if_pos (h a (by simp))]
    exact ih (fun x hx => h x (by simp [hx]))
theorem row_only {l t : List UInt8} {xs : List Vl} (h : RM.row l = .ok (xs, t)) : chkRow xs = 0 ∧ (∀ x ∈ xs, wide x) ∧ l = WM.row xs ++ t := by
  unfold RM.row at h
  split at h
  · cases h
  · rename_i n u h1
    obtain ⟨a1, a2, a3⟩ := cnt_only h1
    obtain ⟨b1, b2, b3, b4⟩ := vls_only h
    refine ⟨?_, b3, ?_⟩
    · unfold chkRow
      rw [if_neg (by omega)]
      exact chkAll_mk b2
    · unfold WM.row
      rw [a1, b4, b1, List.append_assoc]
end LM
end Go.Proofs.YtefojbfihnnpdaaDoor
