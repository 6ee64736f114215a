/-
  Reading a key the document's way: where a value ends, then which one it is; and rows by RowLess.
-/
import Derived.Test.YtpalikdnpchdeaaKRMath
import Derived.Test.YtpalikdnpchdeaaCMath
namespace Go.Proofs.Ytpalikdnpchdeaa
namespace UK
open VM

/-- a text up to its end, however long -/
def kz : List UInt8 → List UInt8 → Option (List UInt8 × List UInt8)
  | [], _ => none
  | [_], _ => none
  | b :: c :: u, acc => if b.toNat ≠ 0 then kz (c :: u) (acc ++ [b]) else if c.toNat = 255 then kz u (acc ++ [0]) else if c.toNat = 1 then some (acc, u) else none
theorem kz_nil (acc : List UInt8) : kz [] acc = none := rfl
theorem kz_one (b : UInt8) (acc : List UInt8) : kz [b] acc = none := rfl
theorem kz_step {b : UInt8} (h : b.toNat ≠ 0) (c : UInt8) (u acc : List UInt8) : kz (b :: c :: u) acc = kz (c :: u) (acc ++ [b]) := by rw [kz, if_pos h]
theorem kz_zero {b c : UInt8} (h : b.toNat = 0) (hc : c.toNat = 255) (u acc : List UInt8) : kz (b :: c :: u) acc = kz u (acc ++ [0]) := by rw [kz, if_neg (by omega), if_pos hc]
theorem kz_end {b c : UInt8} (h : b.toNat = 0) (hc : c.toNat = 1) (u acc : List UInt8) : kz (b :: c :: u) acc = some (acc, u) := by rw [kz, if_neg (by omega), if_neg (by omega), if_pos hc]
theorem kz_bad {b c : UInt8} (h : b.toNat = 0) (hc : c.toNat ≠ 255) (hd : c.toNat ≠ 1) (u acc : List UInt8) : kz (b :: c :: u) acc = none := by rw [kz, if_neg (by omega), if_neg hc, if_neg hd]
theorem kt_kz : ∀ (n : Nat) (l acc : List UInt8), l.length ≤ n → KR.kt l acc = match kz l acc with
    | none => .error 1
    | some (s, t) => if 16 < s.length then .error 2 else .ok (s, t)
  | _, [], _, _ => rfl
  | _, [_], _, _ => rfl
  | 0, _ :: _ :: _, _, h => by simp at h
  | n + 1, b :: c :: u, acc, h => by
    have h1 : (c :: u).length ≤ n := by simp only [List.length_cons] at h ⊢; omega
    have h2 : u.length ≤ n := by simp only [List.length_cons] at h1; omega
    rw [KR.kt]
    by_cases hb : b.toNat ≠ 0
    · rw [if_pos hb, kz_step hb]
      exact kt_kz n (c :: u) _ h1
    · have hb0 : b.toNat = 0 := by omega
      rw [if_neg hb]
      by_cases hc : c.toNat = 255
      · rw [if_pos hc, kz_zero hb0 hc]
        exact kt_kz n u _ h2
      · rw [if_neg hc]
        by_cases hd : c.toNat = 1
        · rw [if_pos hd, kz_end hb0 hd]
        · rw [if_neg hd, kz_bad hb0 hc hd]
/-- what a text's bytes within a key are of -/
def un : List UInt8 → List UInt8
  | [] => []
  | [b] => [b]
  | b :: c :: r => if b.toNat = 0 then b :: un r else b :: un (c :: r)
theorem un_step {b : UInt8} (h : b.toNat ≠ 0) (r : List UInt8) : un (b :: r) = b :: un r := by
  cases r with
  | nil => rfl
  | cons c r => rw [un, if_neg h]
theorem un_zero {b : UInt8} (h : b.toNat = 0) (c : UInt8) (r : List UInt8) : un (b :: c :: r) = b :: un r := by rw [un, if_pos h]
theorem kz_un : ∀ (n : Nat) (l acc s t : List UInt8), l.length ≤ n → kz l acc = some (s, t) → ∃ e, l = e ++ 0 :: 1 :: t ∧ s = acc ++ un e
  | _, [], _, _, _, _, h => by cases h
  | _, [_], _, _, _, _, h => by cases h
  | 0, _ :: _ :: _, _, _, _, hn, _ => by simp at hn
  | n + 1, b :: c :: u, acc, s, t, hn, h => by
    have h1 : (c :: u).length ≤ n := by simp only [List.length_cons] at hn ⊢; omega
    have h2 : u.length ≤ n := by simp only [List.length_cons] at h1; omega
    by_cases hb : b.toNat ≠ 0
    · rw [kz_step hb] at h
      obtain ⟨e, e1, e2⟩ := kz_un n _ _ _ _ h1 h
      refine ⟨b :: e, by rw [e1]; rfl, ?_⟩
      rw [un_step hb, e2, List.append_assoc]
      rfl
    · have hb0 : b.toNat = 0 := by omega
      have hbb : b = 0 := UInt8.toNat_inj.1 hb0
      by_cases hc : c.toNat = 255
      · rw [kz_zero hb0 hc] at h
        obtain ⟨e, e1, e2⟩ := kz_un n _ _ _ _ h2 h
        refine ⟨b :: c :: e, by rw [e1]; rfl, ?_⟩
        rw [un_zero hb0, e2, List.append_assoc, hbb]
        rfl
      · by_cases hd : c.toNat = 1
        · rw [kz_end hb0 hd] at h
          have hcc : c = 1 := UInt8.toNat_inj.1 hd
          cases h
          exact ⟨[], by rw [hbb, hcc]; rfl, by simp [un]⟩
        · rw [kz_bad hb0 hc hd] at h
          cases h
/-- where a key's first value ends -/
def ke (b : UInt8) (t : List UInt8) : Int :=
  if b.toNat = 5 then 1
  else if b.toNat = 16 then (if t.length < 8 then -1 else 9)
  else if b.toNat = 32 ∨ b.toNat = 48 then (match kz t [] with
    | none => -1
    | some (_, u) => (t.length : Int) + 1 - u.length)
  else -1
/-- a key of one value, and that value -/
def VK (l : List UInt8) (x : Vl) : Prop :=
  (∃ b, l = [b] ∧ b.toNat = 5 ∧ x = ⟨0, 0, ⟨#[]⟩⟩) ∨ (∃ b t, l = b :: t ∧ b.toNat = 16 ∧ t.length = 8 ∧ x = ⟨1, (KR.bv t : Int) - 9223372036854775808, ⟨#[]⟩⟩) ∨
  (∃ b e, l = b :: (e ++ [0, 1]) ∧ (b.toNat = 32 ∨ b.toNat = 48) ∧ x = ⟨((b.toNat / 16 : Nat) : Int), 0, ⟨(un e).toArray⟩⟩)
/-- one round -/
theorem one (b : UInt8) (t : List UInt8) : (ke b t = -1 ∧ KR.kv (b :: t) = .error 1) ∨
    ∃ (k : Nat) (x : Vl), ke b t = k ∧ k ≤ t.length + 1 ∧ 0 < k ∧ VK ((b :: t).take k) x ∧ KR.kv (b :: t) = if 16 < x.s.size then .error 2 else .ok (x, (b :: t).drop k) := by
  have txt : ∀ k : Nat, (b.toNat = 32 ∨ b.toNat = 48) → b.toNat / 16 = k → KR.kv (b :: t) = KR.kx k t → (ke b t = -1 ∧ KR.kv (b :: t) = .error 1) ∨
    ∃ (k : Nat) (x : Vl), ke b t = k ∧ k ≤ t.length + 1 ∧ 0 < k ∧ VK ((b :: t).take k) x ∧ KR.kv (b :: t) = if 16 < x.s.size then .error 2 else .ok (x, (b :: t).drop k) := by
    intro k hb hk hkv
    have e1 : ke b t = match kz t [] with
      | none => -1
      | some (_, u) => (t.length : Int) + 1 - u.length := by
      unfold ke
      rw [if_neg (by omega), if_neg (by omega), if_pos hb]
    have e2 := kt_kz t.length t [] (Nat.le_refl _)
    rw [hkv]
    unfold KR.kx
    rw [e1, e2]
    cases hz : kz t [] with
    | none => exact Or.inl ⟨rfl, rfl⟩
    | some p =>
      obtain ⟨s, u⟩ := p
      obtain ⟨e, h1, h2⟩ := kz_un t.length t [] s u (Nat.le_refl _) hz
      right
      have hl : t.length = e.length + 2 + u.length := by rw [h1]; simp; omega
      have e3 : (b :: t).take (e.length + 3) = b :: (e ++ [0, 1]) := by
        rw [h1, List.take_succ_cons, show e ++ 0 :: 1 :: u = (e ++ [0, 1]) ++ u by simp, List.take_left' (by simp)]
      have e4 : (b :: t).drop (e.length + 3) = u := by
        rw [h1, List.drop_succ_cons, show e ++ 0 :: 1 :: u = (e ++ [0, 1]) ++ u by simp, List.drop_left' (by simp)]
      have hs : s = un e := by simpa using h2
      refine ⟨e.length + 3, ⟨k, 0, ⟨s.toArray⟩⟩, by simp only; omega, by omega, by omega, ?_, ?_⟩
      · rw [e3]
        exact Or.inr (Or.inr ⟨b, e, rfl, hb, by rw [hk, hs]⟩)
      · rw [e4]
        have : (⟨s.toArray⟩ : ByteArray).size = s.length := by simp [ByteArray.size]
        simp only [this]
        by_cases h16 : 16 < s.length
        · rw [if_pos h16, if_pos h16]
        · rw [if_neg h16, if_neg h16]
  by_cases h5 : b.toNat = 5
  · right
    refine ⟨1, ⟨0, 0, ⟨#[]⟩⟩, by unfold ke; rw [if_pos h5]; rfl, by omega, by omega, Or.inl ⟨b, rfl, h5, rfl⟩, ?_⟩
    unfold KR.kv
    simp only
    rw [if_pos h5, if_neg (by decide)]
    rfl
  · by_cases h16 : b.toNat = 16
    · have e1 : ke b t = if t.length < 8 then -1 else 9 := by unfold ke; rw [if_neg h5, if_pos h16]
      have e2 : KR.kv (b :: t) = KR.kn t := by unfold KR.kv; simp only; rw [if_neg h5, if_pos h16]
      rw [e1, e2]
      unfold KR.kn KR.ki
      by_cases h8 : t.length < 8
      · rw [if_pos h8, if_pos h8]; exact Or.inl ⟨rfl, rfl⟩
      · rw [if_neg h8, if_neg h8]
        right
        refine ⟨9, ⟨1, (KR.bv (t.take 8) : Int) - 9223372036854775808, ⟨#[]⟩⟩, rfl, by omega, by omega, Or.inr (Or.inl ⟨b, t.take 8, rfl, h16, by rw [List.length_take]; omega, rfl⟩), ?_⟩
        rw [if_neg (show ¬ 16 < (⟨#[]⟩ : ByteArray).size by decide)]
        rfl
    · by_cases h32 : b.toNat = 32
      · refine txt 2 (Or.inl h32) (by rw [h32]) ?_
        unfold KR.kv; simp only; rw [if_neg h5, if_neg h16, if_pos h32]
      · by_cases h48 : b.toNat = 48
        · refine txt 3 (Or.inr h48) (by rw [h48]) ?_
          unfold KR.kv; simp only; rw [if_neg h5, if_neg h16, if_neg h32, if_pos h48]
        · left
          constructor
          · unfold ke; rw [if_neg h5, if_neg h16, if_neg (by omega)]
          · unfold KR.kv; simp only; rw [if_neg h5, if_neg h16, if_neg h32, if_neg h48]

/-! rows by RowLess -/
def rl : List Vl → List Vl → Bool
  | _, [] => false
  | [], _ :: _ => true
  | a :: l, b :: m => if CM.ord a b ≠ 0 then decide (CM.ord a b < 0) else rl l m
theorem cb_tri : ∀ l m : List UInt8, Lib.compareBytes l m = -1 ∨ Lib.compareBytes l m = 0 ∨ Lib.compareBytes l m = 1
  | [], [] => by simp [Lib.compareBytes]
  | [], _ :: _ => by simp [Lib.compareBytes]
  | _ :: _, [] => by simp [Lib.compareBytes]
  | a :: l, b :: m => by
    have := cb_tri l m
    unfold Lib.compareBytes
    split
    · exact Or.inl rfl
    · split
      · exact Or.inr (Or.inr rfl)
      · exact this
theorem cb_anti : ∀ l m : List UInt8, Lib.compareBytes m l = - Lib.compareBytes l m
  | [], [] => by simp [Lib.compareBytes]
  | [], _ :: _ => by simp [Lib.compareBytes]
  | _ :: _, [] => by simp [Lib.compareBytes]
  | a :: l, b :: m => by
    have ih := cb_anti l m
    unfold Lib.compareBytes
    by_cases h1 : a < b
    · have h2 : ¬ b < a := by rw [UInt8.lt_iff_toNat_lt] at *; omega
      rw [if_neg h2, if_pos h1, if_pos h1]; rfl
    · by_cases h2 : b < a
      · rw [if_pos h2, if_neg h1, if_pos h2]
      · rw [if_neg h2, if_neg h1, if_neg h1, if_neg h2]
        exact ih
theorem ord_tri (a b : Vl) : CM.ord a b = -1 ∨ CM.ord a b = 0 ∨ CM.ord a b = 1 := by
  have := cb_tri a.s.data.toList b.s.data.toList
  unfold CM.ord CM.or3 CM.ci
  repeat' split
  all_goals omega
theorem ord_anti (a b : Vl) : CM.ord b a = - CM.ord a b := by
  unfold CM.ord CM.ci
  rw [cb_anti a.s.data.toList b.s.data.toList]
  unfold CM.or3
  repeat' split
  all_goals omega
theorem rows_rl : ∀ (l m : List Vl), (∀ x ∈ l, chk x = 0) → (∀ x ∈ m, chk x = 0) → CM.rows l m = if rl l m = true then -1 else if rl m l = true then 1 else 0
  | [], [], _, _ => rfl
  | [], _ :: _, _, _ => rfl
  | _ :: _, [], _, _ => rfl
  | a :: l, b :: m, h1, h2 => by
    have ih := rows_rl l m (fun x hx => h1 x (List.mem_cons_of_mem _ hx)) (fun x hx => h2 x (List.mem_cons_of_mem _ hx))
    have hc : CM.cmp a b = CM.ord a b := by
      have ha := h1 a (by simp)
      have hb := h2 b (by simp)
      unfold CM.cmp
      rw [if_pos]
      unfold chkAll chkAll chkAll
      simp [ha, hb]
    have e := ord_anti a b
    have t := ord_tri a b
    show (if CM.cmp a b ≠ 0 then CM.cmp a b else CM.rows l m) = _
    rw [hc]
    have e1 : rl (a :: l) (b :: m) = if CM.ord a b ≠ 0 then decide (CM.ord a b < 0) else rl l m := by rw [rl]
    have e2 : rl (b :: m) (a :: l) = if CM.ord b a ≠ 0 then decide (CM.ord b a < 0) else rl m l := by rw [rl]
    rw [e1, e2]
    by_cases h0 : CM.ord a b = 0
    · have h0' : CM.ord b a = 0 := by omega
      rw [h0, h0']
      simpa using ih
    · rw [e]
      rcases t with t | t | t
      · rw [t]; simp
      · exact absurd t h0
      · rw [t]; simp
end UK
end Go.Proofs.Ytpalikdnpchdeaa
