/-
  Keys: what is told of a row is read as that row; what is read has just that key.
-/
import Derived.Test.YtpalikdnpchdeaaLMath
import Derived.Test.YtpalikdnpchdeaaKRMath
namespace Go.Proofs.Ytpalikdnpchdeaa
namespace KL
open VM

theorem bv_be : ∀ (k u : Nat), u < 256 ^ k → KR.bv (KM.be k u) = u := by
  suffices h : ∀ (k u a : Nat), u < 256 ^ k → (KM.be k u).foldl (fun a b => a * 256 + b.toNat) a = a * 256 ^ k + u by
    intro k u hu
    have := h k u 0 hu
    simpa [KR.bv] using this
  intro k
  induction k with
  | zero => intro u a hu; simp at hu; simp [KM.be, hu]
  | succ k ih =>
    intro u a hu
    rw [Nat.pow_succ] at hu
    have hp : 0 < 256 ^ k := Nat.pow_pos (by decide)
    have hd : u / 256 ^ k < 256 := Nat.div_lt_of_lt_mul (by rw [Nat.mul_comm] at hu; rw [Nat.mul_comm]; exact hu)
    simp only [KM.be, List.foldl_cons]
    rw [ih _ _ (Nat.mod_lt _ hp), UInt8.toNat_ofNat', Nat.mod_eq_of_lt hd, Nat.pow_succ, Nat.add_mul, Nat.mul_assoc, Nat.mul_comm 256 (256 ^ k), Nat.add_assoc]
    congr 1
    have := Nat.div_add_mod u (256 ^ k)
    rw [Nat.mul_comm (u / 256 ^ k)]
    exact this
theorem be_bv : ∀ (l : List UInt8), KM.be l.length (KR.bv l) = l := by
  intro l
  suffices h : ∀ (n : Nat) (l : List UInt8), l.length = n → KM.be n (KR.bv l) = l from h _ l rfl
  intro n
  induction n with
  | zero => intro l h; rw [List.length_eq_zero_iff.1 h]; rfl
  | succ n ih =>
    intro l h
    cases l with
    | nil => simp at h
    | cons b t =>
      have ht : t.length = n := by simpa using h
      have e : KR.bv (b :: t) = b.toNat * 256 ^ n + KR.bv t := by
        suffices g : ∀ (t : List UInt8) (a : Nat), t.foldl (fun a b => a * 256 + b.toNat) a = a * 256 ^ t.length + KR.bv t by
          unfold KR.bv
          rw [List.foldl_cons, g, ht]
          simp [KR.bv]
        intro t
        induction t with
        | nil => intro a; simp [KR.bv]
        | cons c u ihu =>
          intro a
          unfold KR.bv
          rw [List.foldl_cons, List.foldl_cons, ihu, ihu, List.length_cons, Nat.pow_succ, Nat.add_mul, Nat.mul_assoc, Nat.mul_comm 256]
          simp only [Nat.zero_mul, Nat.zero_add]
          omega
      have hb := KR.bv_lt t
      rw [ht] at hb
      have hp : 0 < 256 ^ n := Nat.pow_pos (by decide)
      rw [KM.be, e]
      congr 1
      · rw [Nat.mul_comm, Nat.mul_add_div hp, Nat.div_eq_of_lt hb, Nat.add_zero]
        simp
      · rw [Nat.mul_comm, Nat.mul_add_mod, Nat.mod_eq_of_lt hb]
        exact ih t ht

theorem kt_esc : ∀ (s acc rest : List UInt8), acc.length + s.length ≤ 16 → KR.kt (KM.esc s ++ rest) acc = .ok (acc ++ s, rest) := by
  intro s
  induction s with
  | nil =>
    intro acc rest h
    show KR.kt (0 :: 1 :: rest) acc = _
    rw [KR.kt]
    simp
    simpa using h
  | cons b t ih =>
    intro acc rest h
    simp only [List.length_cons] at h
    unfold KM.esc
    by_cases hb : b.toNat = 0
    · rw [if_pos hb]
      have e0 : b = 0 := UInt8.toNat_inj.1 hb
      show KR.kt (0 :: 255 :: (KM.esc t ++ rest)) acc = _
      rw [KR.kt]
      have := ih (acc ++ [0]) rest (by simp; omega)
      simp only [List.append_assoc, List.cons_append, List.nil_append] at this
      simp [this, e0]
    · rw [if_neg hb]
      have step : KR.kt (b :: (KM.esc t ++ rest)) acc = KR.kt (KM.esc t ++ rest) (acc ++ [b]) := by
        cases hq : KM.esc t ++ rest with
        | nil =>
          cases t with
          | nil => cases hq
          | cons c u =>
            unfold KM.esc at hq
            split at hq <;> cases hq
        | cons c u => rw [KR.kt, if_pos hb]
      show KR.kt (b :: (KM.esc t ++ rest)) acc = _
      rw [step, ih (acc ++ [b]) rest (by simp; omega)]
      simp
theorem kt_only : ∀ (n : Nat) (l acc s t : List UInt8), l.length ≤ n → KR.kt l acc = .ok (s, t) → ∃ u, s = acc ++ u ∧ l = KM.esc u ++ t ∧ s.length ≤ 16 := by
  intro n
  induction n with
  | zero =>
    intro l acc s t h0 h
    obtain rfl : l = [] := List.length_eq_zero_iff.1 (by omega)
    cases h
  | succ n ih =>
    intro l acc s t h0 h
    match l with
    | [] => cases h
    | [_] => cases h
    | b :: c :: u =>
      unfold KR.kt at h
      simp only [List.length_cons] at h0
      split at h
      · rename_i hb
        obtain ⟨q, h1, h2, h3⟩ := ih _ _ _ _ (by simp; omega) h
        refine ⟨b :: q, by rw [h1]; simp, ?_, h3⟩
        rw [KM.esc, if_neg hb, h2]
        rfl
      · rename_i hb
        have hb0 : b.toNat = 0 := by omega
        split at h
        · rename_i hc
          obtain ⟨q, h1, h2, h3⟩ := ih _ _ _ _ (by omega) h
          refine ⟨0 :: q, by rw [h1]; simp, ?_, h3⟩
          rw [KM.esc, if_pos (show UInt8.toNat 0 = 0 from rfl), h2, show b = 0 from UInt8.toNat_inj.1 hb0, show c = 255 from UInt8.toNat_inj.1 hc]
          rfl
        · split at h
          · rename_i hc
            split at h
            · cases h
            · cases h
              refine ⟨[], by simp, ?_, by omega⟩
              rw [show b = 0 from UInt8.toNat_inj.1 hb0, show c = 1 from UInt8.toNat_inj.1 hc]
              rfl
          · cases h

theorem turn_lt {x : Vl} (h : LM.wide x) : KM.turn x.n < 256 ^ 8 := by
  unfold LM.wide at h
  unfold KM.turn
  omega
theorem kv_back {x : Vl} (h : chk x = 0) (hw : LM.wide x) (rest : List UInt8) : KR.kv (KM.kb x ++ rest) = .ok (x, rest) := by
  rcases LM.kinds h with rfl | ⟨h1, h2⟩ | ⟨h1, h2, h3⟩
  · rfl
  · obtain ⟨k, n, s⟩ := x
    simp only at h1 h2
    subst h1 h2
    show KR.kn (KM.be 8 (KM.turn n) ++ rest) = _
    have hl := KM.be_len 8 (KM.turn n)
    unfold KR.kn KR.ki
    rw [if_neg (by rw [List.length_append, hl]; omega)]
    simp only
    rw [List.take_left' hl, List.drop_left' hl, bv_be _ _ (turn_lt hw)]
    have : ((KM.turn n : Nat) : Int) - 9223372036854775808 = n := by
      unfold LM.wide at hw
      simp only at hw
      unfold KM.turn
      omega
    rw [this]
  · obtain ⟨k, n, s⟩ := x
    simp only at h1 h2 h3
    subst h2
    have e := LM.dl s
    have key : ∀ q : Nat, KR.kx q (KM.esc s.data.toList ++ rest) = .ok (⟨q, 0, s⟩, rest) := by
      intro q
      unfold KR.kx
      rw [kt_esc _ [] rest (by simp; omega)]
      simp only [List.nil_append]
    rcases h1 with rfl | rfl
    · exact key 2
    · exact key 3
theorem kb_cons (x : Vl) : ∃ b t, KM.kb x = b :: t := by
  unfold KM.kb
  split
  · exact ⟨_, _, rfl⟩
  · split
    · exact ⟨_, _, rfl⟩
    · split <;> exact ⟨_, _, rfl⟩
theorem kr_back : ∀ {l : List Vl} {n : Nat}, l.length ≤ n → (∀ x ∈ l, chk x = 0) → (∀ x ∈ l, LM.wide x) → KR.kr n (KM.row l) = .ok (l, []) := by
  intro l
  induction l with
  | nil => intro n _ _ _; exact KR.kr_nil n
  | cons a t ih =>
    intro n hn h hw
    cases n with
    | zero => simp at hn
    | succ n =>
      obtain ⟨b, u, hb⟩ := kb_cons a
      have e : KM.row (a :: t) = b :: (u ++ KM.row t) := by
        unfold KM.row
        rw [List.flatMap_cons, hb]
        rfl
      have e2 : KR.kv (b :: (u ++ KM.row t)) = .ok (a, KM.row t) := by
        have := kv_back (h a (by simp)) (hw a (by simp)) (KM.row t)
        rw [hb] at this
        exact this
      rw [e, KR.kr, e2]
      simp only
      rw [ih (by simpa using hn) (fun x hx => h x (by simp [hx])) (fun x hx => hw x (by simp [hx]))]
theorem kv_only {l t : List UInt8} {x : Vl} (h : KR.kv l = .ok (x, t)) : chk x = 0 ∧ LM.wide x ∧ l = KM.kb x ++ t := by
  unfold KR.kv at h
  split at h
  · cases h
  · rename_i b u
    split at h
    · rename_i hb
      cases h
      refine ⟨by decide, by unfold LM.wide; decide, ?_⟩
      rw [LM.u8_eq hb]
      rfl
    · split at h
      · rename_i hb
        unfold KR.kn at h
        split at h
        · cases h
        · rename_i n v h'
          unfold KR.ki at h'
          split at h'
          · cases h'
          · rename_i h8
            cases h'
            cases h
            have hl : (u.take 8).length = 8 := by rw [List.length_take]; omega
            have hb8 := KR.bv_lt (u.take 8)
            rw [hl] at hb8
            have ht : KM.turn ((KR.bv (u.take 8) : Int) - 9223372036854775808) = KR.bv (u.take 8) := by
              unfold KM.turn
              omega
            refine ⟨LM.chk_int _, ⟨by simp only; omega, by simp only; omega⟩, ?_⟩
            rw [LM.u8_eq hb]
            show _ = 16 :: (KM.be 8 (KM.turn ((KR.bv (u.take 8) : Int) - 9223372036854775808)) ++ u.drop 8)
            rw [ht]
            have := be_bv (u.take 8)
            rw [hl] at this
            rw [this, List.take_append_drop]
            rfl
      · have key : ∀ (q : Nat), KR.kx q u = .ok (x, t) → x.k = q ∧ x.n = 0 ∧ x.s.size ≤ 16 ∧ u = KM.esc x.s.data.toList ++ t := by
          intro q hq
          unfold KR.kx at hq
          split at hq
          · cases hq
          · rename_i s v h'
            cases hq
            obtain ⟨w, h1, h2, h3⟩ := kt_only _ _ _ _ _ (Nat.le_refl _) h'
            rw [List.nil_append] at h1
            subst h1
            exact ⟨rfl, rfl, h3, by simpa using h2⟩
        split at h
        · rename_i hb
          obtain ⟨h1, h2, h3, h4⟩ := key 2 h
          obtain ⟨k, n, s⟩ := x
          simp only at h1 h2 h3 h4
          subst h1 h2
          refine ⟨LM.chk_text (Or.inl rfl) h3, ⟨by simp only; omega, by simp only; omega⟩, ?_⟩
          rw [LM.u8_eq hb, h4]
          rfl
        · split at h
          · rename_i hb
            obtain ⟨h1, h2, h3, h4⟩ := key 3 h
            obtain ⟨k, n, s⟩ := x
            simp only at h1 h2 h3 h4
            subst h1 h2
            refine ⟨LM.chk_text (Or.inr rfl) h3, ⟨by simp only; omega, by simp only; omega⟩, ?_⟩
            rw [LM.u8_eq hb, h4]
            rfl
          · cases h
theorem kr_only : ∀ {n : Nat} {l t : List UInt8} {xs : List Vl}, KR.kr n l = .ok (xs, t) → xs.length ≤ n ∧ (∀ x ∈ xs, chk x = 0) ∧ (∀ x ∈ xs, LM.wide x) ∧ l = KM.row xs := by
  intro n
  induction n with
  | zero =>
    intro l t xs h
    cases l with
    | nil => cases h; exact ⟨by simp, fun x hx => by simp at hx, fun x hx => by simp at hx, rfl⟩
    | cons b u => cases h
  | succ n ih =>
    intro l t xs h
    cases l with
    | nil => cases h; exact ⟨by simp, fun x hx => by simp at hx, fun x hx => by simp at hx, rfl⟩
    | cons b u =>
      rw [KR.kr] at h
      split at h
      · cases h
      · rename_i x v h1
        split at h
        · cases h
        · rename_i ys z h2
          cases h
          obtain ⟨a1, a2, a3⟩ := kv_only h1
          obtain ⟨b1, b2, b3, b4⟩ := ih h2
          refine ⟨by simp; omega, ?_, ?_, ?_⟩
          · intro y hy
            rcases List.mem_cons.1 hy with rfl | hy
            · exact a1
            · exact b2 y hy
          · intro y hy
            rcases List.mem_cons.1 hy with rfl | hy
            · exact a2
            · exact b3 y hy
          · rw [a3, b4]
            unfold KM.row
            rw [List.flatMap_cons]
theorem row_back {l : List Vl} (h : chkRow l = 0) (hw : ∀ x ∈ l, LM.wide x) : KR.kr 8 (KM.row l) = .ok (l, []) := by
  obtain ⟨h8, ha⟩ := WM.chkRow_ok h
  exact kr_back h8 ha hw
theorem row_only {l t : List UInt8} {xs : List Vl} (h : KR.kr 8 l = .ok (xs, t)) : chkRow xs = 0 ∧ (∀ x ∈ xs, LM.wide x) ∧ l = KM.row xs := by
  obtain ⟨h1, h2, h3, h4⟩ := kr_only h
  refine ⟨?_, h3, h4⟩
  unfold chkRow
  rw [if_neg (by omega)]
  exact LM.chkAll_mk h2
end KL
end Go.Proofs.Ytpalikdnpchdeaa
