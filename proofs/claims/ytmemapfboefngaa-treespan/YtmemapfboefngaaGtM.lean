/-
  What belongs together: TwG, TwH.
-/
import Derived.Test.YtmemapfboefngaaGtL
import Derived.Test.YtmemapfboefngaaGtA
import Derived.Test.YtmemapfboefngaaTwD
import Derived.Test.YtmemapfboefngaaOpenP
namespace Go.Proofs.Ytmemapfboefngaa
set_option linter.unusedVariables false
set_option linter.unusedSimpArgs false
set_option maxRecDepth 100000
namespace TK
theorem ord : TR.Ord lt := ⟨lt_irr, fun _ _ _ h g => lt_trans h g, fun a b => by
  cases h : lt a b with
  | true => exact .inr (.inl rfl)
  | false =>
    cases g : lt b a with
    | true => exact .inr (.inr rfl)
    | false => exact .inl (lt_tot h g)⟩
theorem find_get {key : ByteArray} {L : List (List Pr)} {U : List (List Int)} (h : chk L U = 0) : findA key L U = if 40 < key.size then ((0, false), 2) else (fndV (get key L.flatten), 0) := by
  obtain ⟨hu, hne, _⟩ := chk_facts h
  unfold findA
  rw [if_neg (by simp [h]), fnd_get hu hne]
/-- what statements want of Insert -/
theorem ins_all {key : ByteArray} {n : Int} {L : List (List Pr)} {Un : List (List Nat)} (h : insE key L (Un.map nI) = 0) :
    chk L (Un.map nI) = 0 ∧ chk (insT key n L Un).1 ((insT key n L Un).2.map nI) = 0 ∧ findA key (insT key n L Un).1 ((insT key n L Un).2.map nI) = ((n, true), 0) ∧ (insT key n L Un).1.flatten.length = L.flatten.length + 1 ∧
      ∀ other, (findA other (insT key n L Un).1 ((insT key n L Un).2.map nI)).2 = (findA other L (Un.map nI)).2 ∧ (other ≠ key → (findA other (insT key n L Un).1 ((insT key n L Un).2.map nI)).1 = (findA other L (Un.map nI)).1) := by
  obtain ⟨A, B, h1, h2, h3, h4, h5⟩ := ins_sp (n := n) h
  obtain ⟨hc, hk, _, _⟩ := insE_zero h
  refine ⟨hc, h5, ?_, ?_, fun other => ?_⟩
  · rw [find_get h5, if_neg (by omega), h4, get_mid (fun x hx => lt_ne (h2 x hx)) rfl]; rfl
  · rw [h4, h1]; simp; omega
  · rw [find_get h5, find_get hc]
    refine ⟨by split <;> rfl, fun hne => ?_⟩
    rw [h4, h1, get_other (p := ⟨key, n⟩) (fun e => hne e.symm)]
theorem flt_mid {key : ByteArray} {A B : List Pr} {p : Pr} (hp : p.k = key) (h1 : ∀ x ∈ A, x.k ≠ key) (h2 : ∀ x ∈ B, x.k ≠ key) : (A ++ p :: B).filter (fun x => !decide (x.k = key)) = A ++ B := by
  rw [List.filter_append, List.filter_cons_of_neg (by simp [hp]), List.filter_eq_self.2 (by simpa using h1), List.filter_eq_self.2 (by simpa using h2)]
theorem up_behind {A B : List Pr} {p : Pr} (h : Up (A ++ p :: B)) : ∀ x ∈ B, lt p.k x.k = true := by
  obtain ⟨_, h2, _⟩ := up_app.1 h
  exact fun x hx => List.rel_of_pairwise_cons h2 hx
/-- what statements want of Delete -/
theorem del_all {key : ByteArray} {L : List (List Pr)} {Un : List (List Nat)} (h : delE key L (Un.map nI) = 0) :
    chk L (Un.map nI) = 0 ∧ chk (delT key L Un).1 ((delT key L Un).2.map nI) = 0 ∧ findA key (delT key L Un).1 ((delT key L Un).2.map nI) = ((0, false), 0) ∧ L.flatten.length = (delT key L Un).1.flatten.length + 1 ∧
      (delT key L Un).1.flatten = L.flatten.filter (fun x => !decide (x.k = key)) ∧
      ∀ other, (findA other (delT key L Un).1 ((delT key L Un).2.map nI)).2 = (findA other L (Un.map nI)).2 ∧ (other ≠ key → (findA other (delT key L Un).1 ((delT key L Un).2.map nI)).1 = (findA other L (Un.map nI)).1) := by
  obtain ⟨A, p, B, h1, h2, h3, h4, h5⟩ := del_sp h
  obtain ⟨hc, _⟩ := delE_zero h
  obtain ⟨hu, _, hk, _⟩ := chk_facts hc
  rw [h1] at hu hk
  have hB := up_behind hu
  subst h2
  have nA : ∀ x ∈ A, x.k ≠ p.k := fun x hx => lt_ne (h3 x hx)
  have nB : ∀ x ∈ B, x.k ≠ p.k := fun x hx e => lt_ne (hB x hx) e.symm
  refine ⟨hc, h5, ?_, ?_, ?_, fun other => ?_⟩
  · rw [find_get h5, if_neg (by have := hk p (by simp); omega), h4, get_none]
    · rfl
    · intro x hx
      rcases List.mem_append.1 hx with hx | hx
      · exact nA x hx
      · exact nB x hx
  · rw [h4, h1]; simp; omega
  · rw [h4, h1, flt_mid rfl nA nB]
  · rw [find_get h5, find_get hc]
    refine ⟨by split <;> rfl, fun hne => ?_⟩
    rw [h4, h1, get_other (fun e => hne e.symm)]
/-- what was inserted is deleted -/
theorem undone {key : ByteArray} {n : Int} {L : List (List Pr)} {Un : List (List Nat)} (h : insE key L (Un.map nI) = 0) :
    delE key (insT key n L Un).1 ((insT key n L Un).2.map nI) = 0 ∧ (delT key (insT key n L Un).1 (insT key n L Un).2).1.flatten = L.flatten := by
  obtain ⟨A, B, h1, h2, h3, h4, h5⟩ := ins_sp (n := n) h
  obtain ⟨hu, hne, _⟩ := chk_facts h5
  have hd : delE key (insT key n L Un).1 ((insT key n L Un).2.map nI) = 0 := by
    unfold delE
    rw [if_neg (by simp [h5]), if_neg]
    rw [(isAt_mem hu hne).2 ⟨⟨key, n⟩, by rw [h4]; simp, rfl⟩]
    decide
  refine ⟨hd, ?_⟩
  rw [(del_all hd).2.2.2.2.1, h4, flt_mid (p := ⟨key, n⟩) rfl (fun x hx => lt_ne (h2 x hx)) (fun x hx e => lt_ne (h3 x hx) e.symm), h1]
theorem ins_mem {key : ByteArray} {n : Int} {L : List (List Pr)} {Un : List (List Nat)} (h : insE key L (Un.map nI) = 0) (p : Pr) : p ∈ (insT key n L Un).1.flatten ↔ p = ⟨key, n⟩ ∨ p ∈ L.flatten := by
  obtain ⟨A, B, h1, h2, h3, h4, h5⟩ := ins_sp (n := n) h
  rw [h4, h1]
  simp only [List.mem_append, List.mem_cons]
  constructor
  · rintro (h | h | h)
    · exact .inr (.inl h)
    · exact .inl h
    · exact .inr (.inr h)
  · rintro (h | h | h)
    · exact .inr (.inl h)
    · exact .inl h
    · exact .inr (.inr h)
theorem insE_is {key : ByteArray} {L : List (List Pr)} {U : List (List Int)} (hc : chk L U = 0) (hk : key.size ≤ 40) (hn : ∀ x ∈ L.flatten, x.k ≠ key) : insE key L U = if L.flatten.length = 64 then 2 else 0 := by
  obtain ⟨hu, hne, _⟩ := chk_facts hc
  unfold insE
  rw [if_neg (by simp [hc]), if_neg (by omega), if_neg]
  intro e
  obtain ⟨x, hx, e⟩ := (isAt_mem hu hne).1 e
  exact hn x hx e
theorem insE_no {key : ByteArray} {L : List (List Pr)} {Un : List (List Nat)} (h : insE key L (Un.map nI) = 0) : ∀ x ∈ L.flatten, x.k ≠ key := by
  obtain ⟨A, B, h1, h2, h3, _⟩ := ins_sp (n := 0) h
  intro x hx
  rw [h1] at hx
  rcases List.mem_append.1 hx with hx | hx
  · exact lt_ne (h2 x hx)
  · exact fun e => lt_ne (h3 x hx) e.symm
/-- two keys, whichever comes first -/
theorem either {a b : ByteArray} {x y : Int} {L : List (List Pr)} {Un : List (List Nat)} (hab : a ≠ b) (ha : insE a L (Un.map nI) = 0) (hb : insE b L (Un.map nI) = 0) :
    insE b (insT a x L Un).1 ((insT a x L Un).2.map nI) = insE a (insT b y L Un).1 ((insT b y L Un).2.map nI) ∧ (insE b (insT a x L Un).1 ((insT a x L Un).2.map nI) = 0 ∨ insE b (insT a x L Un).1 ((insT a x L Un).2.map nI) = 2) ∧
      (insE b (insT a x L Un).1 ((insT a x L Un).2.map nI) = 0 → (insT b y (insT a x L Un).1 (insT a x L Un).2).1.flatten = (insT a x (insT b y L Un).1 (insT b y L Un).2).1.flatten) := by
  obtain ⟨a1, a2, _, a4, _⟩ := ins_all (n := x) ha
  obtain ⟨b1, b2, _, b4, _⟩ := ins_all (n := y) hb
  have e1 := insE_is (key := b) a2 (insE_zero hb).2.1 (by
    intro z hz
    rcases (ins_mem ha z).1 hz with rfl | hz
    · exact hab
    · exact insE_no hb z hz)
  have e2 := insE_is (key := a) b2 (insE_zero ha).2.1 (by
    intro z hz
    rcases (ins_mem hb z).1 hz with rfl | hz
    · exact fun e => hab e.symm
    · exact insE_no ha z hz)
  rw [a4] at e1
  rw [b4] at e2
  refine ⟨by rw [e1, e2], by rw [e1]; split; exact .inr rfl; exact .inl rfl, fun h0 => ?_⟩
  have h0' : insE a (insT b y L Un).1 ((insT b y L Un).2.map nI) = 0 := by rw [e2, ← e1, h0]
  have u1 := (chk_facts (ins_all (n := y) h0).2.1).1
  have u2 := (chk_facts (ins_all (n := x) h0').2.1).1
  refine TR.up_unique (lt := lt) Pr.k ord u1 u2 fun p => ?_
  rw [ins_mem h0, ins_mem h0', ins_mem ha, ins_mem hb]
  constructor
  · rintro (h | h | h)
    · exact .inr (.inl h)
    · exact .inl h
    · exact .inr (.inr h)
  · rintro (h | h | h)
    · exact .inr (.inl h)
    · exact .inl h
    · exact .inr (.inr h)
/-- how many pairs -/
theorem tall {L : List (List Pr)} {U : List (List Int)} (h : chk L U = 0) (h0 : L ≠ []) : U.length ≤ 8 ∧ (if U.length = 0 then 1 else 2 * 2 ^ U.length) ≤ L.flatten.length ∧ L.flatten.length ≤ 4 * 4 ^ U.length := by
  obtain ⟨Un, rfl, hR, h8, _⟩ := right_of h
  rw [List.length_map]
  have hs := TR.sz_sum L
  have hn := TR.sz_len L
  refine ⟨h8, ?_⟩
  rcases hR with ⟨h1, _⟩ | ⟨hl, h2⟩
  · exact absurd h1 h0
  obtain ⟨t1, t2⟩ := TR.tall hl
  generalize L.flatten.length = F at *
  rcases h2 with h2 | h2
  · have hb := TR.sum_bounds h2
    split
    · rename_i e
      have : Un = [] := List.length_eq_zero_iff.1 e
      subst this
      have t1' : 1 ≤ L.length := t1
      have t2' : L.length ≤ 1 := t2
      show 1 ≤ F ∧ F ≤ 4 * 1
      omega
    · omega
  · rw [h2] at hn hs
    have hn' : L.length = 1 := hn.symm
    have hs' : F = 1 := hs.symm
    rw [hn'] at t1 t2 hl
    have : Un.length = 0 := by
      rcases Nat.eq_zero_or_pos Un.length with e | e
      · exact e
      · have h2 : 2 ^ 1 ≤ 2 ^ Un.length := Nat.pow_le_pow_right (by decide) e
        omega
    rw [if_pos this, this]
    show 1 ≤ F ∧ F ≤ 4 * 1
    omega
end TK
end Go.Proofs.Ytmemapfboefngaa
namespace Go.Proofs.Ytmemapfboefngaa
open Go.ChangeShapes Go.WideShapes Go.ChangeAt Go.RowKit
set_option linter.unusedVariables false
set_option linter.unusedSimpArgs false
set_option maxRecDepth 100000
/-- Insert of a tree that is handed in -/
theorem ins_err {p q : Value} {L : List (List TK.Pr)} {U : List (List Int)} (key : ByteArray) (n : Int) {w : World} (h : IsT w p q L U) (b : BT L U) (hk : key.size ≤ 9223372036854775806) (hi : TK.insE key L U ≠ 0) :
    Calls Try.prog 23 #[.agg #[p, q], .string key, .int .i64 n] w fun e w' => e = .returned (.tuple #[.agg #[.slice none 0 0, .slice none 0 0], .int .i64 ((TK.insE key L U : Nat) : Int)]) ∧ Fr w w' :=
  insert_bad key n h b.l b.r b.s b.u b.ur hk hi
theorem del_err {p q : Value} {L : List (List TK.Pr)} {U : List (List Int)} (key : ByteArray) {w : World} (h : IsT w p q L U) (b : BT L U) (hi : TK.delE key L U ≠ 0) :
    Calls Try.prog 26 #[.agg #[p, q], .string key] w fun e w' => e = .returned (.tuple #[.agg #[.slice none 0 0, .slice none 0 0], .int .i64 ((TK.delE key L U : Nat) : Int)]) ∧ Fr w w' :=
  delete_bad key h b.l b.r b.s b.u b.ur hi
theorem find_bt {p q : Value} {L : List (List TK.Pr)} {U : List (List Int)} (key : ByteArray) {w : World} (h : IsT w p q L U) (b : BT L U) (hk : key.size ≤ 9223372036854775806) :
    Calls Try.prog 15 #[.agg #[p, q], .string key] w fun e w' => e = .returned (.tuple #[.int .i64 (TK.findA key L U).1.1, .bool (TK.findA key L U).1.2, .int .i64 (((TK.findA key L U).2 : Nat) : Int)]) ∧ Fr w w' :=
  find_any p q L U key w h b.l b.r b.s b.u b.ur hk
theorem list_err {p q : Value} {L : List (List TK.Pr)} {U : List (List Int)} {w : World} (h : IsT w p q L U) (b : BT L U) (hc : TK.chk L U ≠ 0) :
    Calls Try.prog 14 #[.agg #[p, q]] w fun e w' => e = .returned (.tuple #[.slice none 0 0, .int .i64 ((TK.chk L U : Nat) : Int)]) ∧ Fr w w' :=
  list_bad h b.l b.r b.s b.u b.ur hc
theorem range_err {p q : Value} {L : List (List TK.Pr)} {U : List (List Int)} (lo hi : ByteArray) {w : World} (h : IsT w p q L U) (b : BT L U) (hc : TK.chk L U ≠ 0) :
    Calls Try.prog 16 #[.agg #[p, q], .string lo, .string hi] w fun e w' => e = .returned (.tuple #[.slice none 0 0, .int .i64 ((TK.chk L U : Nat) : Int)]) ∧ Fr w w' :=
  range_bad lo hi h b.l b.r b.s b.u b.ur hc
/-- calls on trees that are right -/
theorem check_ok {p q : Value} {L : List (List TK.Pr)} {U : List (List Int)} {w : World} (h : IsT w p q L U) (hc : TK.chk L U = 0) :
    Calls Try.prog 18 #[.agg #[p, q]] w fun e w' => e = .returned (.int .i64 0) ∧ Fr w w' := by
  obtain ⟨s1, s2, s3, s4, s5⟩ := TK.small_of hc
  refine (tcheck_any p q L U w h s1 s2 s3 s4 s5).mono ?_
  rintro e w' ⟨h1, h2⟩
  rw [hc] at h1
  exact ⟨h1, h2⟩
end Go.Proofs.Ytmemapfboefngaa
