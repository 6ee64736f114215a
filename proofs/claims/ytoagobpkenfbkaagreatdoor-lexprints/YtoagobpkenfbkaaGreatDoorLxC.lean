/-
  Tokens that are printed are read as they were.
-/
import Derived.Test.YtoagobpkenfbkaaGreatDoorLxB
namespace Go.Proofs.YtoagobpkenfbkaaGreatDoor
namespace LX
open VS (Bs dig)
set_option linter.unusedVariables false

def pt : List Tk → Bs
  | [] => []
  | [t] => shw t
  | t :: u :: ts => shw t ++ 32 :: pt (u :: ts)
/-- a token's first byte is no blank, and no two of them begin a remark -/
theorem shw_head (t : Tk) (ht : Ok t) : ∃ b x, shw t = b :: x ∧ blank b = false ∧ (b = 45 → x = []) := by
  obtain ⟨hc, hn⟩ := ht
  obtain ⟨k, n, s⟩ := t
  simp only at hn
  unfold chk at hc
  simp only at hc
  split at hc
  · cases hc
  · rename_i hk
    split at hc
    · cases hc
    · rename_i hf
      unfold shw
      simp only
      split at hc
      · rename_i h1
        subst h1
        rw [if_pos (Or.inl rfl)]
        cases s with
        | nil => exact absurd hc (by decide)
        | cons b s =>
          unfold chkWord at hc
          simp only at hc
          split at hc
          · rename_i hb
            have := small_iff.1 hb.1
            refine ⟨b, s, rfl, not_true (fun h => by have := blank_iff.1 h; omega), fun e => ?_⟩
            subst e
            exact absurd this (by decide)
          · cases hc
      · rename_i h1
        split at hc
        · rename_i h2
          subst h2
          rw [if_neg (by decide), if_pos rfl]
          split at hc
          · cases hc
          · rename_i hn0
            have e : VS.shw 1 n [] = Lib.decDigits n.toNat := by
              show Lib.itoa n = _
              unfold Lib.itoa
              rw [if_neg (by omega)]
            obtain ⟨hd, _, b, t, hbt, _⟩ := VS.dec_facts n.toNat
            rw [hbt, List.all_cons, Bool.and_eq_true] at hd
            have := dig_iff.1 hd.1
            refine ⟨b, t, by rw [e, hbt], not_true (fun h => by have := blank_iff.1 h; omega), fun e => ?_⟩
            subst e
            exact absurd this (by decide)
        · rename_i h2
          split at hc
          · rename_i h5
            subst h5
            split at hc
            · rename_i hs
              rw [if_pos (Or.inr rfl)]
              unfold signs at hs
              simp only [List.mem_cons, List.not_mem_nil, or_false] at hs
              rcases hs with rfl | rfl | rfl | rfl | rfl | rfl | rfl | rfl | rfl | rfl | rfl | rfl | rfl | rfl | rfl <;> exact ⟨_, _, rfl, by decide, by decide⟩
            · cases hc
          · rename_i h5
            rw [if_neg (by omega), if_neg h2]
            obtain rfl | rfl : k = 3 ∨ k = 4 := by omega
            · rw [if_pos rfl]
              exact ⟨39, _, rfl, by decide, fun e => absurd e (by decide)⟩
            · rw [if_neg (by decide)]
              exact ⟨120, _, rfl, by decide, fun e => absurd e (by decide)⟩
theorem run_zero (p : UInt8 → Bool) (b : UInt8) (r : Bs) (h : p b = false) : run p (b :: r) = 0 := by
  show (if p b = true then run p r + 1 else 0) = 0
  rw [if_neg (by rw [h]; decide)]
theorem run_step (p : UInt8 → Bool) (b : UInt8) (r : Bs) (h : p b = true) : run p (b :: r) = run p r + 1 := if_pos h
/-- nothing that begins a remark -/
def NoRem (l : Bs) : Prop := ∀ r, l ≠ 45 :: 45 :: r
theorem skp_here (n : Nat) (l : Bs) (h : NoRem (l.drop (run blank l))) : skp (n + 1) l = run blank l := by
  unfold skp
  split
  · rename_i r hr
    exact absurd hr (h r)
  · rfl
theorem norem_shw {t : Tk} (ht : Ok t) {r : Bs} (h : Ends r) : NoRem (shw t ++ r) := by
  obtain ⟨b, x, e, hb, h45⟩ := shw_head t ht
  intro u hu
  rw [e] at hu
  simp only [List.cons_append, List.cons.injEq] at hu
  obtain ⟨rfl, hu⟩ := hu
  rw [h45 rfl, List.nil_append] at hu
  rcases h with rfl | ⟨c, t', rfl, hc⟩
  · cases hu
  · simp only [List.cons.injEq] at hu
    obtain ⟨rfl, _⟩ := hu
    revert hc
    decide
theorem skp_tok {t : Tk} (ht : Ok t) {r : Bs} (h : Ends r) (n : Nat) : skp (n + 1) (shw t ++ r) = 0 ∧ skp (n + 1) (32 :: (shw t ++ r)) = 1 := by
  have hnr := norem_shw ht h
  obtain ⟨b, x, e, hb, _⟩ := shw_head t ht
  have h0 : run blank (shw t ++ r) = 0 := by rw [e]; exact run_zero _ _ _ hb
  have h1 : run blank (32 :: (shw t ++ r)) = 1 := by rw [run_step _ _ _ (by decide), h0]
  constructor
  · rw [skp_here n _ (by rw [h0]; exact hnr), h0]
  · rw [skp_here n _ (by rw [h1]; exact hnr), h1]
theorem pt_cons (t : Tk) (ts : List Tk) : ∃ r, pt (t :: ts) = shw t ++ r ∧ Ends r ∧ ((ts = [] ∧ r = []) ∨ (ts ≠ [] ∧ r = 32 :: pt ts)) := by
  cases ts with
  | nil => exact ⟨[], by simp [pt], Or.inl rfl, Or.inl ⟨rfl, rfl⟩⟩
  | cons u ts => exact ⟨32 :: pt (u :: ts), rfl, Or.inr ⟨32, _, rfl, by decide⟩, Or.inr ⟨by simp, rfl⟩⟩
theorem go_pt : ∀ (ts : List Tk) (f at_ room : Nat) (px : Bs), (px = [] ∨ (px = [32] ∧ ts ≠ [])) → (∀ t ∈ ts, Ok t) → ts.length ≤ room → ts.length < f → ∃ ps, go f at_ (px ++ pt ts) room = .ok ps ∧ ps.map (·.2) = ts
  | [], f, at_, room, px, hp, _, _, hf => by
    rcases hp with rfl | ⟨_, h⟩
    · cases f with
      | zero => simp at hf
      | succ f => exact ⟨[], rfl, rfl⟩
    · exact absurd rfl h
  | t :: ts, f, at_, room, px, hp, hok, hr, hf => by
    obtain ⟨r, hpt, hE, hrest⟩ := pt_cons t ts
    have ht := hok t (by simp)
    obtain ⟨b, x, e, hb, _⟩ := shw_head t ht
    cases f with
    | zero => simp at hf
    | succ f =>
      simp only [List.length_cons] at hr hf
      have hroom : room ≠ 0 := by omega
      have ih := go_pt ts f
      have hk : skp ((px ++ pt (t :: ts)).length + 1) (px ++ pt (t :: ts)) = px.length := by
        rw [hpt]
        rcases hp with rfl | ⟨rfl, _⟩
        · exact (skp_tok ht hE _).1
        · exact (skp_tok ht hE _).2
      have hd : (px ++ pt (t :: ts)).drop px.length = b :: (x ++ r) := by rw [List.drop_left' rfl, hpt, e]; rfl
      have hb1 := back_one t r ht hE
      have hb2 : b :: (x ++ r) = shw t ++ r := by rw [e]; rfl
      obtain ⟨ps, h1, h2⟩ : ∃ ps, go f (at_ + px.length + (shw t).length) r (room - 1) = .ok ps ∧ ps.map (·.2) = ts := by
        rcases hrest with ⟨rfl, rfl⟩ | ⟨hne, rfl⟩
        · exact ih _ _ [] (Or.inl rfl) (by simp) (by simp) (by omega)
        · exact ih _ _ [32] (Or.inr ⟨rfl, hne⟩) (fun u hu => hok u (by simp [hu])) (by omega) (by omega)
      refine ⟨(at_ + px.length, t) :: ps, ?_, by simp [h2]⟩
      unfold go
      simp only
      rw [hk, hd]
      simp only
      rw [if_neg hroom, hb2, hb1]
      simp only
      rw [List.drop_left' rfl, h1]
/-- what is printed is read as the tokens it is of -/
theorem lex_pt (ts : List Tk) (hok : ∀ t ∈ ts, Ok t) (h120 : ts.length ≤ 120) (h300 : (pt ts).length ≤ 300) : ∃ ps, lex (pt ts) = .ok ps ∧ ps.map (·.2) = ts := by
  unfold lex
  rw [if_neg (by omega)]
  have hlen : ∀ ts : List Tk, (∀ t ∈ ts, Ok t) → ts.length ≤ (pt ts).length := by
    intro ts
    induction ts with
    | nil => intro _; exact Nat.le_refl _
    | cons t ts ih =>
      intro hok
      obtain ⟨r, hpt, _, hrest⟩ := pt_cons t ts
      obtain ⟨b, x, e, _⟩ := shw_head t (hok t (by simp))
      rw [hpt, e]
      rcases hrest with ⟨rfl, rfl⟩ | ⟨_, rfl⟩
      · simp
      · have := ih (fun u hu => hok u (by simp [hu]))
        simp only [List.length_cons, List.cons_append, List.length_append]
        omega
  have := hlen ts hok
  exact go_pt ts _ 0 120 [] (Or.inl rfl) hok h120 (by omega)
end LX
end Go.Proofs.YtoagobpkenfbkaaGreatDoor
