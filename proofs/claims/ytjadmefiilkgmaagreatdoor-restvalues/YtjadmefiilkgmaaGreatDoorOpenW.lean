/-
  A value that is handed in, with the bounds of its number.
-/
import Derived.Test.YtjadmefiilkgmaaGreatDoorTabs
namespace Go.Proofs.YtjadmefiilkgmaaGreatDoor
open Go.ChangeShapes Go.WideShapes Go.ChangeAt Go.RowKit
set_option linter.unusedVariables false
set_option linter.unusedSimpArgs false
set_option maxRecDepth 100000

theorem open_valw {H : Type} {enc : TypeId × Value → H} {W : World} {base : Nat} {r : Reach} {v : Value} {d : DataW H} {p : List MemPlace} (hval : Value.okWide Tryz.prog W r base 23 v)
    (h : DataW.Trod enc Tryz.prog W 0 (fun _ => true) true 23 v d p) : ∃ x : VM.Vl, v = x.val ∧ (-9223372036854775808 ≤ x.n ∧ x.n ≤ 9223372036854775807) := by
  obtain ⟨cs, rfl, hsz⟩ := okWide_struct Tryz.underlying23 hval
  rw [Tryz.cellsVal] at hsz
  obtain ⟨fuel, hf⟩ := h
  obtain ⟨y0, y1, y2, q, _, _, t0, t1, t2⟩ := Deep.trod_struct3 Tryz.underlying23 hf
  obtain ⟨l⟩ := cs
  match l, hsz with
  | [c0, c1, c2], _ =>
    simp only [Tryz.cellsInt, Tryz.cellsI64, Tryz.cellsStr] at t0 t1 t2
    obtain ⟨k, e0, _, w0⟩ := DataW.trod_int Tryz.underlying3 t0
    obtain ⟨nn, e1, _, w1⟩ := DataW.trod_int Tryz.underlying2 t1
    obtain ⟨s, e2, _, w2⟩ := DataW.trod_string Tryz.underlying9 t2
    simp [Value.cells] at e0 e1 e2
    subst e0 e1 e2
    exact ⟨⟨k, nn, s⟩, rfl, wf_i64 w1⟩

theorem itoa_len (n : Int) (h0 : -9223372036854775808 ≤ n) (h1 : n ≤ 9223372036854775807) : (Lib.itoa n).length ≤ 21 := by
  have key : ∀ (k u : Nat), u < 10 ^ (k + 1) → Lib.nDigits u ≤ k + 1 := by
    intro k
    induction k with
    | zero => intro u h; rw [Lib.nDigits_small (by simpa using h)]; omega
    | succ k ih =>
      intro u h
      by_cases h10 : u < 10
      · rw [Lib.nDigits_small h10]; omega
      · rw [Lib.nDigits_big h10]
        have := ih (u / 10) (by rw [Nat.pow_succ] at h; omega)
        omega
  unfold Lib.itoa
  split
  · rw [List.length_cons, Lib.decDigits_length]
    have := key 19 n.natAbs (by show n.natAbs < 100000000000000000000; omega)
    omega
  · rw [Lib.decDigits_length]
    have := key 19 n.toNat (by show n.toNat < 100000000000000000000; omega)
    omega
theorem shn_len (x : VM.Vl) (h : -9223372036854775808 ≤ x.n ∧ x.n ≤ 9223372036854775807) : (shn x).length ≤ 100 := by
  unfold shn
  split
  · rename_i hc
    obtain ⟨_, _, _, hs⟩ := chk_zero hc
    have hl : x.s.data.toList.length ≤ 16 := by rw [dl_size]; exact hs
    unfold VS.shw
    split
    · have := itoa_len x.n h.1 h.2; omega
    · split
      · have := flat_len VS.dbl dbl_len _ hl
        simp only [List.length_append, List.length_cons, List.length_nil]
        omega
      · split
        · have := flat_len VS.hx hx_len _ hl
          simp only [List.length_append, List.length_cons, List.length_nil]
          omega
        · decide
  · simp
theorem rd_shn (x : VM.Vl) (h : -9223372036854775808 ≤ x.n ∧ x.n ≤ 9223372036854775807) (hc : VM.chk x = 0) : VS.rd (shn x) = ⟨x.k, x.n, x.s.data.toList, 0⟩ := by
  obtain ⟨h1, h2, h3, h4⟩ := chk_zero hc
  unfold shn
  rw [if_pos hc]
  refine VS.rd_shw x.k x.n x.s.data.toList h1 h2 (fun hk => ?_) (by rw [dl_size]; exact h4) h.1 h.2
  exact List.eq_nil_of_length_eq_zero (by rw [dl_size]; exact h3 hk)
end Go.Proofs.YtjadmefiilkgmaaGreatDoor
