/-
  What is read is a right token; and how many bytes it takes.
-/
import Derived.Test.YtoagobpkenfbkaaGreatDoorLxC
import Derived.Test.YtoagobpkenfbkaaGreatDoorLtM
namespace Go.Proofs.YtoagobpkenfbkaaGreatDoor
namespace LX
open VS (Bs dig)
set_option linter.unusedVariables false

theorem run_le (p : UInt8 → Bool) : ∀ l : Bs, run p l ≤ l.length
  | [] => Nat.le_refl _
  | b :: r => by
    have := run_le p r
    show (if p b = true then run p r + 1 else 0) ≤ r.length + 1
    split <;> omega
theorem run_take (p : UInt8 → Bool) : ∀ (l : Bs), ∀ b ∈ l.take (run p l), p b = true
  | [], b, h => by simp at h
  | c :: r, b, h => by
    have ih := run_take p r
    by_cases hc : p c = true
    · rw [run_step p c r hc, List.take_succ_cons] at h
      rcases List.mem_cons.1 h with rfl | h
      · exact hc
      · exact ih b h
    · rw [run_zero p c r (not_true hc)] at h
      simp at h
theorem run_drop (p : UInt8 → Bool) : ∀ (l : Bs), l.drop (run p l) = [] ∨ ∃ b t, l.drop (run p l) = b :: t ∧ p b = false
  | [] => Or.inl rfl
  | c :: r => by
    by_cases hc : p c = true
    · rw [run_step p c r hc, List.drop_succ_cons]
      exact run_drop p r
    · rw [run_zero p c r (not_true hc)]
      exact Or.inr ⟨c, r, rfl, not_true hc⟩
theorem rd_len (l : Bs) (h : (VS.rd l).e = 0) : (VS.rd l).s.length ≤ 16 := by
  have ht : ∀ (k : Int) (o : Option Bs), (VS.txt k o).e = 0 → (VS.txt k o).s.length ≤ 16 := by
    intro k o h
    unfold VS.txt at *
    split at h
    · cases h
    · split at h
      · cases h
      · rename_i h16
        rw [if_neg h16]
        simp only
        omega
  unfold VS.rd at *
  split at h
  · rename_i hn; rw [if_pos hn]; simp
  · rename_i hn
    rw [if_neg hn]
    split at h
    · rename_i hd
      rw [if_pos hd]
      unfold VS.int at *
      split at h
      · simp
      · cases h
    · rename_i hd
      rw [if_neg hd]
      split at h
      · rename_i t hq
        exact ht _ _ h
      · split at h
        · exact ht _ _ h
        · cases h
theorem low_word {b : UInt8} (h : inWord b = true) : (small (low b) || dig (low b)) = true := by
  have key : ∀ n : Fin 256, inWord (UInt8.ofNat n.val) = true → (small (low (UInt8.ofNat n.val)) || dig (low (UInt8.ofNat n.val))) = true := by decide +kernel
  have := key ⟨b.toNat, b.toNat_lt⟩
  simp only [UInt8.ofNat_toNat] at this
  exact this h
theorem low_letter {b : UInt8} (h : letter b = true) : small (low b) = true := by
  have key : ∀ n : Fin 256, letter (UInt8.ofNat n.val) = true → small (low (UInt8.ofNat n.val)) = true := by decide +kernel
  have := key ⟨b.toNat, b.toNat_lt⟩
  simp only [UInt8.ofNat_toNat] at this
  exact this h
theorem ok_lit (k : Int) (hk : k = 3 ∨ k = 4) (s : Bs) (h : s.length ≤ 16) : Ok ⟨k, 0, s⟩ := by
  refine ⟨?_, (by show (0 : Int) ≤ 9223372036854775807; decide)⟩
  unfold chk
  simp only
  rw [if_neg (by omega), if_neg (by omega), if_neg (by omega), if_neg (by omega), if_neg (by omega), if_neg (by omega)]
theorem lit_ok {k : Int} (hk : k = 3 ∨ k = 4) {l : Bs} {size : Nat} {t : Tk} {n : Nat} (h : lit k l size = .ok (t, n)) : Ok t ∧ n = size ∧ size ≠ 0 := by
  unfold lit at h
  simp only at h
  have h0 : size = 0 → (if k = 4 then (l.take size).map low else l.take size) = [] := by
    rintro rfl
    split <;> simp
  generalize (if k = 4 then (l.take size).map low else l.take size) = q at h h0
  by_cases he : (VS.rd q).e = 0
  · rw [if_pos he] at h
    simp only [Except.ok.injEq, Prod.mk.injEq] at h
    obtain ⟨rfl, rfl⟩ := h
    refine ⟨ok_lit k hk _ (rd_len _ he), rfl, fun e => ?_⟩
    rw [h0 e] at he
    revert he
    decide
  · rw [if_neg he] at h
    cases h
theorem first_ok {l : Bs} {t : Tk} {n : Nat} (h : first l = .ok (t, n)) : Ok t ∧ 0 < n := by
  cases l with
  | nil => cases h
  | cons b r =>
    unfold first at h
    simp only at h
    split at h
    · obtain ⟨h1, h2, h3⟩ := lit_ok (Or.inl rfl) h
      exact ⟨h1, by omega⟩
    · split at h
      · obtain ⟨h1, h2, h3⟩ := lit_ok (Or.inr rfl) h
        exact ⟨h1, by omega⟩
      · split at h
        · rename_i hb
          unfold word at h
          split at h
          · cases h
          · rename_i hlen
            simp only [Except.ok.injEq, Prod.mk.injEq] at h
            obtain ⟨rfl, rfl⟩ := h
            have hw : inWord b = true := by unfold inWord; rw [hb]; rfl
            have hr := run_step inWord b r hw
            refine ⟨⟨?_, (by show (0 : Int) ≤ 9223372036854775807; decide)⟩, by omega⟩
            unfold chk
            simp only
            rw [if_neg (by omega), if_neg (by omega), if_pos trivial]
            have hall := run_take inWord (b :: r)
            rw [hr, List.take_succ_cons] at hall ⊢
            unfold chkWord
            simp only [List.map_cons]
            have a1 : (low b :: (r.take (run inWord r)).map low).all (fun c => small c || dig c) = true := by
              rw [List.all_eq_true]
              intro c hc
              rw [← List.map_cons] at hc
              obtain ⟨d, hd, rfl⟩ := List.mem_map.1 hc
              exact low_word (hall d hd)
            have a2 : ¬ 12 < (low b :: (r.take (run inWord r)).map low).length := by
              have := run_le inWord r
              simp only [List.length_cons, List.length_map, List.length_take]
              omega
            rw [if_pos ⟨low_letter hb, a1⟩, if_neg a2]
        · split at h
          · rename_i hd
            have hnum : ∀ q : Bs, q ≠ [] → (∀ c ∈ q, dig c = true) → (VS.rd q).e = 0 → Ok ⟨2, (VS.rd q).n, []⟩ := by
              intro q hne hall he
              have hq : q ≠ VS.nul := by
                rintro rfl
                have := hall 78 (by decide)
                revert this
                decide
              have hdec : VS.isDec q = true := by
                by_cases h0 : VS.isDec q = true
                · exact h0
                · exfalso
                  have hrd : VS.rd q = VS.bad 1 := by
                    unfold VS.rd
                    rw [if_neg hq, if_neg h0]
                    cases q with
                    | nil => exact absurd rfl hne
                    | cons c u =>
                      have hc := dig_iff.1 (hall c (by simp))
                      have e1 : VS.unq (c :: u) = none := by rw [VS.unq_cons, if_neg (fun h => by omega)]
                      rw [e1]
                      simp only
                      rw [VS.trx_cons, if_neg (by omega), e1]
                  rw [hrd] at he
                  cases he
              have hi : VS.rd q = VS.int q := by unfold VS.rd; rw [if_neg hq, if_pos hdec]
              rw [hi, VS.int_dec hdec] at he ⊢
              have hbl : VS.blw q = false := by
                cases q with
                | nil => rfl
                | cons c u =>
                  have hc := dig_iff.1 (hall c (by simp))
                  unfold VS.blw
                  simp only
                  rw [decide_eq_false_iff_not]
                  omega
              rw [hbl] at he ⊢
              unfold VS.num VS.iof at *
              simp only [Bool.false_eq_true, if_false] at *
              split at he
              · split at he
                · rename_i hv
                  rename_i hdg
                  rw [if_pos hdg, if_pos hv]
                  simp only [if_true]
                  refine ⟨?_, by simp only; omega⟩
                  unfold chk
                  simp only
                  rw [if_neg (by omega), if_neg (by simp), if_neg (by omega), if_pos trivial, if_neg (by omega)]
                · cases he
              · cases he
            have hr := run_step dig b r hd
            have hne : (b :: r).take (run dig (b :: r)) ≠ [] := by rw [hr, List.take_succ_cons]; simp
            unfold number at h
            have fin : ∀ x, (if (VS.rd ((b :: r).take (run dig (b :: r)))).e = 0 then (Except.ok (⟨2, (VS.rd ((b :: r).take (run dig (b :: r)))).n, []⟩, run dig (b :: r)) : Except Nat (Tk × Nat)) else .error (VS.rd ((b :: r).take (run dig (b :: r)))).e) = x → x = .ok (t, n) → Ok t ∧ 0 < n := by
              intro x hx hx2
              rw [← hx] at hx2
              split at hx2
              · rename_i he
                simp only [Except.ok.injEq, Prod.mk.injEq] at hx2
                obtain ⟨rfl, rfl⟩ := hx2
                exact ⟨hnum _ hne (run_take dig _) he, by omega⟩
              · cases hx2
            split at h
            · split at h
              · cases h
              · exact fin _ rfl h
            · exact fin _ rfl h
          · unfold sign at h
            split at h
            · rename_i p hp
              simp only [Except.ok.injEq, Prod.mk.injEq] at h
              obtain ⟨rfl, rfl⟩ := h
              have hm := List.mem_of_find?_eq_some hp
              refine ⟨⟨?_, (by show (0 : Int) ≤ 9223372036854775807; decide)⟩, ?_⟩
              · unfold chk
                simp only
                rw [if_neg (by omega), if_neg (by omega), if_neg (by omega), if_neg (by omega), if_pos trivial, if_pos hm]
              · revert hm
                unfold signs
                simp only [List.mem_cons, List.not_mem_nil, or_false]
                rintro (rfl | rfl | rfl | rfl | rfl | rfl | rfl | rfl | rfl | rfl | rfl | rfl | rfl | rfl | rfl) <;> decide
            · cases h
theorem go_ok : ∀ (f at_ : Nat) (l : Bs) (room : Nat) (ps : List (Nat × Tk)), go f at_ l room = .ok ps → (∀ p ∈ ps, Ok p.2) ∧ ps.length ≤ room
  | 0, _, _, _, _, h => by cases h
  | f + 1, at_, l, room, ps, h => by
    unfold go at h
    simp only at h
    split at h
    · cases h; simp
    · split at h
      · cases h
      · rename_i hroom
        split at h
        · cases h
        · rename_i t n hf
          split at h
          · cases h
          · rename_i ts hts
            cases h
            obtain ⟨h1, h2⟩ := go_ok f _ _ _ _ hts
            refine ⟨?_, by simp; omega⟩
            intro p hp
            rcases List.mem_cons.1 hp with rfl | hp
            · exact (first_ok hf).1
            · exact h1 p hp
/-- what is read can be printed, and is read from there as it was -/
theorem lex_again (l : Bs) (ps : List (Nat × Tk)) (h : lex l = .ok ps) : (∀ p ∈ ps, Ok p.2) ∧ ps.length ≤ 120 ∧ ((pt (ps.map (·.2))).length ≤ 300 → ∃ qs, lex (pt (ps.map (·.2))) = .ok qs ∧ qs.map (·.2) = ps.map (·.2)) := by
  unfold lex at h
  split at h
  · cases h
  · obtain ⟨h1, h2⟩ := go_ok _ _ _ _ _ h
    refine ⟨h1, h2, fun h3 => lex_pt _ ?_ (by simpa using h2) h3⟩
    intro t ht
    obtain ⟨p, hp, rfl⟩ := List.mem_map.1 ht
    exact h1 p hp
end LX
end Go.Proofs.YtoagobpkenfbkaaGreatDoor
