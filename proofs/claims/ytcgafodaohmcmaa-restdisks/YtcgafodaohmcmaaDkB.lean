/-
  slices.Clone of a row of pages and of a row of writes.
-/
import Derived.Test.YtcgafodaohmcmaaDkA
namespace Go.Proofs.Ytcgafodaohmcmaa
open Go.ChangeShapes Go.WideShapes Go.ChangeAt Go.RowKit
set_option linter.unusedVariables false
set_option linter.unusedSimpArgs false
set_option maxRecDepth 100000

theorem Try.infoS : (Try.prog.info? 9).map (fun i => (i.zero, i.size, i.bytes)) = some (some (.string ⟨#[]⟩), 1, 16) := by kernel_rfl
set_option maxHeartbeats 2000000 in
theorem cloneS_any (v : Value) (l : List JN.B) (w : World) (hr : IsL cdP w v l) (hl : l.length ≤ 100) :
    Calls Try.prog 13 #[v] w fun e w' => ∃ v', e = .returned v' ∧ w'.ownsRow w.heap.size 9 1 v' l.length (flat cdP l) ∧ Fr w w' := by
  obtain ⟨i0, hi, hz0, hz1, hz2⟩ := info_parts Try.infoS
  obtain ⟨a, cap, rfl, hcap, hcs⟩ := hr
  have qn : ∀ (w : World) (a : Option Addr) (n c n' c' : Nat), (binOp .eql 22 (.slice a n c) (.slice none n' c')).run Try.prog w = .ok (.bool a.isNone) w := fun w a n c n' c' => Lib.run_eql_slice_nil w _ _ a n c n' c' Try.underlying22
  cases a with
  | none =>
    have h0 : l = [] := by
      rcases hcs with h | ⟨b, o, h, _⟩
      · exact h
      · cases h
    subst h0
    clear hcs
    go_enter Try.func13, Try.ntmps13
    go_wp2_with fail
    go_ret
    exact ⟨_, rfl, World.ownsRow_nil _ _ _ _, Fr.refl _⟩
  | some A =>
    have hnews : ∀ j u, (flat cdP l)[j]? = some u → w.cell? (A.add j) = some u := by
      rcases hcs with h | ⟨b, o, h, _, hc⟩
      · subst h; intro j u hj; simp [flat] at hj
      · cases h
        intro j u hj
        rw [Addr.add_lit]
        exact hc j u hj
    have HN : Hid _ := hideP hnews
    have hfl : (flat cdP l).length = l.length * 1 := flat_len cdP l
    have HL : Hid _ := hideP hfl
    have H1 : Hid _ := hideP (flat_one cdP l)
    clear hcs hnews hfl
    generalize flat cdP l = news at HN HL H1
    generalize l.length = n at hl HL hcap
    go_enter Try.func13, Try.ntmps13
    go_wp2_with (at_builtin; refine wpList_append_own _ rfl _ _ 22 rfl w.heap.size 9 i0 (.string ⟨#[]⟩) 1 16 Try.underlying22 hi hz0 hz1 hz2 rfl (by decide) _ _ _ rfl (World.ownsRow_made w #[] 0 (Nat.le_refl _) (Nat.zero_le _) (by simp)) A n cap news rfl ?qc1 ?qc2 ?qc3 ?qc4 ?qc5 ?qc6 ?_)
    case qc1 => exact HL.out
    case qc2 => intro j u hj; exact Lib.cell?_alloc_some _ (HN.out j u hj)
    case qc3 => exact H1.out
    case qc4 => unfold maxLen; omega
    case qc5 => omega
    case qc6 => simp
    intro v' w1 hown hgrow hnil
    have HO := hideP hown
    have HB : Hid (Fr w w1) := ((RowKit.Below.refl _ w).alloc (Nat.le_refl _) _).grown hgrow (by simp) (by intro k hk; simp [Value.ownBlock] at hk; omega)
    clear hown hnil hgrow
    go_wp2_with fail
    go_ret
    exact ⟨v', rfl, by simpa using HO.out, HB.out⟩

theorem Try.infoW : (Try.prog.info? 27).map (fun i => (i.zero, i.size, i.bytes)) = some (some (.agg #[.int .i64 0, .string ⟨#[]⟩]), 2, 24) := by kernel_rfl
set_option maxHeartbeats 2000000 in
theorem cloneW_any (v : Value) (l : List JN.W) (w : World) (hr : IsL cdW w v l) (hl : l.length ≤ 100) :
    Calls Try.prog 12 #[v] w fun e w' => ∃ v', e = .returned v' ∧ w'.ownsRow w.heap.size 27 2 v' l.length (flat cdW l) ∧ Fr w w' := by
  obtain ⟨i0, hi, hz0, hz1, hz2⟩ := info_parts Try.infoW
  obtain ⟨a, cap, rfl, hcap, hcs⟩ := hr
  have qn : ∀ (w : World) (a : Option Addr) (n c n' c' : Nat), (binOp .eql 23 (.slice a n c) (.slice none n' c')).run Try.prog w = .ok (.bool a.isNone) w := fun w a n c n' c' => Lib.run_eql_slice_nil w _ _ a n c n' c' Try.underlying23
  cases a with
  | none =>
    have h0 : l = [] := by
      rcases hcs with h | ⟨b, o, h, _⟩
      · exact h
      · cases h
    subst h0
    clear hcs
    go_enter Try.func12, Try.ntmps12
    go_wp2_with fail
    go_ret
    exact ⟨_, rfl, World.ownsRow_nil _ _ _ _, Fr.refl _⟩
  | some A =>
    have hnews : ∀ j u, (flat cdW l)[j]? = some u → w.cell? (A.add j) = some u := by
      rcases hcs with h | ⟨b, o, h, _, hc⟩
      · subst h; intro j u hj; simp [flat] at hj
      · cases h
        intro j u hj
        rw [Addr.add_lit]
        exact hc j u hj
    have HN : Hid _ := hideP hnews
    have hfl : (flat cdW l).length = l.length * 2 := flat_len cdW l
    have HL : Hid _ := hideP hfl
    have H1 : Hid _ := hideP (flat_one cdW l)
    clear hcs hnews hfl
    generalize flat cdW l = news at HN HL H1
    generalize l.length = n at hl HL hcap
    go_enter Try.func12, Try.ntmps12
    go_wp2_with (at_builtin; refine wpList_append_own _ rfl _ _ 23 rfl w.heap.size 27 i0 (.agg #[.int .i64 0, .string ⟨#[]⟩]) 2 24 Try.underlying23 hi hz0 hz1 hz2 rfl (by decide) _ _ _ rfl (World.ownsRow_made w #[] 0 (Nat.le_refl _) (Nat.zero_le _) (by simp)) A n cap news rfl ?qc1 ?qc2 ?qc3 ?qc4 ?qc5 ?qc6 ?_)
    case qc1 => exact HL.out
    case qc2 => intro j u hj; exact Lib.cell?_alloc_some _ (HN.out j u hj)
    case qc3 => exact H1.out
    case qc4 => unfold maxLen; omega
    case qc5 => omega
    case qc6 => simp
    intro v' w1 hown hgrow hnil
    have HO := hideP hown
    have HB : Hid (Fr w w1) := ((RowKit.Below.refl _ w).alloc (Nat.le_refl _) _).grown hgrow (by simp) (by intro k hk; simp [Value.ownBlock] at hk; omega)
    clear hown hnil hgrow
    go_wp2_with fail
    go_ret
    exact ⟨v', rfl, by simpa using HO.out, HB.out⟩
end Go.Proofs.Ytcgafodaohmcmaa
