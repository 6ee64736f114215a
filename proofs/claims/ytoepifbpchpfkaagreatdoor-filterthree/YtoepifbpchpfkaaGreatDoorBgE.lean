/-
  slices.Clone of a row.
-/
import Derived.Test.YtoepifbpchpfkaaGreatDoorBgD
namespace Go.Proofs.YtoepifbpchpfkaaGreatDoor
open Go.ChangeShapes Go.WideShapes Go.ChangeAt Go.RowKit
set_option linter.unusedVariables false
set_option linter.unusedSimpArgs false
set_option maxRecDepth 100000

theorem Tryz.infoV9 : (Tryz.prog.info? 33).map (fun i => (i.zero, i.size, i.bytes)) = some (some (.agg #[.int .i64 0, .int .i64 0, .string ⟨#[]⟩]), 3, 32) := by kernel_rfl
set_option maxHeartbeats 2000000 in
theorem cloneV_any (v : Value) (l : List VM.Vl) (w : World) (hr : IsL cdV w v l) (hl : l.length ≤ 100) :
    Calls Tryz.prog 52 #[v] w fun e w' => ∃ v', e = .returned v' ∧ w'.ownsRow w.heap.size 33 3 v' l.length (flat cdV l) ∧ Fr w w' := by
  obtain ⟨i0, hi, hz0, hz1, hz2⟩ := info_parts Tryz.infoV9
  obtain ⟨a, cap, rfl, hcap, hcs⟩ := hr
  have qn : ∀ (w : World) (a : Option Addr) (n c n' c' : Nat), (binOp .eql 49 (.slice a n c) (.slice none n' c')).run Tryz.prog w = .ok (.bool a.isNone) w := fun w a n c n' c' => Lib.run_eql_slice_nil w _ _ a n c n' c' Tryz.underlying49
  cases a with
  | none =>
    have h0 : l = [] := by
      rcases hcs with h | ⟨b, o, h, _⟩
      · exact h
      · cases h
    subst h0
    clear hcs
    go_enter Tryz.func52, Tryz.ntmps52
    go_wp2_with fail
    go_ret
    exact ⟨_, rfl, World.ownsRow_nil _ _ _ _, Fr.refl _⟩
  | some A =>
    have hnews : ∀ j u, (flat cdV l)[j]? = some u → w.cell? (A.add j) = some u := by
      rcases hcs with h | ⟨b, o, h, _, hc⟩
      · subst h; intro j u hj; simp [flat] at hj
      · cases h
        intro j u hj
        rw [Addr.add_lit]
        exact hc j u hj
    have HN : Hid _ := hideP hnews
    have hfl : (flat cdV l).length = l.length * 3 := flat_len cdV l
    have HL : Hid _ := hideP hfl
    have H1 : Hid _ := hideP (flat_one cdV l)
    clear hcs hnews hfl
    generalize flat cdV l = news at HN HL H1
    generalize l.length = n at hl HL hcap
    go_enter Tryz.func52, Tryz.ntmps52
    go_wp2_with (at_builtin; refine wpList_append_own _ rfl _ _ 49 rfl w.heap.size 33 i0 (.agg #[.int .i64 0, .int .i64 0, .string ⟨#[]⟩]) 3 32 Tryz.underlying49 hi hz0 hz1 hz2 rfl (by decide) _ _ _ rfl (World.ownsRow_made w #[] 0 (Nat.le_refl _) (Nat.zero_le _) (by simp)) A n cap news rfl ?qc1 ?qc2 ?qc3 ?qc4 ?qc5 ?qc6 ?_)
    case qc1 => exact HL.out
    case qc2 => intro j u hj; exact Lib.cell?_alloc_some _ (HN.out j u hj)
    case qc3 => exact H1.out
    case qc4 => unfold maxLen; omega
    case qc5 => omega
    case qc6 => simp
    intro v' w1 hown hgrow hnil
    have HO := hideP hown
    have HB : Hid (Fr w w1) := ((RowKit.Below.refl _ w).alloc (Nat.le_refl _) _).grown hgrow (by simp) (by intro k hk; simp [Value.ownBlock] at hk; omega)
    clear hown hnil hgrow
    go_wp2_with fail
    go_ret
    exact ⟨v', rfl, by simpa using HO.out, HB.out⟩
end Go.Proofs.YtoepifbpchpfkaaGreatDoor
