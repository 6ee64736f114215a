/-
  Sort of a list that is handed in, whatever its address.
-/
import Derived.Test.YtjadmefiilkgmaaGreatDoorOpenW
namespace Go.Proofs.YtjadmefiilkgmaaGreatDoor
open Go.ChangeShapes Go.WideShapes Go.ChangeAt Go.RowKit Go.Shelf Go.Sort Go.Lib
set_option linter.unusedVariables false
set_option linter.unusedSimpArgs false

set_option maxRecDepth 100000 in
set_option maxHeartbeats 2000000 in
theorem clone_empty (A : Addr) (c : Nat) (w : World) :
    Calls Tryz.prog 52 #[.slice (some A) 0 c] w fun e w' => ∃ v', e = .returned v' ∧ Fr w w' ∧ ∃ g cap cur, v' = .slice (some ⟨g, 0, none⟩) 0 cap ∧ w.heap.size ≤ g ∧ w'.heap[g]? = some (.cells cur 23 (0, 0)) := by
  obtain ⟨i0, hi, hz0, hz1, hz2⟩ := info_parts Tryz.infoVal
  have q28 : ∀ (w : World) (a : Option Addr) (n c n' c' : Nat), (binOp .eql 28 (.slice a n c) (.slice none n' c')).run Tryz.prog w = .ok (.bool a.isNone) w := fun w a n c n' c' => Lib.run_eql_slice_nil w _ _ a n c n' c' Tryz.underlying28
  go_enter Tryz.func52, Tryz.ntmps52
  go_wp2_with (at_builtin; refine wpList_append_own _ rfl _ _ 28 rfl w.heap.size 23 i0 (.agg #[.int .i64 0, .int .i64 0, .string ⟨#[]⟩]) 3 32 Tryz.underlying28 hi hz0 hz1 hz2 rfl (by decide) _ _ _ rfl (World.ownsRow_made w #[] 0 (Nat.le_refl _) (Nat.zero_le _) (by simp)) A 0 c [] rfl ?qc1 ?qc2 ?qc3 ?qc4 ?qc5 ?qc6 ?_)
  case qc1 => rfl
  case qc2 => intro j u hj; simp at hj
  case qc3 => intro u hu; simp at hu
  case qc4 => unfold maxLen; omega
  case qc5 => omega
  case qc6 => simp
  intro v' w1 hown hgrow hnil
  have HO : Hid _ := hown
  have HN : Hid _ := hnil
  have HB : Hid (Fr w w1) := ((RowKit.Below.refl _ w).alloc (Nat.le_refl _) _).grown hgrow (by simp) (by intro k hk; simp [Value.ownBlock] at hk; omega)
  clear hown hnil hgrow
  go_wp2_with fail
  go_ret
  refine ⟨v', rfl, HB.out, ?_⟩
  rcases HO.out.2 with ⟨h1, h2⟩ | ⟨g, cap', cur, h1, h2, h3, h4, h5, h6, h7⟩
  · exact absurd h1 HN.out
  · exact ⟨g, ⟨cap', by simpa using h1⟩, h2, cur, h3⟩

theorem sErr_nil : sErr [] = 0 := rfl
theorem srtOf_nil : srtOf [] = [] := by unfold srtOf; rw [if_pos sErr_nil, srt_nil]
set_option maxRecDepth 100000 in
set_option maxHeartbeats 1000000 in
theorem sort_empty (A : Addr) (c : Nat) (w : World) :
    Calls Tryz.prog 22 #[.slice (some A) 0 c] w fun e w' => ∃ v', e = .returned (.tuple #[v', .int .i64 0]) ∧ Fr w w' ∧ IsRow w' v' [] := by
  have hck := checkAll_any (.slice (some A) 0 c) [] w ⟨some A, c, rfl, Or.inl rfl⟩ (by decide)
  have hcl := fun W => clone_empty A c W
  rw [show VM.chkAll [] = 0 from rfl] at hck
  go_enter Tryz.func22, Tryz.ntmps22
  go_wp2_with fail
  refine hck.mono ?_
  rintro _ w1 ⟨rfl, f1⟩
  go_wp2_with fail
  refine (hcl _).mono ?_
  rintro _ w2 ⟨v', rfl, f2, g, cap', cur, rfl, hg, hb⟩
  have hsf := sortF_any g cap' cur [] w2 (by decide) hb (by simp [rowV])
  have F : Hid (Fr w w2) := f1.trans f2
  have HG : Hid (w.heap.size ≤ g) := by unfold Hid; have := f1.size; omega
  clear f1 f2 hck hcl hb hg
  go_wp2_with fail
  refine hsf.mono ?_
  rintro _ w3 ⟨rfl, hbl, hrow⟩
  have HR : Hid _ := hrow
  have F3 : Hid (Fr w w3) := hbl _ _ F.out HG.out F.out.size
  clear hsf hbl hrow
  go_wp2_with fail
  go_ret2
  refine ⟨_, rfl, F3.out, ?_⟩
  have := HR.out
  rw [srt_nil] at this
  exact this
/-- Sort of a list that is handed in -/
theorem sort_in (v : Value) (l : List VM.Vl) (w : World) (hr : IsRow w v l) (ha : NilOrRow v) (hbig : l.length ≤ 9223372036854775807) :
    Calls Tryz.prog 22 #[v] w fun e w' => ∃ v', e = .returned (.tuple #[v', .int .i64 (sErr l)]) ∧ Fr w w' ∧ IsRow w' v' (srtOf l) := by
  rcases ha with rfl | ⟨A, n, c, rfl⟩
  · refine (sort_any _ l w hr (Or.inl rfl) hbig).mono ?_
    rintro _ w' ⟨v', rfl, h1, h2, _⟩
    exact ⟨v', rfl, h1, h2⟩
  · have hr0 := hr
    obtain ⟨a, cap, e, h0 | ⟨b, o, rfl, _⟩⟩ := hr0
    · subst h0
      injection e with e1 e2 e3
      subst e1 e2 e3
      refine (sort_empty A c w).mono ?_
      rintro _ w' ⟨v', rfl, h1, h2⟩
      exact ⟨v', rfl, h1, by rw [srtOf_nil]; exact h2⟩
    · refine (sort_any _ l w hr (Or.inr ⟨b, o, n, c, by injection e with e1 e2 e3; rw [e1]⟩) hbig).mono ?_
      rintro _ w' ⟨v', rfl, h1, h2, _⟩
      exact ⟨v', rfl, h1, h2⟩
end Go.Proofs.YtjadmefiilkgmaaGreatDoor
