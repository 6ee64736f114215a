/-
  SameRow of two rows that are alike.
-/
import Derived.Test.YtoepifbpchpfkaaGreatDoorBgC
namespace Go.Proofs.YtoepifbpchpfkaaGreatDoor
open Go.ChangeShapes Go.WideShapes Go.ChangeAt Go.RowKit
set_option linter.unusedVariables false
set_option linter.unusedSimpArgs false

set_option maxRecDepth 100000 in
set_option maxHeartbeats 2000000 in
theorem sameRow_eq (v u : Value) (l : List VM.Vl) (w : World) (hv : IsRow w v l) (hu : IsRow w u l) (hl : l.length ≤ 9223372036854775806) :
    Calls Tryz.prog 49 #[v, u] w fun e w' => e = .returned (.bool true) ∧ Fr w w' := by
  obtain ⟨a, cap, rfl, hcs⟩ := hv
  obtain ⟨a2, cap2, rfl, hcs2⟩ := hu
  have HC : Hid _ := hcs
  have HC2 : Hid _ := hcs2
  clear hcs hcs2
  go_enter Tryz.func49, Tryz.ntmps49
  go_wp2_with fail
  go_loopw [5] (fun iv wr => ∃ i : Nat, iv = .int .i64 i ∧ i ≤ l.length ∧ Fr w wr) (fun iv _ => l.length - (intOf iv).toNat)
  case atStart => exact ⟨0, rfl, by omega, Fr.refl _⟩
  case round =>
    obtain ⟨i, rfl, hi, hfr⟩ := hrel
    by_cases hlt : i < l.length
    · obtain ⟨b, o, rfl, hb, hc⟩ : ∃ b o, a = some ⟨b, o, none⟩ ∧ b < w.heap.size ∧ CellsAt w b o l := by
        rcases HC.out with h | h
        · subst h; simp at hlt
        · exact h
      obtain ⟨b2, o2, rfl, hb2, hc2⟩ : ∃ b o, a2 = some ⟨b, o, none⟩ ∧ b < w.heap.size ∧ CellsAt w b o l := by
        rcases HC2.out with h | h
        · subst h; simp at hlt
        · exact h
      obtain ⟨c0, c1, c2⟩ := (hc.fr hb hfr) i hlt
      obtain ⟨d0, d1, d2⟩ := (hc2.fr hb2 hfr) i hlt
      generalize l[i] = x at c0 c1 c2 d0 d1 d2
      obtain ⟨k, n, s⟩ := x
      simp only at c0 c1 c2 d0 d1 d2
      have hlt' : (i : Int) < (l.length : Int) := by omega
      have HF : Hid _ := hfr
      clear hc hc2 hfr
      go_wp2_with fail
      go_region
      go_wp2_with fail
      go_roundw
      case rel => exact ⟨i + 1, by go_num, by omega, Fr.drew HF.out⟩
      case measure => simp [intOf]; omega
    · obtain rfl : i = l.length := by omega
      go_wp2_with fail
      go_ret
      exact ⟨rfl, hfr⟩
end Go.Proofs.YtoepifbpchpfkaaGreatDoor
