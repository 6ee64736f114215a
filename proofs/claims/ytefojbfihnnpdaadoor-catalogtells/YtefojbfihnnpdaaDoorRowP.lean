/-
  A slice of values as a plain list; what checkRow answers.
-/
import Derived.Test.YtefojbfihnnpdaaDoorVal
namespace Go.Proofs.YtefojbfihnnpdaaDoor
open Go.ChangeShapes Go.WideShapes Go.ChangeAt Go.RowKit
set_option linter.unusedVariables false

/-- the cells behind an address hold these values, three cells each -/
def CellsAt (w : World) (b o : Nat) (l : List VM.Vl) : Prop :=
  ∀ i (h : i < l.length), w.cell? ⟨b, o + i * 3, none⟩ = some (.int .i64 l[i].k) ∧ w.cell? ⟨b, o + i * 3 + 1, none⟩ = some (.int .i64 l[i].n) ∧ w.cell? ⟨b, o + i * 3 + 2, none⟩ = some (.string l[i].s)

/-- a value of type slice of values stands for this list -/
def IsRow (w : World) (v : Value) (l : List VM.Vl) : Prop :=
  ∃ (a : Option Addr) (cap : Nat), v = .slice a l.length cap ∧ (l = [] ∨ ∃ b o, a = some ⟨b, o, none⟩ ∧ b < w.heap.size ∧ CellsAt w b o l)

theorem CellsAt.fr {w w' : World} {b o : Nat} {l : List VM.Vl} (h : CellsAt w b o l) (hb : b < w.heap.size) (f : Fr w w') : CellsAt w' b o l := by
  intro i hi
  obtain ⟨h0, h1, h2⟩ := h i hi
  exact ⟨(Below.cell f hb).trans h0, (Below.cell f hb).trans h1, (Below.cell f hb).trans h2⟩

theorem IsRow.fr {w w' : World} {v : Value} {l : List VM.Vl} (h : IsRow w v l) (f : Fr w w') : IsRow w' v l := by
  obtain ⟨a, cap, rfl, h0 | ⟨b, o, rfl, hb, hc⟩⟩ := h
  · exact ⟨a, cap, rfl, Or.inl h0⟩
  · exact ⟨_, cap, rfl, Or.inr ⟨b, o, rfl, Nat.lt_of_lt_of_le hb f.size, hc.fr hb f⟩⟩

set_option maxRecDepth 100000 in
set_option maxHeartbeats 1000000 in
theorem checkRow_any (v : Value) (l : List VM.Vl) (w : World) (hr : IsRow w v l) (hbig : l.length ≤ 9223372036854775807) :
    Calls Tryd.prog 62 #[v] w fun e w' => e = .returned (.int .i64 (VM.chkRow l)) ∧ Fr w w' := by
  obtain ⟨a, cap, rfl, hcs⟩ := hr
  by_cases h8 : 8 < l.length
  · have h8' : (8 : Int) < (l.length : Int) := by omega
    clear hcs
    go_enter Tryd.func62, Tryd.ntmps62
    go_wp2_with fail
    go_ret
    refine ⟨ret_int ?_, Fr.refl _⟩
    rw [VM.chkRow, if_pos h8]
    rfl
  · have h8' : ¬ (8 : Int) < (l.length : Int) := by omega
    have HC : Hid _ := hcs
    clear hcs
    go_enter Tryd.func62, Tryd.ntmps62
    go_wp2_with fail
    go_loopw [11] (fun iv wr => ∃ i : Nat, iv = .int .i64 i ∧ i ≤ l.length ∧ VM.chkAll l = VM.chkAll (l.drop i) ∧ Fr w wr) (fun iv _ => l.length - (intOf iv).toNat)
    case atStart => exact ⟨0, rfl, Nat.zero_le _, rfl, Fr.refl _⟩
    case round =>
      obtain ⟨i, rfl, hi, hall, hfr⟩ := hrel
      by_cases hlt : i < l.length
      · obtain ⟨b, o, rfl, hb, hc⟩ : ∃ b o, a = some ⟨b, o, none⟩ ∧ b < w.heap.size ∧ CellsAt w b o l := by
          rcases HC.out with h | h
          · subst h; simp at hlt
          · exact h
        obtain ⟨c0, c1, c2⟩ := (hc.fr hb hfr) i hlt
        have HA : Hid _ := hall
        have HF : Hid _ := hfr
        clear hall hfr hc
        have hchk := fun W => check_any l[i].k l[i].n l[i].s W
        generalize hx : l[i] = x at c0 c1 c2 hchk
        obtain ⟨k, n, s⟩ := x
        simp only at c0 c1 c2 hchk
        have HX : Hid _ := hx
        clear hx
        go_wp2_with (go_at_call 50; refine (hchk _).mono ?_)
        rintro e w1 ⟨rfl, hf1⟩
        have hfr' : Fr w w1 := (Fr.alloc HF.out _).trans hf1
        have hdrop : VM.chkAll (l.drop i) = if VM.chk ⟨k, n, s⟩ = 0 then VM.chkAll (l.drop (i + 1)) else VM.chk ⟨k, n, s⟩ := by
          rw [List.drop_eq_getElem_cons hlt, HX.out]
          rfl
        have HD : Hid _ := HA.out.trans hdrop
        clear hdrop HA HF hf1 c0 c1 c2
        by_cases he : VM.chk ⟨k, n, s⟩ = 0
        · have HD' : Hid _ := HD.out.trans (if_pos he)
          clear HD
          rw [he]
          go_wp2_with fail
          go_roundw
          case rel => exact ⟨i + 1, by go_num, by omega, HD'.out, hfr'⟩
          case measure => simp [intOf]; omega
        · have HD' : Hid _ := HD.out.trans (if_neg he)
          clear HD
          generalize hy : VM.chk ⟨k, n, s⟩ = y at *
          have hne : ((y : Int) != 0) = true := by simp; omega
          have hne2 : ¬ ((y : Int) = 0) := by omega
          go_wp2_with fail
          go_ret
          refine ⟨ret_int ?_, hfr'⟩
          rw [VM.chkRow, if_neg h8, HD'.out]
      · have hnil : VM.chkAll l = 0 := by
          rw [hall, List.drop_of_length_le (by omega)]
          rfl
        have HN : Hid _ := hnil
        have hi' : i = l.length := by omega
        clear hall hnil
        subst hi'
        go_wp2_with fail
        go_ret
        refine ⟨ret_int ?_, hfr⟩
        rw [VM.chkRow, if_neg h8, HN.out]
        rfl
end Go.Proofs.YtefojbfihnnpdaaDoor
