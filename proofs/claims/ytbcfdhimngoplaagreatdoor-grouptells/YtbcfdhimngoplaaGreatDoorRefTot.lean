/-
  What the document's own answer TotalOf is, for every list.
-/
import Derived.Test.YtbcfdhimngoplaaGreatDoorGqD
namespace Go.Proofs.YtbcfdhimngoplaaGreatDoor
open Go.ChangeShapes Go.WideShapes Go.ChangeAt Go.RowKit
set_option linter.unusedVariables false
set_option maxRecDepth 100000
set_option maxHeartbeats 1000000 in
theorem totalOf_any (v : Value) (l : List Int) (w : World) (hr : IsTots w v l) (hok : ∀ x ∈ l, WH.Ok x) (hbig : l.length ≤ 9223372036854775807) :
  Calls Tryz.prog 74 #[v] w fun e w' => e = .returned (sumTwo l) ∧ w' = w := by
 obtain ⟨a, cap, rfl, _, hcs⟩ := hr
 unfold sumTwo
 by_cases h8 : 40 < l.length
 ·
  have h8' : (40 : Int) < (l.length : Int) := by omega
  rw [if_pos h8]
  clear hcs hok
  go_enter Tryz.func74, Tryz.ntmps74
  go_wp2_with fail
  go_ret2
  exact ⟨rfl, rfl⟩
 ·
  have h8' : ¬ (40 : Int) < (l.length : Int) := by omega
  rw [if_neg h8]
  have HC : Hid _ := hcs
  have HO : Hid _ := hok
  clear hcs hok
  go_enter Tryz.func74, Tryz.ntmps74
  go_wp2_with fail
  go_loop [4, 5, 6] (fun hv lv iv => ∃ (k : Nat) (hi lo : Int), k ≤ l.length ∧ iv = .int .i64 k ∧ hv = .int .i64 hi ∧ lv = .int .i64 lo ∧ 0 ≤ lo ∧ lo ≤ k * 4294967295 ∧ -(k * 2147483648 : Int) ≤ hi ∧ hi ≤ k * 2147483648 ∧ hi * 4294967296 + lo = (l.take k).sum) (fun _ _ iv => l.length - (intOf iv).toNat)
  case atStart => exact ⟨0, 0, 0, Nat.zero_le _, rfl, rfl, rfl, by decide, by decide, by decide, by decide, by simp⟩
  case round =>
   obtain ⟨k, hi, lo, hk, rfl, rfl, rfl, l0, l1, g0, g1, hsum⟩ := hrel
   by_cases hlt : k < l.length
   ·
    obtain ⟨b, o, rfl, hb, hc⟩ : ∃ b o, a = some ⟨b, o, none⟩ ∧ b < w.heap.size ∧ TotAt w b o l := by
     rcases HC.out with h | h
     · subst h; simp at hlt
     · exact h
    have c0 := hc k hlt
    obtain ⟨n0, n1⟩ := HO.out l[k] (List.getElem_mem hlt)
    have hstep := tot_take l k hlt
    generalize hx : l[k] = n at c0 hstep n0 n1
    have HS : Hid _ := hstep
    have HS0 : Hid _ := hsum
    clear hx hstep hsum hc HC HO
    go_wp2_with fail
    go_round
    case rel =>
     refine ⟨k + 1, hi + n / 4294967296, lo + n % 4294967296, by omega, by go_num, ?_, ?_, by omega, by omega, by omega, by omega, ?_⟩
     · first | rfl | (congr 1; omega)
     · first | rfl | (congr 1; omega)
     ·
      have := HS.out
      have := HS0.out
      omega
    case measure => simp [intOf]; omega
   ·
    have hkl : k = l.length := by omega
    subst hkl
    rw [List.take_length] at hsum
    clear HC HO
    rcases WH.ok_em l.sum with ho | ho
    ·
     have HW : Hid _ := WH.val_ok ho
     have HE : Hid _ := WH.err_ok ho
     obtain ⟨o0, o1⟩ := ho
     have t1 : ¬ hi + lo / 4294967296 < -2147483648 := by omega
     have t2 : ¬ 2147483648 ≤ hi + lo / 4294967296 := by omega
     have HS : Hid _ := hsum
     clear hsum o0 o1
     go_wp2_with fail
     go_ret2
     refine ⟨ret_two (Eq.trans ?_ HW.out.symm) HE.out.symm, rfl⟩
     have := HS.out
     omega
    ·
     have HW : Hid _ := WH.val_over ho
     have HE : Hid _ := WH.err_over ho
     unfold WH.Ok at ho
     by_cases t1 : hi + lo / 4294967296 < -2147483648
     ·
      clear hsum ho
      go_wp2_with fail
      go_ret2
      exact ⟨ret_two HW.out.symm HE.out.symm, rfl⟩
     ·
      have t2 : 2147483648 ≤ hi + lo / 4294967296 := by omega
      clear hsum ho
      go_wp2_with fail
      go_ret2
      exact ⟨ret_two HW.out.symm HE.out.symm, rfl⟩
end Go.Proofs.YtbcfdhimngoplaaGreatDoor
