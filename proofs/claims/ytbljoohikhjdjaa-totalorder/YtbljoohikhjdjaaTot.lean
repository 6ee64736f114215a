/-
  A slice of numbers as a plain list; what Sum of package whole answers.
-/
import Derived.Test.YtbljoohikhjdjaaWh
namespace Go.Proofs.Ytbljoohikhjdjaa
open Go.ChangeShapes Go.WideShapes Go.ChangeAt Go.RowKit
set_option linter.unusedVariables false
set_option maxRecDepth 100000

/-- the cells behind an address hold these numbers -/
def CellsAt (w : World) (b o : Nat) (l : List Int) : Prop := ∀ i (h : i < l.length), w.cell? ⟨b, o + i, none⟩ = some (.int .i64 l[i])
/-- a value of type slice of numbers stands for this list -/
def IsInts (w : World) (v : Value) (l : List Int) : Prop :=
  ∃ (a : Option Addr) (cap : Nat), v = .slice a l.length cap ∧ l.length ≤ cap ∧ (l = [] ∨ ∃ b o, a = some ⟨b, o, none⟩ ∧ b < w.heap.size ∧ CellsAt w b o l)

theorem CellsAt.fr {w w' : World} {b o : Nat} {l : List Int} (h : CellsAt w b o l) (hb : b < w.heap.size) (f : Fr w w') : CellsAt w' b o l :=
  fun i hi => (Below.cell f hb).trans (h i hi)
theorem IsInts.fr {w w' : World} {v : Value} {l : List Int} (h : IsInts w v l) (f : Fr w w') : IsInts w' v l := by
  obtain ⟨a, cap, rfl, hc, h0 | ⟨b, o, rfl, hb, hcl⟩⟩ := h
  · exact ⟨a, cap, rfl, hc, Or.inl h0⟩
  · exact ⟨_, cap, rfl, hc, Or.inr ⟨b, o, rfl, Nat.lt_of_lt_of_le hb f.size, hcl.fr hb f⟩⟩

theorem run_add (x y : Int) (hx : 0 ≤ x) (hy : 0 ≤ y) (w : World) :
    (callFunc 25 #[.int .u64 x, .int .u64 y, .int .u64 0]).run Try.prog w =
      .ok (.value (.tuple #[.int .u64 ((x + y) % 18446744073709551616), .int .u64 ((x + y) / 18446744073709551616)])) w := by
  rw [run_callFunc_extern Try.func25 (by kernel_rfl) (by kernel_rfl) (by kernel_rfl) (e := add64Entry) (by kernel_rfl), run_add64 x y 0 hx hy (by decide) (by decide)]
  simp only [Result.andThen, Int.add_zero]

theorem take_sum (l : List Int) (k : Nat) (h : k < l.length) : (l.take (k + 1)).sum = (l.take k).sum + l[k] := by
  rw [List.take_succ_eq_append_getElem h, List.sum_append]
  simp

/-- the answer of Sum -/
def sumTwo (l : List Int) : Value := if 40 < l.length then .tuple #[.int .i64 0, .int .i64 2] else two l.sum

set_option maxHeartbeats 1000000 in
theorem sum_any (v : Value) (l : List Int) (w : World) (hr : IsInts w v l) (hok : ∀ x ∈ l, WH.Ok x) (hbig : l.length ≤ 9223372036854775807) :
    Calls Try.prog 23 #[v] w fun e w' => e = .returned (sumTwo l) ∧ w' = w := by
  obtain ⟨a, cap, rfl, _, hcs⟩ := hr
  unfold sumTwo
  by_cases h8 : 40 < l.length
  · have h8' : (40 : Int) < (l.length : Int) := by omega
    rw [if_pos h8]
    clear hcs hok
    go_enter Try.func23, Try.ntmps23
    go_wp2_with fail
    go_ret2
    exact ⟨rfl, rfl⟩
  · have h8' : ¬ (40 : Int) < (l.length : Int) := by omega
    rw [if_neg h8]
    have HC : Hid _ := hcs
    have HO : Hid _ := hok
    clear hcs hok
    go_enter Try.func23, Try.ntmps23
    go_wp2_with fail
    go_loop [4, 5, 16] (fun hv lv iv => ∃ (k : Nat) (hi lo : Int), k ≤ l.length ∧ iv = .int .i64 k ∧ hv = .int .i64 hi ∧ lv = .int .u64 lo ∧ 0 ≤ lo ∧ lo < 18446744073709551616 ∧ -(k : Int) ≤ hi ∧ hi ≤ k ∧ hi * 18446744073709551616 + lo = (l.take k).sum) (fun _ _ iv => l.length - (intOf iv).toNat)
    case atStart => exact ⟨0, 0, 0, Nat.zero_le _, rfl, rfl, rfl, by decide, by decide, by decide, by decide, by simp⟩
    case round =>
      obtain ⟨k, hi, lo, hk, rfl, rfl, rfl, l0, l1, g0, g1, hsum⟩ := hrel
      by_cases hlt : k < l.length
      · obtain ⟨b, o, rfl, hb, hc⟩ : ∃ b o, a = some ⟨b, o, none⟩ ∧ b < w.heap.size ∧ CellsAt w b o l := by
          rcases HC.out with h | h
          · subst h; simp at hlt
          · exact h
        have c0 := hc k hlt
        obtain ⟨n0, n1⟩ := HO.out l[k] (List.getElem_mem hlt)
        have hstep := take_sum l k hlt
        generalize hx : l[k] = n at c0 hstep n0 n1
        have HS : Hid _ := hstep
        have HS0 : Hid _ := hsum
        clear hx hstep hsum hc HC HO
        have hu : IntKind.u64.wrap n = n % 18446744073709551616 := IntKind.wrap_u64 n
        have hadd := run_add lo (IntKind.u64.wrap n) l0 (by rw [hu]; omega) w
        rw [show (lo + IntKind.u64.wrap n) % 18446744073709551616 = (lo + n % 18446744073709551616) % 18446744073709551616 by rw [hu], show (lo + IntKind.u64.wrap n) / 18446744073709551616 = (lo + n % 18446744073709551616) / 18446744073709551616 by rw [hu]] at hadd
        have HU : Hid _ := hu
        clear hu
        have e1 : (lo + n % 18446744073709551616) / 18446744073709551616 = 0 ∨ (lo + n % 18446744073709551616) / 18446744073709551616 = 1 := by omega
        go_wp2_with fail
        go_round
        case rel =>
          refine ⟨k + 1, hi + (n / 9223372036854775808 + (lo + n % 18446744073709551616) / 18446744073709551616), (lo + n) % 18446744073709551616, by omega, by go_num, ?_, rfl, by omega, by omega, by omega, by omega, ?_⟩
          · rfl
          · have := HS.out
            have := HS0.out
            omega
        case measure => simp [intOf]; omega
      · have hkl : k = l.length := by omega
        subst hkl
        rw [List.take_length] at hsum
        have hw : wrap64 lo = if lo < 9223372036854775808 then lo else lo - 18446744073709551616 := by
          rw [wrap64]
          split <;> omega
        clear HC HO
        rcases WH.ok_em l.sum with ho | ho
        · have HW : Hid _ := WH.val_ok ho
          have HE : Hid _ := WH.err_ok ho
          obtain ⟨o0, o1⟩ := ho
          have ht : hi = wrap64 lo / 9223372036854775808 := by rw [hw]; split <;> omega
          have HV : Hid (wrap64 lo = l.sum) := by unfold Hid; rw [hw]; split <;> omega
          have hne : (hi != wrap64 lo / 9223372036854775808) = false := by rw [← ht]; simp
          clear hsum hw o0 o1
          go_wp2_with fail
          go_ret2
          exact ⟨ret_two (HV.out.trans HW.out.symm) HE.out.symm, rfl⟩
        · have HW : Hid _ := WH.val_over ho
          have HE : Hid _ := WH.err_over ho
          have ht : ¬ hi = wrap64 lo / 9223372036854775808 := by
            intro h
            apply ho
            unfold WH.Ok
            rw [h, hw] at hsum
            split at hsum <;> omega
          have hne : (hi != wrap64 lo / 9223372036854775808) = true := by simpa using ht
          clear hsum hw ho
          go_wp2_with fail
          go_ret2
          exact ⟨ret_two HW.out.symm HE.out.symm, rfl⟩
end Go.Proofs.Ytbljoohikhjdjaa
