/-
  The document's Many: how often a value stands in a list.
-/
import Derived.Test.YtjadmefiilkgmaaGreatDoorOpenW
namespace Go.Proofs.YtjadmefiilkgmaaGreatDoor
open Go.ChangeShapes Go.WideShapes Go.ChangeAt Go.RowKit
set_option linter.unusedVariables false
set_option linter.unusedSimpArgs false

def mny (x : VM.Vl) : List VM.Vl → Nat
  | [] => 0
  | y :: l => (if CM.ord y x = 0 then 1 else 0) + mny x l
theorem mny_le (x : VM.Vl) : ∀ l, mny x l ≤ l.length
  | [] => Nat.le_refl _
  | y :: l => by
    have := mny_le x l
    unfold mny
    rw [List.length_cons]
    split <;> omega
theorem mny_perm {x : VM.Vl} {l m : List VM.Vl} (h : l.Perm m) : mny x l = mny x m := by
  induction h with
  | nil => rfl
  | cons y _ ih => unfold mny; rw [ih]
  | swap y z l => simp only [mny]; omega
  | trans _ _ ih1 ih2 => rw [ih1, ih2]
theorem mny_snoc (x y : VM.Vl) (l : List VM.Vl) : mny x (l ++ [y]) = mny x l + (if CM.ord y x = 0 then 1 else 0) := by
  induction l with
  | nil => simp only [List.nil_append, mny]; omega
  | cons z l ih =>
    show (if CM.ord z x = 0 then 1 else 0) + mny x (l ++ [y]) = (if CM.ord z x = 0 then 1 else 0) + mny x l + _
    rw [ih]
    omega
theorem tl_inj {a b : ByteArray} (h : a.toList = b.toList) : a = b := by
  rw [Lib.toList_data, Lib.toList_data] at h
  cases a; cases b
  simp at h
  rw [h]

set_option maxRecDepth 100000 in
set_option maxHeartbeats 2000000 in
theorem many_any (v : Value) (l : List VM.Vl) (x : VM.Vl) (w : World) (hr : IsRow w v l) (hl : l.length ≤ 9223372036854775806) :
    Calls Tryz.prog 25 #[v, x.val] w fun e w' => e = .returned (.int .i64 (mny x l)) ∧ Fr w w' := by
  obtain ⟨a, cap, rfl, hcs⟩ := hr
  obtain ⟨xk, xn, xs⟩ := x
  have HC : Hid _ := hcs
  clear hcs
  unfold VM.Vl.val
  simp only
  obtain ⟨W0, hW0⟩ : ∃ W0, w.alloc (.cells #[.int .i64 xk, .int .i64 xn, .string xs] 23) = W0 := ⟨_, rfl⟩
  have f0 : Fr w W0 := by rw [← hW0]; exact (Fr.refl w).alloc _
  have b0 : Bx W0 w.heap.size xk xn xs := by rw [← hW0]; exact Bx.new _ _ _ _
  have HW : Hid _ := hW0
  have HF0 : Hid _ := f0
  have HB0 : Hid _ := b0
  clear hW0 f0 b0
  obtain ⟨m, hm⟩ : ∃ m, mny ⟨xk, xn, xs⟩ l = m := ⟨_, rfl⟩
  rw [hm]
  have HM : Hid _ := hm
  clear hm
  go_enter Tryz.func25, Tryz.ntmps25
  go_wp2_with fail
  go_loopw [5, 6] (fun nv iv wr => ∃ i : Nat, iv = .int .i64 i ∧ nv = .int .i64 (mny ⟨xk, xn, xs⟩ (l.take i) : Nat) ∧ i ≤ l.length ∧ Fr W0 wr) (fun _ iv _ => l.length - (intOf iv).toNat)
  case atStart => exact ⟨0, rfl, by simp [mny], by omega, by rw [HW.out]; exact Fr.refl _⟩
  case round =>
    obtain ⟨i, rfl, rfl, hi, hfr⟩ := hrel
    have hml : mny ⟨xk, xn, xs⟩ (l.take i) ≤ i := by
      have := mny_le ⟨xk, xn, xs⟩ (l.take i)
      rw [List.length_take] at this
      omega
    by_cases hlt : i < l.length
    · have hltZ : (i : Int) < (l.length : Int) := by omega
      obtain ⟨b, o, rfl, hb, hc⟩ : ∃ b o, a = some ⟨b, o, none⟩ ∧ b < w.heap.size ∧ CellsAt w b o l := by
        rcases HC.out with h | h
        · subst h; simp at hlt
        · exact h
      obtain ⟨c0, c1, c2⟩ := (hc.fr hb (show Fr w wr from Fr.trans (show Fr w W0 from HF0.out) hfr)) i hlt
      have B := HB0.out.fr hfr
      have d0 := B.c0
      have d1 := B.c1
      have d2 := B.c2
      have HS : Hid (mny ⟨xk, xn, xs⟩ (l.take (i + 1)) = mny ⟨xk, xn, xs⟩ (l.take i) + (if CM.ord l[i] ⟨xk, xn, xs⟩ = 0 then 1 else 0)) := by
        unfold Hid
        rw [List.take_succ_eq_append_getElem hlt, mny_snoc]
      generalize l[i] = y at *
      obtain ⟨yk, yn, ys⟩ := y
      simp only at c0 c1 c2
      generalize mny ⟨xk, xn, xs⟩ (l.take i) = q at *
      have HF : Hid _ := hfr
      clear hc hfr B
      by_cases he : (⟨yk, yn, ys⟩ : VM.Vl) = ⟨xk, xn, xs⟩
      · rw [if_pos ((SM.ord_zero _ _).2 he)] at HS
        injection he with h1 h2 h3
        subst h1 h2 h3
        go_wp2_with fail
        go_quiet (fail)
        go_wp2_with fail
        go_roundw
        case rel => exact ⟨i + 1, by simp, by rw [HS.out]; simp, hlt, Fr.drewN HF.out _⟩
        case measure => simp [intOf]; omega
      · rw [if_neg (fun h => he ((SM.ord_zero _ _).1 h))] at HS
        by_cases h1 : yk = xk
        · subst h1
          by_cases h2 : yn = xn
          · subst h2
            have h3 : ¬ ys.toList = xs.toList := fun h => he (by rw [tl_inj h])
            have h4 : (ys.toList == xs.toList) = false := beq_false_of_ne h3
            clear he
            go_wp2_with fail
            go_quiet (fail)
            go_wp2_with fail
            go_roundw
            case rel => exact ⟨i + 1, by simp, by rw [HS.out]; simp, hlt, Fr.drewN HF.out _⟩
            case measure => simp [intOf]; omega
          · have h3 : (yn == xn) = false := beq_false_of_ne h2
            clear he
            go_wp2_with fail
            go_quiet (fail)
            go_wp2_with fail
            go_roundw
            case rel => exact ⟨i + 1, by simp, by rw [HS.out]; simp, hlt, Fr.drewN HF.out _⟩
            case measure => simp [intOf]; omega
        · have h3 : (yk == xk) = false := beq_false_of_ne h1
          clear he
          go_wp2_with fail
          go_quiet (fail)
          go_wp2_with fail
          go_roundw
          case rel => exact ⟨i + 1, by simp, by rw [HS.out]; simp, hlt, Fr.drewN HF.out _⟩
          case measure => simp [intOf]; omega
    · have hltZ : ¬ (i : Int) < (l.length : Int) := by omega
      have HQ : Hid (mny ⟨xk, xn, xs⟩ (l.take i) = m) := by unfold Hid; rw [List.take_of_length_le (by omega)]; exact HM.out
      rw [HQ.out]
      have HF : Hid (Fr w wr) := Fr.trans (show Fr w W0 from HF0.out) hfr
      clear hfr
      go_wp2_with fail
      go_ret
      exact ⟨rfl, HF.out⟩
end Go.Proofs.YtjadmefiilkgmaaGreatDoor
