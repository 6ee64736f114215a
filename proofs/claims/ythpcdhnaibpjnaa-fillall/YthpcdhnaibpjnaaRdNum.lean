/-
  The reader of package record: numbers and counts.
-/
import Derived.Test.YthpcdhnaibpjnaaRd
import Derived.Test.YthpcdhnaibpjnaaSigned
import Derived.Test.YthpcdhnaibpjnaaRMath
namespace Go.Proofs.Ythpcdhnaibpjnaa
open Go.ChangeShapes Go.WideShapes Go.ChangeAt Go.RowKit
set_option linter.unusedVariables false
set_option linter.unusedSimpArgs false

/-- a reading came to its end, or gave up -/
def Gv {α : Type} (r : Nat) (w : World) (x : Except Nat (α × List UInt8)) (P : α → Ending → World → Prop) (e : Ending) (w' : World) : Prop :=
  match x with
  | .error c => e = gave (c : Nat) ∧ Mv r w w'
  | .ok (a, t) => P a e w' ∧ RdAt w' r t ∧ Mv r w w'

theorem rd_in (l : List UInt8) : (⟨l.toArray⟩ : ByteArray).data.toList = l := by simp
theorem rest_eq (l : List UInt8) (k : Nat) : (⟨(l.drop k).toArray⟩ : ByteArray) = (⟨l.toArray⟩ : ByteArray).extract k (⟨l.toArray⟩ : ByteArray).size := by
  have hsz : (⟨l.toArray⟩ : ByteArray).size = l.length := by simp [ByteArray.size]
  rw [Lib.extract_eq, hsz]
  simp only
  rw [List.take_of_length_le (by simp)]

set_option maxRecDepth 100000 in
set_option maxHeartbeats 1000000 in
theorem numberU_any (r : Nat) (l : List UInt8) (w : World) (h : RdAt w r l) (hl : l.length ≤ 9223372036854775807) :
    Calls Try.prog 66 #[.pointer (some ⟨r, 0, none⟩), .func (.func 22) #[] #[]] w (Gv r w (RM.nu l) fun n e _ => e = .returned (.int .u64 (n : Nat))) := by
  have hc := h.cell
  have hz := h.frozen
  have hst := h.set
  have hsz : (⟨l.toArray⟩ : ByteArray).size = l.length := by simp [ByteArray.size]
  have hrd := fun W => read_any ⟨l.toArray⟩ W (by rw [hsz]; unfold maxLen; omega)
  unfold rdv at hrd
  have hk := RM.rd_le l
  unfold RM.nu
  simp only at hrd
  generalize hx : NM.rd l 0 0 = x at *
  obtain ⟨n, k, c⟩ := x
  simp only at hrd hk ⊢
  have hst' := hst (l.drop k)
  rw [rest_eq] at hst'
  have HS : Hid _ := hst'
  generalize (⟨l.toArray⟩ : ByteArray) = s at *
  clear h hx hst hst'
  by_cases h0 : c = 0
  · subst h0
    rw [if_pos rfl]
    go_enter Try.func66, Try.ntmps66
    go_wp2_with (go_at_call 22; refine (hrd _).mono ?_; rintro e w1 ⟨rfl, rfl⟩)
    go_ret
    rw [← hsz]
    exact ⟨rfl, HS.out, (Mv.refl _ _).set 0 _⟩
  · have hne : ((c : Int) != 0) = true := by simp; omega
    have hne2 : ¬ ((c : Int) = 0) := by omega
    rw [if_neg h0]
    go_enter Try.func66, Try.ntmps66
    go_wp2_with (go_at_call 22; refine (hrd _).mono ?_; rintro e w1 ⟨rfl, rfl⟩)
    refine ⟨rfl, ?_⟩
    exact ⟨rfl, Mv.refl _ _⟩
set_option maxRecDepth 100000 in
set_option maxHeartbeats 1000000 in
theorem numberI_any (r : Nat) (l : List UInt8) (w : World) (h : RdAt w r l) (hl : l.length ≤ 9223372036854775807) :
    Calls Try.prog 68 #[.pointer (some ⟨r, 0, none⟩), .func (.func 44) #[] #[]] w (Gv r w (RM.nu l) fun n e _ => e = .returned (.int .i64 (RM.zag n))) := by
  have hc := h.cell
  have hz := h.frozen
  have hst := h.set
  have hsz : (⟨l.toArray⟩ : ByteArray).size = l.length := by simp [ByteArray.size]
  have hrd := fun W => readSigned_any ⟨l.toArray⟩ W (by rw [hsz]; unfold maxLen; omega)
  unfold rdsv at hrd
  have hk := RM.rd_le l
  unfold RM.nu
  simp only at hrd
  generalize hx : NM.rd l 0 0 = x at *
  obtain ⟨n, k, c⟩ := x
  simp only at hrd hk ⊢
  have hst' := hst (l.drop k)
  rw [rest_eq] at hst'
  have HS : Hid _ := hst'
  generalize (⟨l.toArray⟩ : ByteArray) = s at *
  clear h hx hst hst'
  by_cases h0 : c = 0
  · subst h0
    rw [if_pos rfl]
    go_enter Try.func68, Try.ntmps68
    go_wp2_with (go_at_call 44; refine (hrd _).mono ?_; rintro e w1 ⟨rfl, rfl⟩)
    go_ret
    rw [← hsz]
    exact ⟨rfl, HS.out, (Mv.refl _ _).set 0 _⟩
  · have hne : ((c : Int) != 0) = true := by simp; omega
    have hne2 : ¬ ((c : Int) = 0) := by omega
    rw [if_neg h0]
    go_enter Try.func68, Try.ntmps68
    go_wp2_with (go_at_call 44; refine (hrd _).mono ?_; rintro e w1 ⟨rfl, rfl⟩)
    refine ⟨rfl, ?_⟩
    exact ⟨rfl, Mv.refl _ _⟩

set_option maxRecDepth 100000 in
set_option maxHeartbeats 1000000 in
theorem count_any (r most : Nat) (l : List UInt8) (w : World) (h : RdAt w r l) (hl : l.length ≤ 9223372036854775807) (hm : most ≤ 9223372036854775807) :
    Calls Try.prog 64 #[.pointer (some ⟨r, 0, none⟩), .int .u64 most] w (Gv r w (RM.cnt most l) fun n e _ => e = .returned (.int .i64 (n : Nat))) := by
  have hu := numberU_any r l w h hl
  unfold RM.cnt
  clear h
  generalize RM.nu l = x at *
  match x with
  | .error c =>
    simp only at hu ⊢
    go_enter Try.func64, Try.ntmps64
    go_wp2_with (go_at_call 66; refine hu.mono ?_)
    rintro e w1 ⟨rfl, hm⟩
    go_wp2_with fail
    exact ⟨rfl, rfl, hm⟩
  | .ok (n, t) =>
    simp only at hu ⊢
    by_cases hn : most < n
    · rw [if_pos hn]
      have hn' : (most : Int) < (n : Int) := by omega
      go_enter Try.func64, Try.ntmps64
      go_wp2_with (go_at_call 66; refine hu.mono ?_)
      rintro e w1 ⟨rfl, ht, hm⟩
      have HM : Hid _ := hm
      have HT : Hid _ := ht
      clear hm ht
      go_wp2_with fail
      exact ⟨rfl, rfl, HM.out⟩
    · rw [if_neg hn]
      have hn' : (n : Int) ≤ (most : Int) := by omega
      go_enter Try.func64, Try.ntmps64
      go_wp2_with (go_at_call 66; refine hu.mono ?_)
      rintro e w1 ⟨rfl, ht, hm⟩
      have HM : Hid _ := hm
      have HT : Hid _ := ht
      clear hm ht
      go_wp2_with fail
      go_ret
      refine ⟨ret_int ?_, HT.out, HM.out⟩
      first | rfl | (simp only [IntKind.wrap_i64]; omega)
end Go.Proofs.Ythpcdhnaibpjnaa
