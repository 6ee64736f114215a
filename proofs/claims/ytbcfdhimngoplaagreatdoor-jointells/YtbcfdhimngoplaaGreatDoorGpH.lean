/-
  What belongs together: LgOrd, RefVal, RefLg, RefIn, RefBt, RefWh, RefTimes.
-/
import Derived.Test.YtbcfdhimngoplaaGreatDoorGpB
import Derived.Test.YtbcfdhimngoplaaGreatDoorRfV
import Derived.Test.YtbcfdhimngoplaaGreatDoorGpD
import Derived.Test.YtbcfdhimngoplaaGreatDoorGpC
namespace Go.Proofs.YtbcfdhimngoplaaGreatDoor
namespace LG
open VM
theorem cb_anti : ∀ l m : List UInt8, Lib.compareBytes m l = - Lib.compareBytes l m
 | [], [] => by simp [Lib.compareBytes]
 | [], _ :: _ => by simp [Lib.compareBytes]
 | _ :: _, [] => by simp [Lib.compareBytes]
 | a :: l, b :: m => by
  have ih := cb_anti l m
  unfold Lib.compareBytes
  by_cases h1 : a < b
  ·
   have h2 : ¬ b < a := by rw [UInt8.lt_iff_toNat_lt] at *; omega
   rw [if_neg h2, if_pos h1, if_pos h1]; rfl
  ·
   by_cases h2 : b < a
   · rw [if_pos h2, if_neg h1, if_pos h2]
   ·
    rw [if_neg h2, if_neg h1, if_neg h1, if_neg h2]
    exact ih
theorem ci_anti (x y : Int) : CM.ci y x = - CM.ci x y := by
 unfold CM.ci
 repeat' split
 all_goals omega
theorem ord_anti (a b : Vl) : CM.ord b a = - CM.ord a b := by
 unfold CM.ord
 rw [ci_anti a.k b.k, ci_anti a.n b.n, cb_anti a.s.data.toList b.s.data.toList]
 unfold CM.or3
 repeat' split
 all_goals omega
end LG
end Go.Proofs.YtbcfdhimngoplaaGreatDoor
namespace Go.Proofs.YtbcfdhimngoplaaGreatDoor
open Go.ChangeShapes Go.WideShapes Go.ChangeAt Go.RowKit
set_option linter.unusedVariables false
set_option linter.unusedSimpArgs false
set_option maxRecDepth 100000 in
set_option maxHeartbeats 1000000 in
theorem rcheckAll_any (v : Value) (l : List VM.Vl) (w : World) (hr : IsRow w v l) (hbig : l.length ≤ 9223372036854775807) :
  Calls Tryz.prog 66 #[v] w fun e w' => e = .returned (.int .i64 (VM.chkAll l)) ∧ Fr w w' := by
 obtain ⟨a, cap, rfl, hcs⟩ := hr
 have HC : Hid _ := hcs
 clear hcs
 go_enter Tryz.func66, Tryz.ntmps66
 go_wp2_with fail
 go_loopw [3] (fun iv wr => ∃ i : Nat, iv = .int .i64 i ∧ i ≤ l.length ∧ VM.chkAll l = VM.chkAll (l.drop i) ∧ Fr w wr) (fun iv _ => l.length - (intOf iv).toNat)
 case atStart => exact ⟨0, rfl, Nat.zero_le _, rfl, Fr.refl _⟩
 case round =>
  obtain ⟨i, rfl, hi, hall, hfr⟩ := hrel
  by_cases hlt : i < l.length
  ·
   obtain ⟨b, o, rfl, hb, hc⟩ : ∃ b o, a = some ⟨b, o, none⟩ ∧ b < w.heap.size ∧ CellsAt w b o l := by
    rcases HC.out with h | h
    · subst h; simp at hlt
    · exact h
   obtain ⟨c0, c1, c2⟩ := (hc.fr hb hfr) i hlt
   have HA : Hid _ := hall
   have HF : Hid _ := hfr
   clear hall hfr hc
   have hchk := fun W => rcheck_any l[i].k l[i].n l[i].s W
   generalize hx : l[i] = x at c0 c1 c2 hchk
   obtain ⟨k, n, s⟩ := x
   simp only at c0 c1 c2 hchk
   have HX : Hid _ := hx
   clear hx
   go_wp2_with (go_at_call 89; refine (hchk _).mono ?_)
   rintro e w1 ⟨rfl, hf1⟩
   have hfr' : Fr w w1 := Fr.trans HF.out hf1
   have hdrop : VM.chkAll (l.drop i) = if VM.chk ⟨k, n, s⟩ = 0 then VM.chkAll (l.drop (i + 1)) else VM.chk ⟨k, n, s⟩ := by
    rw [List.drop_eq_getElem_cons hlt, HX.out]
    rfl
   have HD : Hid _ := HA.out.trans hdrop
   clear hdrop HA HF hf1 c0 c1 c2
   by_cases he : VM.chk ⟨k, n, s⟩ = 0
   ·
    have HD' : Hid _ := HD.out.trans (if_pos he)
    clear HD
    rw [he]
    go_wp2_with fail
    go_roundw
    case rel => exact ⟨i + 1, by go_num, by omega, HD'.out, hfr'⟩
    case measure => simp [intOf]; omega
   ·
    have HD' : Hid _ := HD.out.trans (if_neg he)
    clear HD
    generalize hy : VM.chk ⟨k, n, s⟩ = y at *
    have hne : ((y : Int) != 0) = true := by simp; omega
    have hne2 : ¬ ((y : Int) = 0) := by omega
    go_wp2_with fail
    go_ret
    refine ⟨ret_int ?_, hfr'⟩
    rw [HD'.out]
  ·
   have hnil : VM.chkAll l = 0 := by
    rw [hall, List.drop_of_length_le (by omega)]
    rfl
   have HN : Hid _ := hnil
   have hi' : i = l.length := by omega
   clear hall hnil
   subst hi'
   go_wp2_with fail
   go_ret
   refine ⟨ret_int ?_, hfr⟩
   rw [HN.out]
   rfl

theorem cb_step (a b : ByteArray) (i : Nat) (ha : i < a.size) (hb : i < b.size) :
  Lib.compareBytes (a.data.toList.drop i) (b.data.toList.drop i) = if a[i].toNat < b[i].toNat then -1 else if b[i].toNat < a[i].toNat then 1 else Lib.compareBytes (a.data.toList.drop (i + 1)) (b.data.toList.drop (i + 1)) := by
 have ea : a.data.toList.drop i = a[i] :: a.data.toList.drop (i + 1) := by
  rw [List.drop_eq_getElem_cons (by simpa using ha)]
  rfl
 have eb : b.data.toList.drop i = b[i] :: b.data.toList.drop (i + 1) := by
  rw [List.drop_eq_getElem_cons (by simpa using hb)]
  rfl
 rw [ea, eb]
 conv => lhs; unfold Lib.compareBytes
 simp only [UInt8.lt_iff_toNat_lt]
theorem cb_left (a b : ByteArray) (i : Nat) (ha : i ≤ a.size) (hb : i ≤ b.size) (h : i = a.size ∨ i = b.size) :
  (Lib.compareBytes (a.data.toList.drop i) (b.data.toList.drop i) < 0) ↔ a.size < b.size := by
 have la : (a.data.toList.drop i).length = a.size - i := by rw [List.length_drop, Array.length_toList]; rfl
 have lb : (b.data.toList.drop i).length = b.size - i := by rw [List.length_drop, Array.length_toList]; rfl
 generalize a.data.toList.drop i = x at *
 generalize b.data.toList.drop i = y at *
 cases x with
 | nil =>
  cases y with
  | nil => simp [Lib.compareBytes] at *; omega
  | cons c t => simp [Lib.compareBytes] at *; omega
 | cons c t =>
  cases y with
  | nil => simp [Lib.compareBytes] at *; omega
  | cons d u => simp at la lb; omega
set_option maxRecDepth 100000 in
set_option maxHeartbeats 1000000 in
theorem textLess_any (a b : ByteArray) (w : World) (ha : a.size ≤ maxLen) (hb : b.size ≤ maxLen) :
  Calls Tryz.prog 62 #[.string a, .string b] w fun e w' => e = .returned (.bool (decide (Lib.compareBytes a.data.toList b.data.toList < 0))) ∧ Fr w w' := by
 unfold maxLen at ha hb
 go_enter Tryz.func62, Tryz.ntmps62
 go_wp2_with fail
 go_loopw [5] (fun iv wr => ∃ i : Nat, iv = .int .i64 i ∧ i ≤ a.size ∧ i ≤ b.size ∧ Lib.compareBytes a.data.toList b.data.toList = Lib.compareBytes (a.data.toList.drop i) (b.data.toList.drop i) ∧ Fr w wr) (fun iv _ => a.size - (intOf iv).toNat)
 case atStart => exact ⟨0, rfl, Nat.zero_le _, Nat.zero_le _, rfl, Fr.refl _⟩
 case round =>
  obtain ⟨i, rfl, hi, hj, hcb, hfr⟩ := hrel
  have HF : Hid _ := hfr
  clear hfr
  by_cases hlt : i < a.size ∧ i < b.size
  ·
   obtain ⟨h1, h2⟩ := hlt
   have hst := cb_step a b i h1 h2
   rw [← hcb] at hst
   have HS : Hid _ := hst
   have h1' : (i : Int) < (a.size : Int) := by omega
   have h2' : (i : Int) < (b.size : Int) := by omega
   clear hst hcb
   rcases Nat.lt_trichotomy a[i].toNat b[i].toNat with h | h | h
   ·
    have HE : Hid _ := HS.out.trans (if_pos h)
    have q1 : ((a[i].toNat : Int) != (b[i].toNat : Int)) = true := by simp; omega
    have q2 : (a[i].toNat : Int) < (b[i].toNat : Int) := by omega
    have q3 : ¬ a[i].toNat = b[i].toNat := by omega
    clear HS h
    go_wp2_with fail
    go_region
    go_wp2_with fail
    go_region
    go_wp2_with fail
    go_ret
    exact ⟨ret_bool (by rw [HE.out]; rfl), Fr.drew (Fr.drew HF.out)⟩
   ·
    have HE : Hid _ := HS.out.trans ((if_neg (by omega)).trans (if_neg (by omega)))
    have q1 : ((a[i].toNat : Int) != (b[i].toNat : Int)) = false := by simp; omega
    clear HS
    go_wp2_with fail
    go_region
    go_wp2_with fail
    go_roundw
    case rel => exact ⟨i + 1, by go_num, by omega, by omega, HE.out, Fr.drew HF.out⟩
    case measure => simp [intOf]; omega
   ·
    have HE : Hid _ := HS.out.trans ((if_neg (by omega)).trans (if_pos h))
    have q1 : ((a[i].toNat : Int) != (b[i].toNat : Int)) = true := by simp; omega
    have q2 : (b[i].toNat : Int) ≤ (a[i].toNat : Int) := by omega
    have q3 : ¬ a[i].toNat = b[i].toNat := by omega
    clear HS h
    go_wp2_with fail
    go_region
    go_wp2_with fail
    go_region
    go_wp2_with fail
    go_ret
    exact ⟨ret_bool (by rw [HE.out, decide_eq_decide]; omega), Fr.drew (Fr.drew HF.out)⟩
  ·
   have he : i = a.size ∨ i = b.size := by omega
   have hd := cb_left a b i hi hj he
   rw [← hcb] at hd
   have HD : Hid _ := hd
   clear hd hcb
   have hz : ((a.size : Int) ≤ (i : Int)) ∨ ((i : Int) < (a.size : Int) ∧ (b.size : Int) ≤ (i : Int)) := by omega
   clear hlt he
   rcases hz with h | ⟨h, h'⟩
   ·
    go_wp2_with fail
    go_ret
    exact ⟨ret_bool (by rw [decide_eq_decide, HD.out]), HF.out⟩
   ·
    go_wp2_with fail
    go_ret
    exact ⟨ret_bool (by rw [decide_eq_decide, HD.out]), HF.out⟩
end Go.Proofs.YtbcfdhimngoplaaGreatDoor
namespace Go.Proofs.YtbcfdhimngoplaaGreatDoor
open Go.ChangeShapes Go.WideShapes Go.ChangeAt Go.RowKit
set_option linter.unusedVariables false
set_option linter.unusedSimpArgs false
theorem ci_self (x : Int) : CM.ci x x = 0 := by unfold CM.ci; rw [if_neg (by omega), if_neg (by omega)]
theorem ci_lt {x y : Int} (h : x ≠ y) : (CM.ci x y < 0 ↔ x < y) ∧ CM.ci x y ≠ 0 := by
 unfold CM.ci
 repeat' split
 all_goals omega
theorem or3_first {x y z : Int} (h : x ≠ 0) : CM.or3 x y z = x := if_pos h
theorem or3_second {y z : Int} (h : y ≠ 0) : CM.or3 0 y z = y := by unfold CM.or3; rw [if_neg (by simp), if_pos h]
theorem or3_third (z : Int) : CM.or3 0 0 z = z := by unfold CM.or3; rw [if_neg (by simp), if_neg (by simp)]
set_option maxRecDepth 100000 in
set_option maxHeartbeats 1000000 in
theorem valueLess_any (a b : VM.Vl) (w : World) (ha : a.s.size ≤ maxLen) (hb : b.s.size ≤ maxLen) :
  Calls Tryz.prog 41 #[a.val, b.val] w fun e w' => e = .returned (.bool (decide (CM.ord a b < 0))) ∧ Fr w w' := by
 obtain ⟨ak, an, sa⟩ := a
 obtain ⟨bk, bn, sb⟩ := b
 have hT := fun W => textLess_any sa sb W ha hb
 have HO : Hid (CM.ord ⟨ak, an, sa⟩ ⟨bk, bn, sb⟩ = CM.or3 (CM.ci ak bk) (CM.ci an bn) (Lib.compareBytes sa.data.toList sb.data.toList)) := rfl
 generalize CM.ord ⟨ak, an, sa⟩ ⟨bk, bn, sb⟩ = o at *
 generalize Lib.compareBytes sa.data.toList sb.data.toList = z at *
 unfold VM.Vl.val
 simp only
 clear ha hb
 by_cases h1 : ak = bk
 ·
  subst h1
  by_cases h2 : an = bn
  ·
   subst h2
   have HE : Hid (o = z) := by
    unfold Hid
    rw [HO.out, ci_self, ci_self, or3_third]
   clear HO
   go_enter Tryz.func41, Tryz.ntmps41
   go_wp2_with (go_at_call 62; refine (hT _).mono ?_)
   rintro _ w1 ⟨rfl, hf1⟩
   go_wp2_with fail
   go_ret
   exact ⟨ret_bool (by rw [HE.out]), Fr.trans (((Fr.refl w).alloc _).alloc _) hf1⟩
  ·
   have hc := ci_lt h2
   have HE : Hid (o < 0 ↔ an < bn) := by
    unfold Hid
    rw [HO.out, ci_self, or3_second hc.2, hc.1]
   have q : (an != bn) = true := by simpa using h2
   clear HO hc hT
   go_enter Tryz.func41, Tryz.ntmps41
   go_wp2_with fail
   go_ret
   exact ⟨ret_bool (by rw [decide_eq_decide, HE.out]), ((Fr.refl w).alloc _).alloc _⟩
 ·
  have hc := ci_lt h1
  have HE : Hid (o < 0 ↔ ak < bk) := by
   unfold Hid
   rw [HO.out, or3_first hc.2, hc.1]
  have q : (ak != bk) = true := by simpa using h1
  clear HO hc hT
  go_enter Tryz.func41, Tryz.ntmps41
  go_wp2_with fail
  go_ret
  exact ⟨ret_bool (by rw [decide_eq_decide, HE.out]), ((Fr.refl w).alloc _).alloc _⟩
end Go.Proofs.YtbcfdhimngoplaaGreatDoor
namespace Go.Proofs.YtbcfdhimngoplaaGreatDoor
open Go.ChangeShapes Go.WideShapes Go.ChangeAt Go.RowKit
set_option linter.unusedVariables false
set_option linter.unusedSimpArgs false
theorem map_take (f : VM.Vl → Int) (l : List VM.Vl) (n : Nat) (h : n < l.length) : (l.map f).take (n + 1) = (l.map f).take n ++ [f l[n]] := by
 rw [List.take_succ_eq_append_getElem (by simpa using h)]
 simp
end Go.Proofs.YtbcfdhimngoplaaGreatDoor
namespace Go.Proofs.YtbcfdhimngoplaaGreatDoor
open Go.ChangeShapes Go.WideShapes Go.ChangeAt Go.RowKit
set_option linter.unusedVariables false
set_option linter.unusedSimpArgs false
def Box3 (W : World) (g : Nat) (ak an bk bn ck cn : Int) (sa sb sc : ByteArray) : Prop :=
 W.cell? ⟨g, 0, none⟩ = some (.int .i64 ak) ∧ W.cell? ⟨g, 1, none⟩ = some (.int .i64 an) ∧ W.cell? ⟨g, 2, none⟩ = some (.string sa) ∧ W.cell? ⟨g + 1, 0, none⟩ = some (.int .i64 bk) ∧ W.cell? ⟨g + 1, 1, none⟩ = some (.int .i64 bn) ∧ W.cell? ⟨g + 1, 2, none⟩ = some (.string sb) ∧ W.cell? ⟨g + 1 + 1, 0, none⟩ = some (.int .i64 ck) ∧ W.cell? ⟨g + 1 + 1, 1, none⟩ = some (.int .i64 cn) ∧ W.cell? ⟨g + 1 + 1, 2, none⟩ = some (.string sc)
theorem Box3.fr {W W' : World} {g : Nat} {ak an bk bn ck cn : Int} {sa sb sc : ByteArray} (h : Box3 W g ak an bk bn ck cn sa sb sc) (f : Fr W W') : Box3 W' g ak an bk bn ck cn sa sb sc :=
 ⟨cell_fr f h.1, cell_fr f h.2.1, cell_fr f h.2.2.1, cell_fr f h.2.2.2.1, cell_fr f h.2.2.2.2.1, cell_fr f h.2.2.2.2.2.1, cell_fr f h.2.2.2.2.2.2.1, cell_fr f h.2.2.2.2.2.2.2.1, cell_fr f h.2.2.2.2.2.2.2.2⟩
theorem Box3.al {W : World} {g : Nat} {ak an bk bn ck cn : Int} {sa sb sc : ByteArray} (h : Box3 W g ak an bk bn ck cn sa sb sc) (o : Obj) : Box3 (W.alloc o) g ak an bk bn ck cn sa sb sc :=
 h.fr ((Fr.refl W).alloc o)
end Go.Proofs.YtbcfdhimngoplaaGreatDoor
namespace Go.Proofs.YtbcfdhimngoplaaGreatDoor
open Go.ChangeShapes Go.WideShapes Go.ChangeAt Go.RowKit
set_option linter.unusedVariables false
set_option maxRecDepth 100000
end Go.Proofs.YtbcfdhimngoplaaGreatDoor
namespace Go.Proofs.YtbcfdhimngoplaaGreatDoor
open Go.ChangeShapes Go.WideShapes Go.ChangeAt Go.RowKit
set_option linter.unusedVariables false
set_option maxRecDepth 100000
end Go.Proofs.YtbcfdhimngoplaaGreatDoor
