/-
  What belongs together: Ints, OpenL, IntL, LgMath, Lg, Told, Asks2, AsksIn, AsksBt.
-/
import Derived.Test.YtbcfdhimngoplaaGreatDoorBase
import Derived.Laws.OwnMore
import Derived.OwnWalk
import Derived.Maps.AppendAt
import Derived.Test.YtbcfdhimngoplaaGreatDoorGpA
namespace Go.Proofs.YtbcfdhimngoplaaGreatDoor
open Go.ChangeShapes Go.WideShapes Go.ChangeAt Go.RowKit
set_option linter.unusedVariables false
set_option maxRecDepth 100000
def IntsAt (w : World) (b o : Nat) (l : List Int) : Prop := ∀ i (h : i < l.length), w.cell? ⟨b, o + i, none⟩ = some (.int .i64 l[i])
def IsInts (w : World) (v : Value) (l : List Int) : Prop :=
 ∃ (a : Option Addr) (cap : Nat), v = .slice a l.length cap ∧ l.length ≤ cap ∧ (l = [] ∨ ∃ b o, a = some ⟨b, o, none⟩ ∧ b < w.heap.size ∧ IntsAt w b o l)
theorem IntsAt.fr {w w' : World} {b o : Nat} {l : List Int} (h : IntsAt w b o l) (hb : b < w.heap.size) (f : Fr w w') : IntsAt w' b o l :=
 fun i hi => (Below.cell f hb).trans (h i hi)
theorem IsInts.fr {w w' : World} {v : Value} {l : List Int} (h : IsInts w v l) (f : Fr w w') : IsInts w' v l := by
 obtain ⟨a, cap, rfl, hc, h0 | ⟨b, o, rfl, hb, hcl⟩⟩ := h
 · exact ⟨a, cap, rfl, hc, Or.inl h0⟩
 · exact ⟨_, cap, rfl, hc, Or.inr ⟨b, o, rfl, Nat.lt_of_lt_of_le hb f.size, hcl.fr hb f⟩⟩
end Go.Proofs.YtbcfdhimngoplaaGreatDoor
namespace Go.Proofs.YtbcfdhimngoplaaGreatDoor
open Go.ChangeShapes Go.WideShapes Go.ChangeAt Go.RowKit
set_option linter.unusedVariables false
set_option maxRecDepth 100000
theorem add_at (a : Addr) (n : Nat) (h : a.spot = none) : a.add n = ⟨a.block, a.off + n, none⟩ := by
 obtain ⟨b, o, s⟩ := a
 simp only at h
 subst h
 unfold Addr.add
 split
 · rename_i h0; subst h0; rfl
 · rfl
theorem spot_none {W : World} {a : Addr} {v : Value} (g0 : W.cell? a = some v) : a.spot = none := by
 unfold World.cell? at g0
 split at g0
 ·
  split at g0
  · cases g0
  ·
   rename_i hs
   cases hq : a.spot with
   | none => rfl
   | some q => rw [hq] at hs; simp at hs
 · cases g0
end Go.Proofs.YtbcfdhimngoplaaGreatDoor
namespace Go.Proofs.YtbcfdhimngoplaaGreatDoor
open Go.ChangeShapes Go.WideShapes Go.ChangeAt Go.RowKit
set_option linter.unusedVariables false
set_option maxRecDepth 100000
theorem Tryz.infoElem : (Tryz.prog.info? 3).map (fun i => (i.zero, i.size, i.bytes)) = some (some (.int .i64 0), 1, 8) := by kernel_rfl
def intV (l : List Int) : List Value := l.map fun x => .int .i64 x
theorem intV_len (l : List Int) : (intV l).length = l.length := by simp [intV]
theorem IsInts.news {w : World} {b o : Nat} {l : List Int} (h : IntsAt w b o l) : ∀ j u, (intV l)[j]? = some u → w.cell? ((⟨b, o, none⟩ : Addr).add j) = some u := by
 intro j u hu
 have hj : j < l.length := by
  have := (List.getElem?_eq_some_iff.1 hu).1
  rwa [intV_len] at this
 rw [add_at _ _ rfl, h j hj]
 simp [intV, hj] at hu
 simp [hu]
end Go.Proofs.YtbcfdhimngoplaaGreatDoor
namespace Go.Proofs.YtbcfdhimngoplaaGreatDoor
namespace LG
def kn (a : Int) : Int := if a = 0 then 0 else if a = 2 then 2 else 1
def and (a b : Int) : Int := min (kn a) (kn b)
def or (a b : Int) : Int := max (kn a) (kn b)
def not (a : Int) : Int := if a = 0 then 2 else if a = 2 then 0 else 1
def all : List Int → Int
 | [] => 2
 | a :: t => and a (all t)
def any : List Int → Int
 | [] => 0
 | a :: t => or a (any t)
theorem kn_in (a : Int) : kn a = 0 ∨ kn a = 1 ∨ kn a = 2 := by unfold kn; split <;> (try split) <;> omega
theorem kn_of {a : Int} (h : a = 0 ∨ a = 1 ∨ a = 2) : kn a = a := by
 rcases h with rfl | rfl | rfl <;> rfl
theorem kn_kn (a : Int) : kn (kn a) = kn a := kn_of (kn_in a)
theorem and_in (a b : Int) : and a b = 0 ∨ and a b = 1 ∨ and a b = 2 := by
 have := kn_in a; have := kn_in b
 unfold and; omega
theorem or_in (a b : Int) : or a b = 0 ∨ or a b = 1 ∨ or a b = 2 := by
 have := kn_in a; have := kn_in b
 unfold or; omega
theorem kn_and (a b : Int) : kn (and a b) = min (kn a) (kn b) := kn_of (and_in a b)
theorem kn_or (a b : Int) : kn (or a b) = max (kn a) (kn b) := kn_of (or_in a b)
theorem and_assoc (a b c : Int) : and (and a b) c = and a (and b c) := by
 show min (kn (and a b)) (kn c) = min (kn a) (kn (and b c))
 rw [kn_and, kn_and]; omega
theorem or_assoc (a b c : Int) : or (or a b) c = or a (or b c) := by
 show max (kn (or a b)) (kn c) = max (kn a) (kn (or b c))
 rw [kn_or, kn_or]; omega
theorem all_in (l : List Int) : all l = 0 ∨ all l = 1 ∨ all l = 2 := by
 cases l with
 | nil => exact Or.inr (Or.inr rfl)
 | cons a t => exact and_in a (all t)
theorem any_in (l : List Int) : any l = 0 ∨ any l = 1 ∨ any l = 2 := by
 cases l with
 | nil => exact Or.inl rfl
 | cons a t => exact or_in a (any t)
theorem and_two (a : Int) : and a 2 = kn a := by
 have := kn_in a
 show min (kn a) 2 = _
 omega
theorem or_nought (a : Int) : or a 0 = kn a := by
 have := kn_in a
 show max (kn a) 0 = _
 omega
theorem two_and (a : Int) : and 2 a = kn a := by
 have := kn_in a
 show min 2 (kn a) = _
 omega
theorem nought_or (a : Int) : or 0 a = kn a := by
 have := kn_in a
 show max 0 (kn a) = _
 omega
theorem all_app (l m : List Int) : all (l ++ m) = and (all l) (all m) := by
 induction l with
 | nil => show all m = and 2 (all m); rw [two_and, kn_of (all_in m)]
 | cons a t ih => show and a (all (t ++ m)) = and (and a (all t)) (all m); rw [ih, and_assoc]
theorem any_app (l m : List Int) : any (l ++ m) = or (any l) (any m) := by
 induction l with
 | nil => show any m = or 0 (any m); rw [nought_or, kn_of (any_in m)]
 | cons a t ih => show or a (any (t ++ m)) = or (or a (any t)) (any m); rw [ih, or_assoc]
end LG
end Go.Proofs.YtbcfdhimngoplaaGreatDoor
namespace Go.Proofs.YtbcfdhimngoplaaGreatDoor
open Go.ChangeShapes Go.WideShapes Go.ChangeAt Go.RowKit
set_option linter.unusedVariables false
set_option maxRecDepth 100000
set_option maxHeartbeats 400000 in
theorem known_any (a : Int) (w : World) : Calls Tryz.prog 138 #[.int .i64 a] w fun e w' => e = .returned (.int .i64 (LG.kn a)) ∧ w' = w := by
 by_cases h0 : a = 0
 ·
  subst h0
  go_enter Tryz.func138, Tryz.ntmps138
  go_wp2_with fail
  go_ret
  exact ⟨rfl, rfl⟩
 by_cases h2 : a = 2
 ·
  subst h2
  go_enter Tryz.func138, Tryz.ntmps138
  go_wp2_with fail
  go_ret
  exact ⟨rfl, rfl⟩
 ·
  have HK : Hid (LG.kn a = 1) := by unfold Hid LG.kn; rw [if_neg h0, if_neg h2]
  have q0 : (a == 0) = false := by simpa using h0
  have q2 : (a == 2) = false := by simpa using h2
  go_enter Tryz.func138, Tryz.ntmps138
  go_wp2_with fail
  go_ret
  exact ⟨ret_int HK.out.symm, rfl⟩
set_option maxHeartbeats 400000 in
theorem and_any (a b : Int) (w : World) : Calls Tryz.prog 130 #[.int .i64 a, .int .i64 b] w fun e w' => e = .returned (.int .i64 (LG.and a b)) ∧ w' = w := by
 have c1 := fun W => known_any a W
 have c2 := fun W => known_any b W
 have HA : Hid (LG.and a b = min (LG.kn a) (LG.kn b)) := rfl
 generalize LG.kn a = x at *
 generalize LG.kn b = y at *
 go_enter Tryz.func130, Tryz.ntmps130
 go_wp2_with (go_at_call 138; refine (c1 _).mono ?_)
 rintro _ w1 ⟨rfl, rfl⟩
 go_wp2_with (go_at_call 138; refine (c2 _).mono ?_)
 rintro _ w1 ⟨rfl, rfl⟩
 go_wp2_with fail
 go_ret
 exact ⟨ret_int HA.out.symm, rfl⟩
set_option maxHeartbeats 400000 in
theorem or_any (a b : Int) (w : World) : Calls Tryz.prog 131 #[.int .i64 a, .int .i64 b] w fun e w' => e = .returned (.int .i64 (LG.or a b)) ∧ w' = w := by
 have c1 := fun W => known_any a W
 have c2 := fun W => known_any b W
 have HA : Hid (LG.or a b = max (LG.kn a) (LG.kn b)) := rfl
 generalize LG.kn a = x at *
 generalize LG.kn b = y at *
 go_enter Tryz.func131, Tryz.ntmps131
 go_wp2_with (go_at_call 138; refine (c1 _).mono ?_)
 rintro _ w1 ⟨rfl, rfl⟩
 go_wp2_with (go_at_call 138; refine (c2 _).mono ?_)
 rintro _ w1 ⟨rfl, rfl⟩
 go_wp2_with fail
 go_ret
 exact ⟨ret_int HA.out.symm, rfl⟩
set_option maxHeartbeats 400000 in
theorem not_any (a : Int) (w : World) : Calls Tryz.prog 111 #[.int .i64 a] w fun e w' => e = .returned (.int .i64 (LG.not a)) ∧ w' = w := by
 by_cases h0 : a = 0
 ·
  subst h0
  go_enter Tryz.func111, Tryz.ntmps111
  go_wp2_with fail
  go_ret
  exact ⟨rfl, rfl⟩
 by_cases h2 : a = 2
 ·
  subst h2
  go_enter Tryz.func111, Tryz.ntmps111
  go_wp2_with fail
  go_ret
  exact ⟨rfl, rfl⟩
 ·
  have HK : Hid (LG.not a = 1) := by unfold Hid LG.not; rw [if_neg h0, if_neg h2]
  have q0 : (a == 0) = false := by simpa using h0
  have q2 : (a == 2) = false := by simpa using h2
  go_enter Tryz.func111, Tryz.ntmps111
  go_wp2_with fail
  go_ret
  exact ⟨ret_int HK.out.symm, rfl⟩
set_option maxHeartbeats 1000000 in
theorem all_any (v : Value) (l : List Int) (w : World) (hr : IsInts w v l) (hbig : l.length ≤ 9223372036854775807) :
  Calls Tryz.prog 109 #[v] w fun e w' => e = .returned (.int .i64 (LG.all l)) ∧ w' = w := by
 obtain ⟨a, cap, rfl, _, hcs⟩ := hr
 have HC : Hid _ := hcs
 clear hcs
 go_enter Tryz.func109, Tryz.ntmps109
 go_wp2_with fail
 go_loop [3, 8] (fun sv iv => ∃ (k : Nat) (s : Int), k ≤ l.length ∧ iv = .int .i64 k ∧ sv = .int .i64 s ∧ s = LG.all (l.take k)) (fun _ iv => l.length - (intOf iv).toNat)
 case atStart => exact ⟨0, 2, Nat.zero_le _, rfl, rfl, rfl⟩
 case round =>
  obtain ⟨k, s, hk, rfl, rfl, hs⟩ := hrel
  by_cases hlt : k < l.length
  ·
   obtain ⟨b, o, rfl, hb, hc⟩ : ∃ b o, a = some ⟨b, o, none⟩ ∧ b < w.heap.size ∧ IntsAt w b o l := by
    rcases HC.out with h | h
    · subst h; simp at hlt
    · exact h
   have c0 := hc k hlt
   have HS : Hid (LG.all (l.take (k + 1)) = LG.and s l[k]) := by
    unfold Hid
    rw [List.take_succ_eq_append_getElem hlt, LG.all_app, ← hs]
    show LG.and s (LG.and l[k] 2) = _
    rw [LG.and_two]
    show min (LG.kn s) (LG.kn (LG.kn l[k])) = _
    rw [LG.kn_kn]
    rfl
   have hA := fun W => and_any s l[k] W
   generalize l[k] = z at *
   generalize LG.and s z = y at *
   clear hc hs HC
   go_wp2_with (go_at_call 130; refine (hA _).mono ?_; rintro _ w1 ⟨rfl, rfl⟩)
   go_round
   case rel => exact ⟨k + 1, _, by omega, by go_num, rfl, HS.out.symm⟩
   case measure => simp [intOf]; omega
  ·
   obtain rfl : k = l.length := by omega
   rw [List.take_length] at hs
   have HS : Hid _ := hs
   clear hs HC
   go_wp2_with fail
   go_ret
   exact ⟨ret_int HS.out, rfl⟩
set_option maxHeartbeats 1000000 in
theorem any_any (v : Value) (l : List Int) (w : World) (hr : IsInts w v l) (hbig : l.length ≤ 9223372036854775807) :
  Calls Tryz.prog 110 #[v] w fun e w' => e = .returned (.int .i64 (LG.any l)) ∧ w' = w := by
 obtain ⟨a, cap, rfl, _, hcs⟩ := hr
 have HC : Hid _ := hcs
 clear hcs
 go_enter Tryz.func110, Tryz.ntmps110
 go_wp2_with fail
 go_loop [3, 8] (fun sv iv => ∃ (k : Nat) (s : Int), k ≤ l.length ∧ iv = .int .i64 k ∧ sv = .int .i64 s ∧ s = LG.any (l.take k)) (fun _ iv => l.length - (intOf iv).toNat)
 case atStart => exact ⟨0, 0, Nat.zero_le _, rfl, rfl, rfl⟩
 case round =>
  obtain ⟨k, s, hk, rfl, rfl, hs⟩ := hrel
  by_cases hlt : k < l.length
  ·
   obtain ⟨b, o, rfl, hb, hc⟩ : ∃ b o, a = some ⟨b, o, none⟩ ∧ b < w.heap.size ∧ IntsAt w b o l := by
    rcases HC.out with h | h
    · subst h; simp at hlt
    · exact h
   have c0 := hc k hlt
   have HS : Hid (LG.any (l.take (k + 1)) = LG.or s l[k]) := by
    unfold Hid
    rw [List.take_succ_eq_append_getElem hlt, LG.any_app, ← hs]
    show LG.or s (LG.or l[k] 0) = _
    rw [LG.or_nought]
    show max (LG.kn s) (LG.kn (LG.kn l[k])) = _
    rw [LG.kn_kn]
    rfl
   have hA := fun W => or_any s l[k] W
   generalize l[k] = z at *
   generalize LG.or s z = y at *
   clear hc hs HC
   go_wp2_with (go_at_call 131; refine (hA _).mono ?_; rintro _ w1 ⟨rfl, rfl⟩)
   go_round
   case rel => exact ⟨k + 1, _, by omega, by go_num, rfl, HS.out.symm⟩
   case measure => simp [intOf]; omega
  ·
   obtain rfl : k = l.length := by omega
   rw [List.take_length] at hs
   have HS : Hid _ := hs
   clear hs HC
   go_wp2_with fail
   go_ret
   exact ⟨ret_int HS.out, rfl⟩
end Go.Proofs.YtbcfdhimngoplaaGreatDoor
namespace Go.Proofs.YtbcfdhimngoplaaGreatDoor
open Go.ChangeShapes Go.WideShapes Go.ChangeAt Go.RowKit
set_option linter.unusedVariables false
set_option linter.unusedSimpArgs false
set_option maxRecDepth 100000 in
set_option maxHeartbeats 1000000 in
theorem lcheckAll_any (v : Value) (l : List VM.Vl) (w : World) (hr : IsRow w v l) (hbig : l.length ≤ 9223372036854775807) :
  Calls Tryz.prog 132 #[v] w fun e w' => e = .returned (.int .i64 (VM.chkAll l)) ∧ Fr w w' := by
 obtain ⟨a, cap, rfl, hcs⟩ := hr
 have HC : Hid _ := hcs
 clear hcs
 go_enter Tryz.func132, Tryz.ntmps132
 go_wp2_with fail
 go_loopw [8] (fun iv wr => ∃ i : Nat, iv = .int .i64 i ∧ i ≤ l.length ∧ VM.chkAll l = VM.chkAll (l.drop i) ∧ Fr w wr) (fun iv _ => l.length - (intOf iv).toNat)
 case atStart => exact ⟨0, rfl, Nat.zero_le _, rfl, Fr.refl _⟩
 case round =>
  obtain ⟨i, rfl, hi, hall, hfr⟩ := hrel
  by_cases hlt : i < l.length
  ·
   obtain ⟨b, o, rfl, hb, hc⟩ : ∃ b o, a = some ⟨b, o, none⟩ ∧ b < w.heap.size ∧ CellsAt w b o l := by
    rcases HC.out with h | h
    · subst h; simp at hlt
    · exact h
   obtain ⟨c0, c1, c2⟩ := (hc.fr hb hfr) i hlt
   have HA : Hid _ := hall
   have HF : Hid _ := hfr
   clear hall hfr hc
   have hchk := fun W => check_any l[i].k l[i].n l[i].s W
   generalize hx : l[i] = x at c0 c1 c2 hchk
   obtain ⟨k, n, s⟩ := x
   simp only at c0 c1 c2 hchk
   have HX : Hid _ := hx
   clear hx
   go_wp2_with (go_at_call 75; refine (hchk _).mono ?_)
   rintro e w1 ⟨rfl, hf1⟩
   have hfr' : Fr w w1 := (Fr.alloc HF.out _).trans hf1
   have hdrop : VM.chkAll (l.drop i) = if VM.chk ⟨k, n, s⟩ = 0 then VM.chkAll (l.drop (i + 1)) else VM.chk ⟨k, n, s⟩ := by
    rw [List.drop_eq_getElem_cons hlt, HX.out]
    rfl
   have HD : Hid _ := HA.out.trans hdrop
   clear hdrop HA HF hf1 c0 c1 c2
   by_cases he : VM.chk ⟨k, n, s⟩ = 0
   ·
    have HD' : Hid _ := HD.out.trans (if_pos he)
    clear HD
    rw [he]
    go_wp2_with fail
    go_roundw
    case rel => exact ⟨i + 1, by go_num, by omega, HD'.out, hfr'⟩
    case measure => simp [intOf]; omega
   ·
    have HD' : Hid _ := HD.out.trans (if_neg he)
    clear HD
    generalize hy : VM.chk ⟨k, n, s⟩ = y at *
    have hne : ((y : Int) != 0) = true := by simp; omega
    have hne2 : ¬ ((y : Int) = 0) := by omega
    go_wp2_with fail
    go_ret
    refine ⟨ret_int ?_, hfr'⟩
    rw [HD'.out]
  ·
   have hnil : VM.chkAll l = 0 := by
    rw [hall, List.drop_of_length_le (by omega)]
    rfl
   have HN : Hid _ := hnil
   have hi' : i = l.length := by omega
   clear hall hnil
   subst hi'
   go_wp2_with fail
   go_ret
   refine ⟨ret_int ?_, hfr⟩
   rw [HN.out]
   rfl

def LG.lt (a b : VM.Vl) : Int := if a.k = 0 ∨ b.k = 0 then 1 else if CM.cmp a b < 0 then 2 else 0
def LG.sm (a b : VM.Vl) : Int := if a.k = 0 ∨ b.k = 0 then 1 else if CM.cmp a b = 0 then 2 else 0
set_option maxRecDepth 100000 in
theorem lessClo_any (x : Int) (w : World) : Calls Tryz.prog 141 #[.int .i64 x] w fun e w' => e = .returned (.bool (decide (x < 0))) ∧ w' = w := by
 go_enter Tryz.func141, Tryz.ntmps141
 go_wp2_with fail
 go_ret
 exact ⟨rfl, rfl⟩
set_option maxRecDepth 100000 in
theorem sameClo_any (x : Int) (w : World) : Calls Tryz.prog 140 #[.int .i64 x] w fun e w' => e = .returned (.bool (x == 0)) ∧ w' = w := by
 go_enter Tryz.func140, Tryz.ntmps140
 go_wp2_with fail
 go_ret
 exact ⟨rfl, rfl⟩

set_option maxRecDepth 100000 in
set_option maxHeartbeats 1000000 in
theorem told_less (a b : VM.Vl) (w : World) :
  Calls Tryz.prog 139 #[a.val, b.val, .func (.func 141) #[] #[]] w fun e w' => e = .returned (.int .i64 (LG.lt a b)) ∧ Fr w w' := by
 have hc := fun W => valCompare_any a b W
 have HL : Hid (LG.lt a b = if a.k = 0 ∨ b.k = 0 then 1 else if CM.cmp a b < 0 then 2 else 0) := rfl
 generalize CM.cmp a b = o at *
 generalize VM.chkAll [a, b] = c at *
 generalize LG.lt a b = r at *
 obtain ⟨ak, an, sa⟩ := a
 obtain ⟨bk, bn, sb⟩ := b
 unfold VM.Vl.val at *
 simp only at *
 have f0 : Fr w ((w.alloc (.cells #[.int .i64 ak, .int .i64 an, .string sa] 56)).alloc (.cells #[.int .i64 bk, .int .i64 bn, .string sb] 56)) := ((Fr.refl w).alloc _).alloc _
 have F0 : Hid _ := f0
 clear f0
 by_cases h1 : ak = 0
 ·
  have HR : Hid (r = 1) := HL.out.trans (if_pos (Or.inl h1))
  clear HL
  subst h1
  go_enter Tryz.func139, Tryz.ntmps139
  go_wp2_with fail
  go_ret
  exact ⟨ret_int HR.out.symm, F0.out⟩
 have q1 : (ak == 0) = false := by simpa using h1
 by_cases h2 : bk = 0
 ·
  have HR : Hid (r = 1) := HL.out.trans (if_pos (Or.inr h2))
  clear HL
  subst h2
  go_enter Tryz.func139, Tryz.ntmps139
  go_wp2_with fail
  go_ret
  exact ⟨ret_int HR.out.symm, F0.out⟩
 have q2 : (bk == 0) = false := by simpa using h2
 have HL2 : Hid (r = if o < 0 then 2 else 0) := HL.out.trans (if_neg (by omega))
 clear HL h1 h2
 by_cases ht : o < 0
 ·
  have HR : Hid (r = 2) := HL2.out.trans (if_pos ht)
  have hcl : ∀ W, Calls Tryz.prog 141 #[.int .i64 o] W fun e w' => e = .returned (.bool true) ∧ w' = W := fun W => by
   have h := lessClo_any o W
   rw [show (decide (o < 0)) = true by simpa using ht] at h
   exact h
  clear HL2 ht
  go_enter Tryz.func139, Tryz.ntmps139
  go_wp2_with (go_at_call 60; refine (hc _).mono ?_)
  rintro _ w1 ⟨rfl, hf1⟩
  have hf : Fr w w1 := (((Fr.refl w).alloc _).alloc _).trans hf1
  have HF : Hid _ := hf
  clear hf1 hf
  go_wp2_with (go_at_call 141; refine (hcl _).mono ?_)
  rintro _ w2 ⟨rfl, rfl⟩
  go_wp2_with fail
  go_ret
  exact ⟨ret_int HR.out.symm, HF.out⟩
 ·
  have HR : Hid (r = 0) := HL2.out.trans (if_neg ht)
  have hcl : ∀ W, Calls Tryz.prog 141 #[.int .i64 o] W fun e w' => e = .returned (.bool false) ∧ w' = W := fun W => by
   have h := lessClo_any o W
   rw [show (decide (o < 0)) = false by simpa using ht] at h
   exact h
  clear HL2 ht
  go_enter Tryz.func139, Tryz.ntmps139
  go_wp2_with (go_at_call 60; refine (hc _).mono ?_)
  rintro _ w1 ⟨rfl, hf1⟩
  have hf : Fr w w1 := (((Fr.refl w).alloc _).alloc _).trans hf1
  have HF : Hid _ := hf
  clear hf1 hf
  go_wp2_with (go_at_call 141; refine (hcl _).mono ?_)
  rintro _ w2 ⟨rfl, rfl⟩
  go_wp2_with fail
  go_ret
  exact ⟨ret_int HR.out.symm, HF.out⟩
set_option maxRecDepth 100000 in
set_option maxHeartbeats 1000000 in
theorem less_any (a b : VM.Vl) (w : World) :
  Calls Tryz.prog 134 #[a.val, b.val] w fun e w' => e = .returned (.int .i64 (LG.lt a b)) ∧ Fr w w' := by
 have ht := fun W => told_less a b W
 generalize LG.lt a b = r at *
 obtain ⟨ak, an, sa⟩ := a
 obtain ⟨bk, bn, sb⟩ := b
 unfold VM.Vl.val at *
 simp only at *
 have f0 : Fr w ((w.alloc (.cells #[.int .i64 ak, .int .i64 an, .string sa] 56)).alloc (.cells #[.int .i64 bk, .int .i64 bn, .string sb] 56)) := ((Fr.refl w).alloc _).alloc _
 have F0 : Hid _ := f0
 clear f0
 go_enter Tryz.func134, Tryz.ntmps134
 go_wp2_with (go_at_call 139; refine (ht _).mono ?_)
 rintro _ w1 ⟨rfl, hf1⟩
 go_wp2_with fail
 go_ret
 exact ⟨rfl, (((Fr.refl w).alloc _).alloc _).trans hf1⟩
set_option maxRecDepth 100000 in
set_option maxHeartbeats 1000000 in
theorem told_same (a b : VM.Vl) (w : World) :
  Calls Tryz.prog 139 #[a.val, b.val, .func (.func 140) #[] #[]] w fun e w' => e = .returned (.int .i64 (LG.sm a b)) ∧ Fr w w' := by
 have hc := fun W => valCompare_any a b W
 have HL : Hid (LG.sm a b = if a.k = 0 ∨ b.k = 0 then 1 else if CM.cmp a b = 0 then 2 else 0) := rfl
 generalize CM.cmp a b = o at *
 generalize VM.chkAll [a, b] = c at *
 generalize LG.sm a b = r at *
 obtain ⟨ak, an, sa⟩ := a
 obtain ⟨bk, bn, sb⟩ := b
 unfold VM.Vl.val at *
 simp only at *
 have f0 : Fr w ((w.alloc (.cells #[.int .i64 ak, .int .i64 an, .string sa] 56)).alloc (.cells #[.int .i64 bk, .int .i64 bn, .string sb] 56)) := ((Fr.refl w).alloc _).alloc _
 have F0 : Hid _ := f0
 clear f0
 by_cases h1 : ak = 0
 ·
  have HR : Hid (r = 1) := HL.out.trans (if_pos (Or.inl h1))
  clear HL
  subst h1
  go_enter Tryz.func139, Tryz.ntmps139
  go_wp2_with fail
  go_ret
  exact ⟨ret_int HR.out.symm, F0.out⟩
 have q1 : (ak == 0) = false := by simpa using h1
 by_cases h2 : bk = 0
 ·
  have HR : Hid (r = 1) := HL.out.trans (if_pos (Or.inr h2))
  clear HL
  subst h2
  go_enter Tryz.func139, Tryz.ntmps139
  go_wp2_with fail
  go_ret
  exact ⟨ret_int HR.out.symm, F0.out⟩
 have q2 : (bk == 0) = false := by simpa using h2
 have HL2 : Hid (r = if o = 0 then 2 else 0) := HL.out.trans (if_neg (by omega))
 clear HL h1 h2
 by_cases ht : o = 0
 ·
  have HR : Hid (r = 2) := HL2.out.trans (if_pos ht)
  have hcl : ∀ W, Calls Tryz.prog 140 #[.int .i64 o] W fun e w' => e = .returned (.bool true) ∧ w' = W := fun W => by
   have h := sameClo_any o W
   rw [show (o == 0) = true by simpa using ht] at h
   exact h
  clear HL2 ht
  go_enter Tryz.func139, Tryz.ntmps139
  go_wp2_with (go_at_call 60; refine (hc _).mono ?_)
  rintro _ w1 ⟨rfl, hf1⟩
  have hf : Fr w w1 := (((Fr.refl w).alloc _).alloc _).trans hf1
  have HF : Hid _ := hf
  clear hf1 hf
  go_wp2_with (go_at_call 140; refine (hcl _).mono ?_)
  rintro _ w2 ⟨rfl, rfl⟩
  go_wp2_with fail
  go_ret
  exact ⟨ret_int HR.out.symm, HF.out⟩
 ·
  have HR : Hid (r = 0) := HL2.out.trans (if_neg ht)
  have hcl : ∀ W, Calls Tryz.prog 140 #[.int .i64 o] W fun e w' => e = .returned (.bool false) ∧ w' = W := fun W => by
   have h := sameClo_any o W
   rw [show (o == 0) = false by simpa using ht] at h
   exact h
  clear HL2 ht
  go_enter Tryz.func139, Tryz.ntmps139
  go_wp2_with (go_at_call 60; refine (hc _).mono ?_)
  rintro _ w1 ⟨rfl, hf1⟩
  have hf : Fr w w1 := (((Fr.refl w).alloc _).alloc _).trans hf1
  have HF : Hid _ := hf
  clear hf1 hf
  go_wp2_with (go_at_call 140; refine (hcl _).mono ?_)
  rintro _ w2 ⟨rfl, rfl⟩
  go_wp2_with fail
  go_ret
  exact ⟨ret_int HR.out.symm, HF.out⟩
set_option maxRecDepth 100000 in
set_option maxHeartbeats 1000000 in
theorem same_any (a b : VM.Vl) (w : World) :
  Calls Tryz.prog 133 #[a.val, b.val] w fun e w' => e = .returned (.int .i64 (LG.sm a b)) ∧ Fr w w' := by
 have ht := fun W => told_same a b W
 generalize LG.sm a b = r at *
 obtain ⟨ak, an, sa⟩ := a
 obtain ⟨bk, bn, sb⟩ := b
 unfold VM.Vl.val at *
 simp only at *
 have f0 : Fr w ((w.alloc (.cells #[.int .i64 ak, .int .i64 an, .string sa] 56)).alloc (.cells #[.int .i64 bk, .int .i64 bn, .string sb] 56)) := ((Fr.refl w).alloc _).alloc _
 have F0 : Hid _ := f0
 clear f0
 go_enter Tryz.func133, Tryz.ntmps133
 go_wp2_with (go_at_call 139; refine (ht _).mono ?_)
 rintro _ w1 ⟨rfl, hf1⟩
 go_wp2_with fail
 go_ret
 exact ⟨rfl, (((Fr.refl w).alloc _).alloc _).trans hf1⟩
end Go.Proofs.YtbcfdhimngoplaaGreatDoor
namespace Go.Proofs.YtbcfdhimngoplaaGreatDoor
open Go.ChangeShapes Go.WideShapes Go.ChangeAt Go.RowKit
set_option linter.unusedVariables false
set_option linter.unusedSimpArgs false
def LG.lt2 (a b : VM.Vl) : Int := if VM.chkAll [a, b] = 0 then LG.lt a b else 0
def LG.sm2 (a b : VM.Vl) : Int := if VM.chkAll [a, b] = 0 then LG.sm a b else 0
set_option maxRecDepth 100000 in
set_option maxHeartbeats 1000000 in
theorem Less_any (a b : VM.Vl) (w : World) :
  Calls Tryz.prog 113 #[a.val, b.val] w fun e w' => e = .returned (.tuple #[.int .i64 (LG.lt2 a b), .int .i64 (VM.chkAll [a, b])]) ∧ Fr w w' := by
 have ho := fun W => less_any a b W
 have HC : Hid (LG.lt2 a b = if VM.chkAll [a, b] = 0 then LG.lt a b else 0) := rfl
 generalize hA : LG.lt a b = o at *
 generalize hC : VM.chkAll [a, b] = c at *
 generalize LG.lt2 a b = x at *
 have hca := fun v W hr => lcheckAll_any v [a, b] W hr (by simp)
 rw [hC] at hca
 obtain ⟨ak, an, sa⟩ := a
 obtain ⟨bk, bn, sb⟩ := b
 unfold VM.Vl.val at *
 simp only at ho ⊢
 have f0 : Fr w (((w.alloc (.cells #[.int .i64 ak, .int .i64 an, .string sa] 56)).alloc (.cells #[.int .i64 bk, .int .i64 bn, .string sb] 56)).alloc (.cells #[.int .i64 ak, .int .i64 an, .string sa, .int .i64 bk, .int .i64 bn, .string sb] 56)) := (((Fr.refl w).alloc _).alloc _).alloc _
 have F0 : Hid _ := f0
 clear f0 hA hC
 go_enter Tryz.func113, Tryz.ntmps113
 have hr2 : IsRow (((w.alloc (.cells #[.int .i64 ak, .int .i64 an, .string sa] 56)).alloc (.cells #[.int .i64 bk, .int .i64 bn, .string sb] 56)).alloc (.cells #[.int .i64 ak, .int .i64 an, .string sa, .int .i64 bk, .int .i64 bn, .string sb] 56)) (.slice (some ⟨w.heap.size + 1 + 1, 0, none⟩) 2 2) [⟨ak, an, sa⟩, ⟨bk, bn, sb⟩] := by
  refine ⟨_, 2, rfl, Or.inr ⟨w.heap.size + 1 + 1, 0, rfl, by simp, ?_⟩⟩
  intro i hi
  match i, hi with
  | 0, _ => simp [go_sem]
  | 1, _ => simp [go_sem]
 have hcc := hca _ _ hr2
 have c1 : (((w.alloc (.cells #[.int .i64 ak, .int .i64 an, .string sa] 56)).alloc (.cells #[.int .i64 bk, .int .i64 bn, .string sb] 56)).alloc (.cells #[.int .i64 ak, .int .i64 an, .string sa, .int .i64 bk, .int .i64 bn, .string sb] 56)).heap[w.heap.size]? = some (.cells #[.int .i64 ak, .int .i64 an, .string sa] 56 (0, 0)) := by
  rw [Below.heap_alloc _ _ _ (by simp; omega), Below.heap_alloc _ _ _ (by simp)]
  show (w.heap.push _)[w.heap.size]? = _
  rw [Array.getElem?_push_size]
 have c2 : (((w.alloc (.cells #[.int .i64 ak, .int .i64 an, .string sa] 56)).alloc (.cells #[.int .i64 bk, .int .i64 bn, .string sb] 56)).alloc (.cells #[.int .i64 ak, .int .i64 an, .string sa, .int .i64 bk, .int .i64 bn, .string sb] 56)).heap[w.heap.size + 1]? = some (.cells #[.int .i64 bk, .int .i64 bn, .string sb] 56 (0, 0)) := by
  rw [Below.heap_alloc _ _ _ (by simp)]
  show ((w.alloc _).heap.push _)[w.heap.size + 1]? = _
  rw [show w.heap.size + 1 = (w.alloc (.cells #[.int .i64 ak, .int .i64 an, .string sa] 56)).heap.size by simp, Array.getElem?_push_size]
 have hl1 := (Array.getElem?_eq_some_iff.1 c1).1
 have hl2 := (Array.getElem?_eq_some_iff.1 c2).1
 have C1 : Hid _ := c1
 have C2 : Hid _ := c2
 have HL1 : Hid _ := hl1
 have HL2 : Hid _ := hl2
 clear hr2 hca c1 c2 hl1 hl2
 go_wp2_with (go_at_call 132; refine hcc.mono ?_)
 rintro e w1 ⟨rfl, hf1⟩
 have hh1 := (hf1.block _ HL1.out).trans C1.out
 have hh2 := (hf1.block _ HL2.out).trans C2.out
 have a0 : w1.cell? ⟨w.heap.size, 0, none⟩ = some (.int .i64 ak) := (Lib.cell_of_heap hh1 _).trans rfl
 have a1 : w1.cell? ⟨w.heap.size, 1, none⟩ = some (.int .i64 an) := (Lib.cell_of_heap hh1 _).trans rfl
 have a2 : w1.cell? ⟨w.heap.size, 2, none⟩ = some (.string sa) := (Lib.cell_of_heap hh1 _).trans rfl
 have b0 : w1.cell? ⟨w.heap.size + 1, 0, none⟩ = some (.int .i64 bk) := (Lib.cell_of_heap hh2 _).trans rfl
 have b1 : w1.cell? ⟨w.heap.size + 1, 1, none⟩ = some (.int .i64 bn) := (Lib.cell_of_heap hh2 _).trans rfl
 have b2 : w1.cell? ⟨w.heap.size + 1, 2, none⟩ = some (.string sb) := (Lib.cell_of_heap hh2 _).trans rfl
 have F1 : Hid (Fr w w1) := Fr.trans F0.out hf1
 clear hf1 hh1 hh2 hcc HL1 HL2 C1 C2 F0
 by_cases hc : c = 0
 ·
  subst hc
  rw [if_pos rfl] at HC
  go_wp2_with (go_at_call 134; refine (ho _).mono ?_)
  rintro e w2 ⟨rfl, hf2⟩
  have F2 : Hid _ := Fr.trans F1.out hf2
  clear hf2 ho
  go_wp2_with fail
  go_ret2
  rw [HC.out]
  exact ⟨rfl, F2.out⟩
 ·
  have q1 : ((c : Int) != 0) = true := by simp; omega
  have q2 : ¬ ((c : Int) = 0) := by omega
  rw [if_neg hc] at HC
  go_wp2_with fail
  go_ret2
  rw [HC.out]
  exact ⟨rfl, F1.out⟩
set_option maxRecDepth 100000 in
set_option maxHeartbeats 1000000 in
theorem Same_any (a b : VM.Vl) (w : World) :
  Calls Tryz.prog 112 #[a.val, b.val] w fun e w' => e = .returned (.tuple #[.int .i64 (LG.sm2 a b), .int .i64 (VM.chkAll [a, b])]) ∧ Fr w w' := by
 have ho := fun W => same_any a b W
 have HC : Hid (LG.sm2 a b = if VM.chkAll [a, b] = 0 then LG.sm a b else 0) := rfl
 generalize hA : LG.sm a b = o at *
 generalize hC : VM.chkAll [a, b] = c at *
 generalize LG.sm2 a b = x at *
 have hca := fun v W hr => lcheckAll_any v [a, b] W hr (by simp)
 rw [hC] at hca
 obtain ⟨ak, an, sa⟩ := a
 obtain ⟨bk, bn, sb⟩ := b
 unfold VM.Vl.val at *
 simp only at ho ⊢
 have f0 : Fr w (((w.alloc (.cells #[.int .i64 ak, .int .i64 an, .string sa] 56)).alloc (.cells #[.int .i64 bk, .int .i64 bn, .string sb] 56)).alloc (.cells #[.int .i64 ak, .int .i64 an, .string sa, .int .i64 bk, .int .i64 bn, .string sb] 56)) := (((Fr.refl w).alloc _).alloc _).alloc _
 have F0 : Hid _ := f0
 clear f0 hA hC
 go_enter Tryz.func112, Tryz.ntmps112
 have hr2 : IsRow (((w.alloc (.cells #[.int .i64 ak, .int .i64 an, .string sa] 56)).alloc (.cells #[.int .i64 bk, .int .i64 bn, .string sb] 56)).alloc (.cells #[.int .i64 ak, .int .i64 an, .string sa, .int .i64 bk, .int .i64 bn, .string sb] 56)) (.slice (some ⟨w.heap.size + 1 + 1, 0, none⟩) 2 2) [⟨ak, an, sa⟩, ⟨bk, bn, sb⟩] := by
  refine ⟨_, 2, rfl, Or.inr ⟨w.heap.size + 1 + 1, 0, rfl, by simp, ?_⟩⟩
  intro i hi
  match i, hi with
  | 0, _ => simp [go_sem]
  | 1, _ => simp [go_sem]
 have hcc := hca _ _ hr2
 have c1 : (((w.alloc (.cells #[.int .i64 ak, .int .i64 an, .string sa] 56)).alloc (.cells #[.int .i64 bk, .int .i64 bn, .string sb] 56)).alloc (.cells #[.int .i64 ak, .int .i64 an, .string sa, .int .i64 bk, .int .i64 bn, .string sb] 56)).heap[w.heap.size]? = some (.cells #[.int .i64 ak, .int .i64 an, .string sa] 56 (0, 0)) := by
  rw [Below.heap_alloc _ _ _ (by simp; omega), Below.heap_alloc _ _ _ (by simp)]
  show (w.heap.push _)[w.heap.size]? = _
  rw [Array.getElem?_push_size]
 have c2 : (((w.alloc (.cells #[.int .i64 ak, .int .i64 an, .string sa] 56)).alloc (.cells #[.int .i64 bk, .int .i64 bn, .string sb] 56)).alloc (.cells #[.int .i64 ak, .int .i64 an, .string sa, .int .i64 bk, .int .i64 bn, .string sb] 56)).heap[w.heap.size + 1]? = some (.cells #[.int .i64 bk, .int .i64 bn, .string sb] 56 (0, 0)) := by
  rw [Below.heap_alloc _ _ _ (by simp)]
  show ((w.alloc _).heap.push _)[w.heap.size + 1]? = _
  rw [show w.heap.size + 1 = (w.alloc (.cells #[.int .i64 ak, .int .i64 an, .string sa] 56)).heap.size by simp, Array.getElem?_push_size]
 have hl1 := (Array.getElem?_eq_some_iff.1 c1).1
 have hl2 := (Array.getElem?_eq_some_iff.1 c2).1
 have C1 : Hid _ := c1
 have C2 : Hid _ := c2
 have HL1 : Hid _ := hl1
 have HL2 : Hid _ := hl2
 clear hr2 hca c1 c2 hl1 hl2
 go_wp2_with (go_at_call 132; refine hcc.mono ?_)
 rintro e w1 ⟨rfl, hf1⟩
 have hh1 := (hf1.block _ HL1.out).trans C1.out
 have hh2 := (hf1.block _ HL2.out).trans C2.out
 have a0 : w1.cell? ⟨w.heap.size, 0, none⟩ = some (.int .i64 ak) := (Lib.cell_of_heap hh1 _).trans rfl
 have a1 : w1.cell? ⟨w.heap.size, 1, none⟩ = some (.int .i64 an) := (Lib.cell_of_heap hh1 _).trans rfl
 have a2 : w1.cell? ⟨w.heap.size, 2, none⟩ = some (.string sa) := (Lib.cell_of_heap hh1 _).trans rfl
 have b0 : w1.cell? ⟨w.heap.size + 1, 0, none⟩ = some (.int .i64 bk) := (Lib.cell_of_heap hh2 _).trans rfl
 have b1 : w1.cell? ⟨w.heap.size + 1, 1, none⟩ = some (.int .i64 bn) := (Lib.cell_of_heap hh2 _).trans rfl
 have b2 : w1.cell? ⟨w.heap.size + 1, 2, none⟩ = some (.string sb) := (Lib.cell_of_heap hh2 _).trans rfl
 have F1 : Hid (Fr w w1) := Fr.trans F0.out hf1
 clear hf1 hh1 hh2 hcc HL1 HL2 C1 C2 F0
 by_cases hc : c = 0
 ·
  subst hc
  rw [if_pos rfl] at HC
  go_wp2_with (go_at_call 133; refine (ho _).mono ?_)
  rintro e w2 ⟨rfl, hf2⟩
  have F2 : Hid _ := Fr.trans F1.out hf2
  clear hf2 ho
  go_wp2_with fail
  go_ret2
  rw [HC.out]
  exact ⟨rfl, F2.out⟩
 ·
  have q1 : ((c : Int) != 0) = true := by simp; omega
  have q2 : ¬ ((c : Int) = 0) := by omega
  rw [if_neg hc] at HC
  go_wp2_with fail
  go_ret2
  rw [HC.out]
  exact ⟨rfl, F1.out⟩
end Go.Proofs.YtbcfdhimngoplaaGreatDoor
namespace Go.Proofs.YtbcfdhimngoplaaGreatDoor
open Go.ChangeShapes Go.WideShapes Go.ChangeAt Go.RowKit
set_option linter.unusedVariables false
set_option linter.unusedSimpArgs false
theorem cell_fr {w w' : World} {g j : Nat} {x : Value} (f : Fr w w') (h : w.cell? ⟨g, j, none⟩ = some x) : w'.cell? ⟨g, j, none⟩ = some x :=
 (Below.cell f (World.block_lt_of_cell? _ _ h)).trans h
def LG.inn (v : VM.Vl) (l : List VM.Vl) : Int := LG.any (l.map (LG.sm v))
def LG.inErr (v : VM.Vl) (l : List VM.Vl) : Nat := if 40 < l.length then 2 else if VM.chk v ≠ 0 then VM.chk v else VM.chkAll l
def LG.in2 (v : VM.Vl) (l : List VM.Vl) : Int := if LG.inErr v l = 0 then LG.inn v l else 0
theorem any_take {v : VM.Vl} {l : List VM.Vl} {k : Nat} (hlt : k < l.length) : LG.any ((l.take (k + 1)).map (LG.sm v)) = LG.or (LG.any ((l.take k).map (LG.sm v))) (LG.sm v l[k]) := by
 rw [List.take_succ_eq_append_getElem hlt, List.map_append, LG.any_app]
 generalize LG.any ((l.take k).map (LG.sm v)) = s
 show LG.or s (LG.or (LG.sm v l[k]) 0) = _
 rw [LG.or_nought]
 show max (LG.kn s) (LG.kn (LG.kn _)) = _
 rw [LG.kn_kn]
 rfl
set_option maxRecDepth 100000 in
set_option maxHeartbeats 1000000 in
theorem In_any (a : VM.Vl) (v : Value) (l : List VM.Vl) (w : World) (hr : IsRow w v l) (hbig : l.length ≤ 9223372036854775807) :
  Calls Tryz.prog 115 #[a.val, v] w fun e w' => e = .returned (.tuple #[.int .i64 (LG.in2 a l), .int .i64 (LG.inErr a l)]) ∧ Fr w w' := by
 have hrow := hr
 obtain ⟨A, cap, rfl, hcs⟩ := hr
 have HC : Hid _ := hcs
 clear hcs
 have HE : Hid (LG.inErr a l = if 40 < l.length then 2 else if VM.chk a ≠ 0 then VM.chk a else VM.chkAll l) := rfl
 have HI : Hid (LG.in2 a l = if LG.inErr a l = 0 then LG.inn a l else 0) := rfl
 have HT : Hid (∀ k (hlt : k < l.length), LG.any ((l.take (k + 1)).map (LG.sm a)) = LG.or (LG.any ((l.take k).map (LG.sm a))) (LG.sm a l[k])) := fun k hlt => any_take hlt
 have hsame := fun b W => same_any a b W
 have hchk := fun W => check_any a.k a.n a.s W
 have hca := fun W (f : Fr w W) => lcheckAll_any _ l W (hrow.fr f) hbig
 have HN : Hid (LG.inn a l = LG.any (l.map (LG.sm a))) := rfl
 generalize LG.inErr a l = e at *
 generalize LG.in2 a l = r at *
 generalize LG.inn a l = y at *
 obtain ⟨ak, an, sa⟩ := a
 unfold VM.Vl.val at *
 simp only at hchk hsame ⊢
 by_cases h40 : 40 < l.length
 ·
  have h40' : (40 : Int) < (l.length : Int) := by omega
  have HE1 : Hid (e = 2) := HE.out.trans (if_pos h40)
  have HI1 : Hid (r = 0) := HI.out.trans (if_neg (by rw [HE1.out]; decide))
  clear HE HI HT hsame hchk hca hrow h40
  go_enter Tryz.func115, Tryz.ntmps115
  go_wp2_with fail
  go_ret2
  exact ⟨ret_two HI1.out.symm (by rw [HE1.out]; rfl), (Fr.refl _).alloc _⟩
 have h40' : (l.length : Int) ≤ 40 := by omega
 have HE1 : Hid _ := HE.out.trans (if_neg h40)
 clear HE h40
 generalize hcv : VM.chk ⟨ak, an, sa⟩ = c at *
 generalize hcl : VM.chkAll l = d at *
 have HS : Hid _ := hsame
 have HCA : Hid _ := hca
 clear hsame hca hcv hcl hrow
 by_cases hc0 : c = 0
 ·
  subst hc0
  have HE2 : Hid (e = d) := HE1.out.trans (if_neg (by simp))
  clear HE1
  go_enter Tryz.func115, Tryz.ntmps115
  go_wp2_with (go_at_call 75; refine (hchk _).mono ?_)
  rintro _ w1 ⟨rfl, hf1⟩
  have hbx : Fr w w1 := ((Fr.refl w).alloc _).trans hf1
  have hcc := HCA.out w1 hbx
  have b0 : w1.cell? ⟨w.heap.size, 0, none⟩ = some (.int .i64 ak) := cell_fr hf1 (by simp [go_sem])
  have b1 : w1.cell? ⟨w.heap.size, 1, none⟩ = some (.int .i64 an) := cell_fr hf1 (by simp [go_sem])
  have b2 : w1.cell? ⟨w.heap.size, 2, none⟩ = some (.string sa) := cell_fr hf1 (by simp [go_sem])
  have HB : Hid _ := hbx
  have K0 : Hid _ := b0
  have K1 : Hid _ := b1
  have K2 : Hid _ := b2
  clear hf1 hbx HCA b0 b1 b2 hchk
  go_wp2_with (go_at_call 132; refine hcc.mono ?_)
  rintro _ w2 ⟨rfl, hf2⟩
  have HF2 : Hid _ := Fr.trans HB.out hf2
  have HG : Hid _ := hf2
  clear hf2 hcc HB
  by_cases hd : d = 0
  ·
   subst hd
   have HI1 : Hid (r = y) := HI.out.trans (if_pos HE2.out)
   clear HI
   go_wp2_with fail
   go_loopw [8, 26] (fun sv iv wr => ∃ (k : Nat) (s : Int), k ≤ l.length ∧ iv = .int .i64 k ∧ sv = .int .i64 s ∧ s = LG.any ((l.take k).map (LG.sm ⟨ak, an, sa⟩)) ∧ Fr w2 wr) (fun _ iv _ => l.length - (intOf iv).toNat)
   case atStart => exact ⟨0, 0, Nat.zero_le _, rfl, rfl, rfl, Fr.refl _⟩
   case round =>
    obtain ⟨k, s, hk, rfl, rfl, hs, hfr⟩ := hrel
    have HFR : Hid _ := hfr
    by_cases hlt : k < l.length
    ·
     obtain ⟨b, o, rfl, hb, hc⟩ : ∃ b o, A = some ⟨b, o, none⟩ ∧ b < w.heap.size ∧ CellsAt w b o l := by
      rcases HC.out with h | h
      · subst h; simp at hlt
      · exact h
     obtain ⟨c0, c1, c2⟩ := (hc.fr hb (Fr.trans HF2.out hfr)) k hlt
     have b0 := cell_fr (Fr.trans HG.out hfr) K0.out
     have b1 := cell_fr (Fr.trans HG.out hfr) K1.out
     have b2 := cell_fr (Fr.trans HG.out hfr) K2.out
     have hstep := HT.out k hlt
     rw [← hs] at hstep
     have hsm := fun W => HS.out l[k] W
     generalize hx : l[k] = x at c0 c1 c2 hstep hsm
     have ho := fun W => or_any s (LG.sm ⟨ak, an, sa⟩ x) W
     generalize LG.sm ⟨ak, an, sa⟩ x = t at *
     generalize LG.or s t = q at *
     obtain ⟨xk, xn, xs⟩ := x
     simp only at c0 c1 c2 hsm
     have HST : Hid _ := hstep
     have HGB : Hid (b < w.heap.size) := hb
     have hgb : b ≠ w.heap.size := by omega
     have hgb2 : w.heap.size < wr.heap.size := World.block_lt_of_cell? _ _ b0
     clear hstep hs hx hc hfr hb
     go_wp2_with (go_at_call 133; refine (hsm _).mono ?_)
     rintro _ w3 ⟨rfl, hf3⟩
     have HF3 : Hid (Fr w2 w3) := Fr.trans (Fr.alloc HFR.out _) hf3
     clear hf3 c0 c1 c2 b0 b1 b2
     go_wp2_with (go_at_call 131; refine (ho _).mono ?_)
     rintro _ w4 ⟨rfl, rfl⟩
     go_wp2_with fail
     go_roundw
     case rel => exact ⟨k + 1, _, by omega, by go_num, rfl, HST.out.symm, HF3.out⟩
     case measure => simp [intOf]; omega
    ·
     obtain rfl : k = l.length := by omega
     rw [List.take_length] at hs
     have HSS : Hid _ := hs
     clear hs hfr
     go_wp2_with fail
     go_ret2
     exact ⟨ret_two (by rw [HI1.out, HN.out, HSS.out]) (by rw [HE2.out]; rfl), Fr.trans HF2.out HFR.out⟩
  ·
   have q1 : ((d : Int) != 0) = true := by simp; omega
   have q2 : ¬ ((d : Int) = 0) := by omega
   have HI1 : Hid (r = 0) := HI.out.trans (if_neg (by rw [HE2.out]; exact hd))
   clear HI
   go_wp2_with fail
   go_ret2
   exact ⟨ret_two HI1.out.symm (by rw [HE2.out]), HF2.out⟩
 ·
  have q1 : ((c : Int) != 0) = true := by simp; omega
  have q2 : ¬ ((c : Int) = 0) := by omega
  have HE2 : Hid (e = c) := HE1.out.trans (if_pos hc0)
  have HI1 : Hid (r = 0) := HI.out.trans (if_neg (by rw [HE2.out]; exact hc0))
  clear HE1 HI HCA
  go_enter Tryz.func115, Tryz.ntmps115
  go_wp2_with (go_at_call 75; refine (hchk _).mono ?_)
  rintro _ w1 ⟨rfl, hf1⟩
  have HB : Hid (Fr w w1) := ((Fr.refl w).alloc _).trans hf1
  clear hf1
  go_wp2_with fail
  go_ret2
  exact ⟨ret_two HI1.out.symm (by rw [HE2.out]), HB.out⟩
end Go.Proofs.YtbcfdhimngoplaaGreatDoor
namespace Go.Proofs.YtbcfdhimngoplaaGreatDoor
open Go.ChangeShapes Go.WideShapes Go.ChangeAt Go.RowKit
set_option linter.unusedVariables false
set_option linter.unusedSimpArgs false
def LG.bt (a b c : VM.Vl) : Int := LG.and (LG.not (LG.lt a b)) (LG.not (LG.lt c a))
def LG.bt2 (a b c : VM.Vl) : Int := if VM.chkAll [a, b, c] = 0 then LG.bt a b c else 0
set_option maxRecDepth 100000 in
set_option maxHeartbeats 2000000 in
theorem Between_any (a b c : VM.Vl) (w : World) :
  Calls Tryz.prog 116 #[a.val, b.val, c.val] w fun e w' => e = .returned (.tuple #[.int .i64 (LG.bt2 a b c), .int .i64 (VM.chkAll [a, b, c])]) ∧ Fr w w' := by
 have h1 := fun W => less_any a b W
 have h2 := fun W => less_any c a W
 have n1 := fun W => not_any (LG.lt a b) W
 have n2 := fun W => not_any (LG.lt c a) W
 have h3 := fun W => and_any (LG.not (LG.lt a b)) (LG.not (LG.lt c a)) W
 have HC : Hid (LG.bt2 a b c = if VM.chkAll [a, b, c] = 0 then LG.and (LG.not (LG.lt a b)) (LG.not (LG.lt c a)) else 0) := rfl
 have hca := fun v W hr => lcheckAll_any v [a, b, c] W hr (by simp)
 generalize LG.and (LG.not (LG.lt a b)) (LG.not (LG.lt c a)) = z at *
 generalize LG.not (LG.lt a b) = y1 at *
 generalize LG.not (LG.lt c a) = y2 at *
 generalize LG.lt a b = x1 at *
 generalize LG.lt c a = x2 at *
 generalize LG.bt2 a b c = r at *
 generalize VM.chkAll [a, b, c] = d at *
 obtain ⟨ak, an, sa⟩ := a
 obtain ⟨bk, bn, sb⟩ := b
 obtain ⟨ck, cn, sc⟩ := c
 unfold VM.Vl.val at *
 simp only at h1 h2 ⊢
 have hr2 : IsRow ((((w.alloc (.cells #[.int .i64 ak, .int .i64 an, .string sa] 56)).alloc (.cells #[.int .i64 bk, .int .i64 bn, .string sb] 56)).alloc (.cells #[.int .i64 ck, .int .i64 cn, .string sc] 56)).alloc (.cells #[.int .i64 ak, .int .i64 an, .string sa, .int .i64 bk, .int .i64 bn, .string sb, .int .i64 ck, .int .i64 cn, .string sc] 56)) (.slice (some ⟨w.heap.size + 1 + 1 + 1, 0, none⟩) 3 3) [⟨ak, an, sa⟩, ⟨bk, bn, sb⟩, ⟨ck, cn, sc⟩] := by
  refine ⟨_, 3, rfl, Or.inr ⟨w.heap.size + 1 + 1 + 1, 0, rfl, by simp, ?_⟩⟩
  intro i hi
  match i, hi with
  | 0, _ => simp [go_sem]
  | 1, _ => simp [go_sem]
  | 2, _ => simp [go_sem]
 have hcc := hca _ _ hr2
 clear hr2 hca
 go_enter Tryz.func116, Tryz.ntmps116
 go_wp2_with (go_at_call 132; refine hcc.mono ?_)
 rintro _ w1 ⟨rfl, hf1⟩
 clear hcc
 have a0 : w1.cell? ⟨w.heap.size, 0, none⟩ = some (.int .i64 ak) := cell_fr hf1 (by simp [go_sem])
 have a1 : w1.cell? ⟨w.heap.size, 1, none⟩ = some (.int .i64 an) := cell_fr hf1 (by simp [go_sem])
 have a2 : w1.cell? ⟨w.heap.size, 2, none⟩ = some (.string sa) := cell_fr hf1 (by simp [go_sem])
 have b0 : w1.cell? ⟨w.heap.size + 1, 0, none⟩ = some (.int .i64 bk) := cell_fr hf1 (by simp [go_sem])
 have b1 : w1.cell? ⟨w.heap.size + 1, 1, none⟩ = some (.int .i64 bn) := cell_fr hf1 (by simp [go_sem])
 have b2 : w1.cell? ⟨w.heap.size + 1, 2, none⟩ = some (.string sb) := cell_fr hf1 (by simp [go_sem])
 have c0 : w1.cell? ⟨w.heap.size + 1 + 1, 0, none⟩ = some (.int .i64 ck) := cell_fr hf1 (by simp [go_sem])
 have c1 : w1.cell? ⟨w.heap.size + 1 + 1, 1, none⟩ = some (.int .i64 cn) := cell_fr hf1 (by simp [go_sem])
 have c2 : w1.cell? ⟨w.heap.size + 1 + 1, 2, none⟩ = some (.string sc) := cell_fr hf1 (by simp [go_sem])
 have F1 : Hid (Fr w w1) := Fr.trans (Fr.alloc (Fr.alloc (Fr.alloc (Fr.alloc (Fr.refl w) _) _) _) _) hf1
 clear hf1
 by_cases hd : d = 0
 ·
  subst hd
  rw [if_pos rfl] at HC
  go_wp2_with fail
  go_region_held3 (fun W' => W'.cell? ⟨w.heap.size, 0, none⟩ = some (.int .i64 ak) ∧ W'.cell? ⟨w.heap.size, 1, none⟩ = some (.int .i64 an) ∧ W'.cell? ⟨w.heap.size, 2, none⟩ = some (.string sa) ∧ W'.cell? ⟨w.heap.size + 1, 0, none⟩ = some (.int .i64 bk) ∧ W'.cell? ⟨w.heap.size + 1, 1, none⟩ = some (.int .i64 bn) ∧ W'.cell? ⟨w.heap.size + 1, 2, none⟩ = some (.string sb) ∧ W'.cell? ⟨w.heap.size + 1 + 1, 0, none⟩ = some (.int .i64 ck) ∧ W'.cell? ⟨w.heap.size + 1 + 1, 1, none⟩ = some (.int .i64 cn) ∧ W'.cell? ⟨w.heap.size + 1 + 1, 2, none⟩ = some (.string sc)) (first | assumption | (refine ⟨?_, ?_, ?_, ?_, ?_, ?_, ?_, ?_, ?_⟩ <;> first | assumption | exact cell_fr (by assumption) (by assumption) | exact cell_fr (by assumption) (cell_fr (by assumption) (by assumption)))) (first
   | (go_at_call 134; refine (h1 _).mono ?_; rintro e w2 ⟨rfl, hf2⟩)
   | (go_at_call 134; refine (h2 _).mono ?_; rintro e w3 ⟨rfl, hf3⟩)
   | (go_at_call 111; refine (n1 _).mono ?_; rintro e w4 ⟨rfl, rfl⟩)
   | (go_at_call 111; refine (n2 _).mono ?_; rintro e w5 ⟨rfl, rfl⟩)
   | (go_at_call 130; refine (h3 _).mono ?_; rintro e w6 ⟨rfl, rfl⟩))
  all_goals
   go_wp2_with fail
   go_ret2
   rw [HC.out]
   exact ⟨rfl, by repeat (first | exact Fr.refl _ | assumption | exact F1.out | exact Fr.drew F1.out | refine Fr.trans ?_ (by assumption))⟩
 ·
  have q1 : ((d : Int) != 0) = true := by simp; omega
  have q2 : ¬ ((d : Int) = 0) := by omega
  rw [if_neg hd] at HC
  go_wp2_with fail
  go_ret2
  rw [HC.out]
  exact ⟨rfl, F1.out⟩
end Go.Proofs.YtbcfdhimngoplaaGreatDoor
