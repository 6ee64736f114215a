/-
  What belongs together: VMath, Val, RowP, CMath, Cmp, Ord.
-/
import Derived.Test.YtbcfdhimngoplaaGreatDoorBase
import Derived.Lib.Bytealg
import Derived.LoopN
namespace Go.Proofs.YtbcfdhimngoplaaGreatDoor
namespace VM
structure Vl where
 k : Int
 n : Int
 s : ByteArray
def chk (x : Vl) : Nat :=
 if x.k < 0 ∨ 3 < x.k then 7
 else if (x.n ≠ 0 ∧ x.k ≠ 1) ∨ (x.s.size ≠ 0 ∧ ¬ (x.k = 2 ∨ x.k = 3)) then 1
 else if 16 < x.s.size then 2 else 0
def chkAll : List Vl → Nat
 | [] => 0
 | x :: l => if chk x = 0 then chkAll l else chk x
def chkRow (l : List Vl) : Nat := if 8 < l.length then 2 else chkAll l
end VM
end Go.Proofs.YtbcfdhimngoplaaGreatDoor
namespace Go.Proofs.YtbcfdhimngoplaaGreatDoor
open Go.ChangeShapes Go.WideShapes Go.ChangeAt Go.RowKit
set_option linter.unusedVariables false
def VM.Vl.val (x : VM.Vl) : Value := .agg #[.int .i64 x.k, .int .i64 x.n, .string x.s]
theorem toList_nil (s : ByteArray) : s.toList = [] ↔ s.size = 0 := by
 rw [ByteArray.toList_eq]
 constructor
 ·
  intro h
  have := congrArg List.length h
  rwa [Array.length_toList] at this
 ·
  intro h
  exact List.length_eq_zero_iff.1 (by rw [Array.length_toList]; exact h)
set_option linter.unusedSimpArgs false
set_option maxRecDepth 100000 in
set_option maxHeartbeats 1000000 in
theorem check_any (k n : Int) (s : ByteArray) (w : World) :
  Calls Tryz.prog 75 #[.agg #[.int .i64 k, .int .i64 n, .string s]] w fun e w' => e = .returned (.int .i64 (VM.chk ⟨k, n, s⟩)) ∧ Fr w w' := by
 have hk : k < 0 ∨ k = 0 ∨ k = 1 ∨ k = 2 ∨ k = 3 ∨ 3 < k := by omega
 by_cases hz : s.size = 0
 ·
  obtain rfl : s = ⟨#[]⟩ := by
   have := (toList_nil s).2 hz
   rw [ByteArray.toList_eq] at this
   cases s
   simp_all
  clear hz
  rcases hk with hk | rfl | rfl | rfl | rfl | hk
  all_goals
   go_enter Tryz.func75, Tryz.ntmps75
   go_wp2
   all_goals
    go_ret
    refine ⟨ret_int ?_, (Fr.refl _).alloc _⟩
    try simp only [Bool.or_eq_true, Bool.and_eq_true, beq_iff_eq, bne_iff_ne, decide_eq_true_eq, Bool.not_eq_true', Bool.or_eq_false_iff, beq_eq_false_iff_ne] at *
    unfold VM.chk
    simp only [show (⟨#[]⟩ : ByteArray).size = 0 from rfl]
    repeat' split
    all_goals first | rfl | omega | (exfalso; simp_all)
 ·
  have h1 : (s.toList == []) = false := by simp only [beq_eq_false_iff_ne, ne_eq, toList_nil]; exact hz
  have h2 : (s.toList != []) = true := by simp only [bne_iff_ne, ne_eq, toList_nil]; exact hz
  have h3 : ¬ s.toList = [] := by rw [toList_nil]; exact hz
  rcases hk with hk | rfl | rfl | rfl | rfl | hk
  all_goals
   go_enter Tryz.func75, Tryz.ntmps75
   go_wp2
   all_goals
    clear h1 h2 h3
    go_ret
    refine ⟨ret_int ?_, (Fr.refl _).alloc _⟩
    try simp only [Bool.or_eq_true, Bool.and_eq_true, beq_iff_eq, bne_iff_ne, decide_eq_true_eq, Bool.not_eq_true', Bool.or_eq_false_iff, beq_eq_false_iff_ne, toList_nil] at *
    unfold VM.chk
    simp only
    repeat' split
    all_goals first | rfl | omega | (exfalso; simp_all)
end Go.Proofs.YtbcfdhimngoplaaGreatDoor
namespace Go.Proofs.YtbcfdhimngoplaaGreatDoor
open Go.ChangeShapes Go.WideShapes Go.ChangeAt Go.RowKit
set_option linter.unusedVariables false
def CellsAt (w : World) (b o : Nat) (l : List VM.Vl) : Prop :=
 ∀ i (h : i < l.length), w.cell? ⟨b, o + i * 3, none⟩ = some (.int .i64 l[i].k) ∧ w.cell? ⟨b, o + i * 3 + 1, none⟩ = some (.int .i64 l[i].n) ∧ w.cell? ⟨b, o + i * 3 + 2, none⟩ = some (.string l[i].s)
def IsRow (w : World) (v : Value) (l : List VM.Vl) : Prop :=
 ∃ (a : Option Addr) (cap : Nat), v = .slice a l.length cap ∧ (l = [] ∨ ∃ b o, a = some ⟨b, o, none⟩ ∧ b < w.heap.size ∧ CellsAt w b o l)
theorem CellsAt.fr {w w' : World} {b o : Nat} {l : List VM.Vl} (h : CellsAt w b o l) (hb : b < w.heap.size) (f : Fr w w') : CellsAt w' b o l := by
 intro i hi
 obtain ⟨h0, h1, h2⟩ := h i hi
 exact ⟨(Below.cell f hb).trans h0, (Below.cell f hb).trans h1, (Below.cell f hb).trans h2⟩
theorem IsRow.fr {w w' : World} {v : Value} {l : List VM.Vl} (h : IsRow w v l) (f : Fr w w') : IsRow w' v l := by
 obtain ⟨a, cap, rfl, h0 | ⟨b, o, rfl, hb, hc⟩⟩ := h
 · exact ⟨a, cap, rfl, Or.inl h0⟩
 · exact ⟨_, cap, rfl, Or.inr ⟨b, o, rfl, Nat.lt_of_lt_of_le hb f.size, hc.fr hb f⟩⟩
end Go.Proofs.YtbcfdhimngoplaaGreatDoor
namespace Go.Proofs.YtbcfdhimngoplaaGreatDoor
namespace CM
open VM
def ci (x y : Int) : Int := if x < y then -1 else if y < x then 1 else 0
def or3 (x y z : Int) : Int := if x ≠ 0 then x else if y ≠ 0 then y else z
def ord (a b : Vl) : Int := or3 (ci a.k b.k) (ci a.n b.n) (Lib.compareBytes a.s.data.toList b.s.data.toList)
def cmp (a b : Vl) : Int := if chkAll [a, b] = 0 then ord a b else 0
def rows : List Vl → List Vl → Int
 | [], [] => 0
 | [], _ :: _ => -1
 | _ :: _, [] => 1
 | a :: s, b :: t => if cmp a b ≠ 0 then cmp a b else rows s t
end CM
end Go.Proofs.YtbcfdhimngoplaaGreatDoor
namespace Go.Proofs.YtbcfdhimngoplaaGreatDoor
open Go.ChangeShapes Go.WideShapes Go.ChangeAt Go.RowKit
set_option linter.unusedVariables false
set_option linter.unusedSimpArgs false
set_option maxRecDepth 100000 in
set_option maxHeartbeats 1000000 in
theorem cmpInt_any (x y : Int) (w : World) :
  Calls Tryz.prog 93 #[.int .i64 x, .int .i64 y] w fun e w' => e = .returned (.int .i64 (CM.ci x y)) ∧ w' = w := by
 have h : x < y ∨ x = y ∨ y < x := by omega
 rcases h with h | rfl | h
 all_goals
  go_enter Tryz.func93, Tryz.ntmps93
  go_wp2
  go_ret
  refine ⟨ret_int ?_, rfl⟩
  unfold CM.ci
  repeat' split
  all_goals first | rfl | omega
set_option maxRecDepth 100000 in
set_option maxHeartbeats 1000000 in
theorem cmpI64_any (x y : Int) (w : World) :
  Calls Tryz.prog 94 #[.int .i64 x, .int .i64 y] w fun e w' => e = .returned (.int .i64 (CM.ci x y)) ∧ w' = w := by
 have h : x < y ∨ x = y ∨ y < x := by omega
 rcases h with h | rfl | h
 all_goals
  go_enter Tryz.func94, Tryz.ntmps94
  go_wp2
  go_ret
  refine ⟨ret_int ?_, rfl⟩
  unfold CM.ci
  repeat' split
  all_goals first | rfl | omega
set_option maxRecDepth 100000 in
set_option maxHeartbeats 1000000 in
theorem cmpOr_any (g : Nat) (x y z : Int) (w : World) (h0 : w.cell? ⟨g, 0, none⟩ = some (.int .i64 x)) (h1 : w.cell? ⟨g, 1, none⟩ = some (.int .i64 y)) (h2 : w.cell? ⟨g, 2, none⟩ = some (.int .i64 z)) :
  Calls Tryz.prog 92 #[.slice (some ⟨g, 0, none⟩) 3 3] w fun e w' => e = .returned (.int .i64 (CM.or3 x y z)) ∧ w' = w := by
 go_enter Tryz.func92, Tryz.ntmps92
 go_wp2
 refine wp_loop_rounds 4 ?_
 by_cases hx : x = 0
 ·
  subst hx
  by_cases hy : y = 0
  ·
   subst hy
   by_cases hz : z = 0
   ·
    subst hz
    rw [rounds_succ]; go_wp2
    rw [rounds_succ]; go_wp2
    rw [rounds_succ]; go_wp2
    rw [rounds_succ]; go_wp2
    go_ret
    exact ⟨rfl, rfl⟩
   ·
    have q : (z != 0) = true := by simp [hz]
    rw [rounds_succ]; go_wp2
    rw [rounds_succ]; go_wp2
    rw [rounds_succ]; go_wp2
    go_ret
    exact ⟨rfl, rfl⟩
  ·
   have q : (y != 0) = true := by simp [hy]
   rw [rounds_succ]; go_wp2
   rw [rounds_succ]; go_wp2
   go_ret
   refine ⟨ret_int ?_, rfl⟩
   unfold CM.or3
   rw [if_neg (by simp), if_pos hy]
 ·
  have q : (x != 0) = true := by simp [hx]
  rw [rounds_succ]; go_wp2
  go_ret
  refine ⟨ret_int ?_, rfl⟩
  unfold CM.or3
  rw [if_pos hx]
theorem k_alloc {W : World} {g j : Nat} {x : Value} (h : W.cell? ⟨g, j, none⟩ = some x) (o : Obj) : (W.alloc o).cell? ⟨g, j, none⟩ = some x := by
 have hb : g < W.heap.size := World.block_lt_of_cell? _ _ h
 exact (World.cell?_of_block (a := ⟨g, j, none⟩) (Below.heap_alloc W o g hb)).trans h
end Go.Proofs.YtbcfdhimngoplaaGreatDoor
namespace Go.Proofs.YtbcfdhimngoplaaGreatDoor
open Go.ChangeShapes Go.WideShapes Go.ChangeAt Go.RowKit
set_option linter.unusedVariables false
set_option linter.unusedSimpArgs false
set_option maxRecDepth 100000 in
set_option maxHeartbeats 4000000 in
theorem order_any (a b : VM.Vl) (w : World) :
  Calls Tryz.prog 79 #[a.val, b.val] w fun e w' => e = .returned (.int .i64 (CM.ord a b)) ∧ Fr w w' := by
 obtain ⟨ak, an, sa⟩ := a
 obtain ⟨bk, bn, sb⟩ := b
 have h1 := fun W => cmpInt_any ak bk W
 have h2 := fun W => cmpI64_any an bn W
 have h3 := fun W => Tryz.strings_Compare sa sb W
 have HO : Hid (CM.ord ⟨ak, an, sa⟩ ⟨bk, bn, sb⟩ = CM.or3 (CM.ci ak bk) (CM.ci an bn) (Lib.compareBytes sa.data.toList sb.data.toList)) := rfl
 unfold VM.Vl.val
 simp only
 rw [HO.out]
 generalize CM.ci ak bk = x at *
 generalize CM.ci an bn = y at *
 generalize Lib.compareBytes sa.data.toList sb.data.toList = z at *
 clear HO
 go_enter Tryz.func79, Tryz.ntmps79
 go_wp2_with fail
 have f0 : Fr w ((w.alloc (.cells #[.int .i64 ak, .int .i64 an, .string sa] 56)).alloc (.cells #[.int .i64 bk, .int .i64 bn, .string sb] 56)) := ((Fr.refl w).alloc _).alloc _
 have c1 : ((w.alloc (.cells #[.int .i64 ak, .int .i64 an, .string sa] 56)).alloc (.cells #[.int .i64 bk, .int .i64 bn, .string sb] 56)).heap[w.heap.size]? = some (.cells #[.int .i64 ak, .int .i64 an, .string sa] 56 (0, 0)) := by
  rw [Below.heap_alloc _ _ _ (by simp)]
  show (w.heap.push _)[w.heap.size]? = _
  rw [Array.getElem?_push_size]
 have c2 : ((w.alloc (.cells #[.int .i64 ak, .int .i64 an, .string sa] 56)).alloc (.cells #[.int .i64 bk, .int .i64 bn, .string sb] 56)).heap[w.heap.size + 1]? = some (.cells #[.int .i64 bk, .int .i64 bn, .string sb] 56 (0, 0)) := by
  show ((w.alloc _).heap.push _)[w.heap.size + 1]? = _
  rw [show w.heap.size + 1 = (w.alloc (.cells #[.int .i64 ak, .int .i64 an, .string sa] 56)).heap.size by simp, Array.getElem?_push_size]
 generalize (w.alloc (.cells #[.int .i64 ak, .int .i64 an, .string sa] 56)).alloc (.cells #[.int .i64 bk, .int .i64 bn, .string sb] 56) = W at *
 generalize hg1 : w.heap.size = g1 at *
 have a0 : W.cell? ⟨g1, 0, none⟩ = some (.int .i64 ak) := (Lib.cell_of_heap c1 _).trans rfl
 have a1 : W.cell? ⟨g1, 1, none⟩ = some (.int .i64 an) := (Lib.cell_of_heap c1 _).trans rfl
 have a2 : W.cell? ⟨g1, 2, none⟩ = some (.string sa) := (Lib.cell_of_heap c1 _).trans rfl
 have b0 : W.cell? ⟨g1 + 1, 0, none⟩ = some (.int .i64 bk) := (Lib.cell_of_heap c2 _).trans rfl
 have b1 : W.cell? ⟨g1 + 1, 1, none⟩ = some (.int .i64 bn) := (Lib.cell_of_heap c2 _).trans rfl
 have b2 : W.cell? ⟨g1 + 1, 2, none⟩ = some (.string sb) := (Lib.cell_of_heap c2 _).trans rfl
 have F0 : Hid _ := f0
 have G1 : Hid _ := hg1
 clear c1 c2 f0 hg1
 go_region_held3 (fun W' => W'.cell? ⟨g1, 0, none⟩ = some (.int .i64 ak) ∧ W'.cell? ⟨g1, 1, none⟩ = some (.int .i64 an) ∧ W'.cell? ⟨g1, 2, none⟩ = some (.string sa) ∧ W'.cell? ⟨g1 + 1, 0, none⟩ = some (.int .i64 bk) ∧ W'.cell? ⟨g1 + 1, 1, none⟩ = some (.int .i64 bn) ∧ W'.cell? ⟨g1 + 1, 2, none⟩ = some (.string sb)) (first | assumption | (refine ⟨?_, ?_, ?_, ?_, ?_, ?_⟩ <;> first | assumption | exact k_alloc (by assumption) _)) (first
  | (go_at_call 93; refine (h1 _).mono ?_; rintro e w1 ⟨rfl, rfl⟩)
  | (go_at_call 94; refine (h2 _).mono ?_; rintro e w2 ⟨rfl, rfl⟩)
  | (go_at_call 95; refine (h3 _).mono ?_; rintro e w3 ⟨rfl, rfl⟩)
  | (go_at_call 92; refine (cmpOr_any _ x y z _ (by simp [go_sem]) (by simp [go_sem]) (by simp [go_sem])).mono ?_; rintro e w4 ⟨rfl, rfl⟩))
 all_goals
  go_wp2_with fail
  go_ret
  exact ⟨rfl, (Fr.alloc F0.out _).drew⟩
set_option maxRecDepth 100000 in
set_option maxHeartbeats 1000000 in
theorem checkAll_any (v : Value) (l : List VM.Vl) (w : World) (hr : IsRow w v l) (hbig : l.length ≤ 9223372036854775807) :
  Calls Tryz.prog 78 #[v] w fun e w' => e = .returned (.int .i64 (VM.chkAll l)) ∧ Fr w w' := by
 obtain ⟨a, cap, rfl, hcs⟩ := hr
 have HC : Hid _ := hcs
 clear hcs
 go_enter Tryz.func78, Tryz.ntmps78
 go_wp2_with fail
 go_loopw [8] (fun iv wr => ∃ i : Nat, iv = .int .i64 i ∧ i ≤ l.length ∧ VM.chkAll l = VM.chkAll (l.drop i) ∧ Fr w wr) (fun iv _ => l.length - (intOf iv).toNat)
 case atStart => exact ⟨0, rfl, Nat.zero_le _, rfl, Fr.refl _⟩
 case round =>
  obtain ⟨i, rfl, hi, hall, hfr⟩ := hrel
  by_cases hlt : i < l.length
  ·
   obtain ⟨b, o, rfl, hb, hc⟩ : ∃ b o, a = some ⟨b, o, none⟩ ∧ b < w.heap.size ∧ CellsAt w b o l := by
    rcases HC.out with h | h
    · subst h; simp at hlt
    · exact h
   obtain ⟨c0, c1, c2⟩ := (hc.fr hb hfr) i hlt
   have HA : Hid _ := hall
   have HF : Hid _ := hfr
   clear hall hfr hc
   have hchk := fun W => check_any l[i].k l[i].n l[i].s W
   generalize hx : l[i] = x at c0 c1 c2 hchk
   obtain ⟨k, n, s⟩ := x
   simp only at c0 c1 c2 hchk
   have HX : Hid _ := hx
   clear hx
   go_wp2_with (go_at_call 75; refine (hchk _).mono ?_)
   rintro e w1 ⟨rfl, hf1⟩
   have hfr' : Fr w w1 := (Fr.alloc HF.out _).trans hf1
   have hdrop : VM.chkAll (l.drop i) = if VM.chk ⟨k, n, s⟩ = 0 then VM.chkAll (l.drop (i + 1)) else VM.chk ⟨k, n, s⟩ := by
    rw [List.drop_eq_getElem_cons hlt, HX.out]
    rfl
   have HD : Hid _ := HA.out.trans hdrop
   clear hdrop HA HF hf1 c0 c1 c2
   by_cases he : VM.chk ⟨k, n, s⟩ = 0
   ·
    have HD' : Hid _ := HD.out.trans (if_pos he)
    clear HD
    rw [he]
    go_wp2_with fail
    go_roundw
    case rel => exact ⟨i + 1, by go_num, by omega, HD'.out, hfr'⟩
    case measure => simp [intOf]; omega
   ·
    have HD' : Hid _ := HD.out.trans (if_neg he)
    clear HD
    generalize hy : VM.chk ⟨k, n, s⟩ = y at *
    have hne : ((y : Int) != 0) = true := by simp; omega
    have hne2 : ¬ ((y : Int) = 0) := by omega
    go_wp2_with fail
    go_ret
    refine ⟨ret_int ?_, hfr'⟩
    rw [HD'.out]
  ·
   have hnil : VM.chkAll l = 0 := by
    rw [hall, List.drop_of_length_le (by omega)]
    rfl
   have HN : Hid _ := hnil
   have hi' : i = l.length := by omega
   clear hall hnil
   subst hi'
   go_wp2_with fail
   go_ret
   refine ⟨ret_int ?_, hfr⟩
   rw [HN.out]
   rfl
set_option maxRecDepth 100000 in
set_option maxHeartbeats 1000000 in
theorem valCompare_any (a b : VM.Vl) (w : World) :
  Calls Tryz.prog 60 #[a.val, b.val] w fun e w' => e = .returned (.tuple #[.int .i64 (CM.cmp a b), .int .i64 (VM.chkAll [a, b])]) ∧ Fr w w' := by
 have ho := fun W => order_any a b W
 have HC : Hid (CM.cmp a b = if VM.chkAll [a, b] = 0 then CM.ord a b else 0) := rfl
 generalize hA : CM.ord a b = o at *
 generalize hC : VM.chkAll [a, b] = c at *
 generalize CM.cmp a b = x at *
 have hca := fun v W hr => checkAll_any v [a, b] W hr (by simp)
 rw [hC] at hca
 obtain ⟨ak, an, sa⟩ := a
 obtain ⟨bk, bn, sb⟩ := b
 unfold VM.Vl.val at *
 simp only at ho ⊢
 have f0 : Fr w (((w.alloc (.cells #[.int .i64 ak, .int .i64 an, .string sa] 56)).alloc (.cells #[.int .i64 bk, .int .i64 bn, .string sb] 56)).alloc (.cells #[.int .i64 ak, .int .i64 an, .string sa, .int .i64 bk, .int .i64 bn, .string sb] 56)) := (((Fr.refl w).alloc _).alloc _).alloc _
 have F0 : Hid _ := f0
 clear f0 hA hC
 go_enter Tryz.func60, Tryz.ntmps60
 have hr2 : IsRow (((w.alloc (.cells #[.int .i64 ak, .int .i64 an, .string sa] 56)).alloc (.cells #[.int .i64 bk, .int .i64 bn, .string sb] 56)).alloc (.cells #[.int .i64 ak, .int .i64 an, .string sa, .int .i64 bk, .int .i64 bn, .string sb] 56)) (.slice (some ⟨w.heap.size + 1 + 1, 0, none⟩) 2 2) [⟨ak, an, sa⟩, ⟨bk, bn, sb⟩] := by
  refine ⟨_, 2, rfl, Or.inr ⟨w.heap.size + 1 + 1, 0, rfl, by simp, ?_⟩⟩
  intro i hi
  match i, hi with
  | 0, _ => simp [go_sem]
  | 1, _ => simp [go_sem]
 have hcc := hca _ _ hr2
 have c1 : (((w.alloc (.cells #[.int .i64 ak, .int .i64 an, .string sa] 56)).alloc (.cells #[.int .i64 bk, .int .i64 bn, .string sb] 56)).alloc (.cells #[.int .i64 ak, .int .i64 an, .string sa, .int .i64 bk, .int .i64 bn, .string sb] 56)).heap[w.heap.size]? = some (.cells #[.int .i64 ak, .int .i64 an, .string sa] 56 (0, 0)) := by
  rw [Below.heap_alloc _ _ _ (by simp; omega), Below.heap_alloc _ _ _ (by simp)]
  show (w.heap.push _)[w.heap.size]? = _
  rw [Array.getElem?_push_size]
 have c2 : (((w.alloc (.cells #[.int .i64 ak, .int .i64 an, .string sa] 56)).alloc (.cells #[.int .i64 bk, .int .i64 bn, .string sb] 56)).alloc (.cells #[.int .i64 ak, .int .i64 an, .string sa, .int .i64 bk, .int .i64 bn, .string sb] 56)).heap[w.heap.size + 1]? = some (.cells #[.int .i64 bk, .int .i64 bn, .string sb] 56 (0, 0)) := by
  rw [Below.heap_alloc _ _ _ (by simp)]
  show ((w.alloc _).heap.push _)[w.heap.size + 1]? = _
  rw [show w.heap.size + 1 = (w.alloc (.cells #[.int .i64 ak, .int .i64 an, .string sa] 56)).heap.size by simp, Array.getElem?_push_size]
 have hl1 := (Array.getElem?_eq_some_iff.1 c1).1
 have hl2 := (Array.getElem?_eq_some_iff.1 c2).1
 have C1 : Hid _ := c1
 have C2 : Hid _ := c2
 have HL1 : Hid _ := hl1
 have HL2 : Hid _ := hl2
 clear hr2 hca c1 c2 hl1 hl2
 go_wp2_with (go_at_call 78; refine hcc.mono ?_)
 rintro e w1 ⟨rfl, hf1⟩
 have hh1 := (hf1.block _ HL1.out).trans C1.out
 have hh2 := (hf1.block _ HL2.out).trans C2.out
 have a0 : w1.cell? ⟨w.heap.size, 0, none⟩ = some (.int .i64 ak) := (Lib.cell_of_heap hh1 _).trans rfl
 have a1 : w1.cell? ⟨w.heap.size, 1, none⟩ = some (.int .i64 an) := (Lib.cell_of_heap hh1 _).trans rfl
 have a2 : w1.cell? ⟨w.heap.size, 2, none⟩ = some (.string sa) := (Lib.cell_of_heap hh1 _).trans rfl
 have b0 : w1.cell? ⟨w.heap.size + 1, 0, none⟩ = some (.int .i64 bk) := (Lib.cell_of_heap hh2 _).trans rfl
 have b1 : w1.cell? ⟨w.heap.size + 1, 1, none⟩ = some (.int .i64 bn) := (Lib.cell_of_heap hh2 _).trans rfl
 have b2 : w1.cell? ⟨w.heap.size + 1, 2, none⟩ = some (.string sb) := (Lib.cell_of_heap hh2 _).trans rfl
 have F1 : Hid (Fr w w1) := Fr.trans F0.out hf1
 clear hf1 hh1 hh2 hcc HL1 HL2 C1 C2 F0
 by_cases hc : c = 0
 ·
  subst hc
  rw [if_pos rfl] at HC
  go_wp2_with (go_at_call 79; refine (ho _).mono ?_)
  rintro e w2 ⟨rfl, hf2⟩
  have F2 : Hid _ := Fr.trans F1.out hf2
  clear hf2 ho
  go_wp2_with fail
  go_ret2
  rw [HC.out]
  exact ⟨rfl, F2.out⟩
 ·
  have q1 : ((c : Int) != 0) = true := by simp; omega
  have q2 : ¬ ((c : Int) = 0) := by omega
  rw [if_neg hc] at HC
  go_wp2_with fail
  go_ret2
  rw [HC.out]
  exact ⟨rfl, F1.out⟩
end Go.Proofs.YtbcfdhimngoplaaGreatDoor
