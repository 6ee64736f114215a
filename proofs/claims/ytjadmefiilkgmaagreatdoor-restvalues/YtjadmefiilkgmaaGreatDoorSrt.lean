/-
  Sort of package value.
-/
import Derived.Test.YtjadmefiilkgmaaGreatDoorOrd
import Derived.Test.YtjadmefiilkgmaaGreatDoorOrM
import Derived.Test.YtjadmefiilkgmaaGreatDoorSrtL
import Derived.Test.YtjadmefiilkgmaaGreatDoorAppRow
namespace Go.Proofs.YtjadmefiilkgmaaGreatDoor
open Go.ChangeShapes Go.WideShapes Go.ChangeAt Go.RowKit Go.Shelf Go.Sort Go.Lib
set_option linter.unusedVariables false
set_option linter.unusedSimpArgs false

set_option maxRecDepth 100000 in
set_option maxHeartbeats 4000000 in
theorem order_lays (a b : VM.Vl) (w : World) :
    Calls Tryz.prog 31 #[a.val, b.val] w fun e w' => e = .returned (.int .i64 (CM.ord a b)) ∧ ∃ q os', w' = Sort.grow (w.drewN q) os' := by
  obtain ⟨ak, an, sa⟩ := a
  obtain ⟨bk, bn, sb⟩ := b
  have h1 := fun W => cmpInt_any ak bk W
  have h2 := fun W => cmpI64_any an bn W
  have h3 := fun W => Tryz.strings_Compare sa sb W
  have HO : Hid (CM.ord ⟨ak, an, sa⟩ ⟨bk, bn, sb⟩ = CM.or3 (CM.ci ak bk) (CM.ci an bn) (Lib.compareBytes sa.data.toList sb.data.toList)) := rfl
  unfold VM.Vl.val
  simp only
  rw [HO.out]
  generalize CM.ci ak bk = x at *
  generalize CM.ci an bn = y at *
  generalize Lib.compareBytes sa.data.toList sb.data.toList = z at *
  clear HO
  go_enter Tryz.func31, Tryz.ntmps31
  go_wp2_with fail
  have f0 : ((w.alloc (.cells #[.int .i64 ak, .int .i64 an, .string sa] 23)).alloc (.cells #[.int .i64 bk, .int .i64 bn, .string sb] 23)) = Sort.grow w #[.cells #[.int .i64 ak, .int .i64 an, .string sa] 23, .cells #[.int .i64 bk, .int .i64 bn, .string sb] 23] := by rw [Sort.alloc_eq_grow, Sort.alloc_eq_grow, Sort.grow_grow]; rfl
  have c1 : ((w.alloc (.cells #[.int .i64 ak, .int .i64 an, .string sa] 23)).alloc (.cells #[.int .i64 bk, .int .i64 bn, .string sb] 23)).heap[w.heap.size]? = some (.cells #[.int .i64 ak, .int .i64 an, .string sa] 23 (0, 0)) := by
    rw [Below.heap_alloc _ _ _ (by simp)]
    show (w.heap.push _)[w.heap.size]? = _
    rw [Array.getElem?_push_size]
  have c2 : ((w.alloc (.cells #[.int .i64 ak, .int .i64 an, .string sa] 23)).alloc (.cells #[.int .i64 bk, .int .i64 bn, .string sb] 23)).heap[w.heap.size + 1]? = some (.cells #[.int .i64 bk, .int .i64 bn, .string sb] 23 (0, 0)) := by
    show ((w.alloc _).heap.push _)[w.heap.size + 1]? = _
    rw [show w.heap.size + 1 = (w.alloc (.cells #[.int .i64 ak, .int .i64 an, .string sa] 23)).heap.size by simp, Array.getElem?_push_size]
  generalize (w.alloc (.cells #[.int .i64 ak, .int .i64 an, .string sa] 23)).alloc (.cells #[.int .i64 bk, .int .i64 bn, .string sb] 23) = W at *
  generalize hg1 : w.heap.size = g1 at *
  have a0 : W.cell? ⟨g1, 0, none⟩ = some (.int .i64 ak) := (Lib.cell_of_heap c1 _).trans rfl
  have a1 : W.cell? ⟨g1, 1, none⟩ = some (.int .i64 an) := (Lib.cell_of_heap c1 _).trans rfl
  have a2 : W.cell? ⟨g1, 2, none⟩ = some (.string sa) := (Lib.cell_of_heap c1 _).trans rfl
  have b0 : W.cell? ⟨g1 + 1, 0, none⟩ = some (.int .i64 bk) := (Lib.cell_of_heap c2 _).trans rfl
  have b1 : W.cell? ⟨g1 + 1, 1, none⟩ = some (.int .i64 bn) := (Lib.cell_of_heap c2 _).trans rfl
  have b2 : W.cell? ⟨g1 + 1, 2, none⟩ = some (.string sb) := (Lib.cell_of_heap c2 _).trans rfl
  have F0 : Hid _ := f0
  have G1 : Hid _ := hg1
  clear c1 c2 f0 hg1
  go_region_held3 (fun W' => W'.cell? ⟨g1, 0, none⟩ = some (.int .i64 ak) ∧ W'.cell? ⟨g1, 1, none⟩ = some (.int .i64 an) ∧ W'.cell? ⟨g1, 2, none⟩ = some (.string sa) ∧ W'.cell? ⟨g1 + 1, 0, none⟩ = some (.int .i64 bk) ∧ W'.cell? ⟨g1 + 1, 1, none⟩ = some (.int .i64 bn) ∧ W'.cell? ⟨g1 + 1, 2, none⟩ = some (.string sb)) (first | assumption | (refine ⟨?_, ?_, ?_, ?_, ?_, ?_⟩ <;> first | assumption | exact k_alloc (by assumption) _)) (first
    | (go_at_call 56; refine (h1 _).mono ?_; rintro e w1 ⟨rfl, rfl⟩)
    | (go_at_call 57; refine (h2 _).mono ?_; rintro e w2 ⟨rfl, rfl⟩)
    | (go_at_call 58; refine (h3 _).mono ?_; rintro e w3 ⟨rfl, rfl⟩)
    | (go_at_call 55; refine (cmpOr_any _ x y z _ (by simp [go_sem]) (by simp [go_sem]) (by simp [go_sem])).mono ?_; rintro e w4 ⟨rfl, rfl⟩))
  all_goals
    go_wp2_with fail
    go_ret
    refine ⟨rfl, 1, #[.cells #[.int .i64 ak, .int .i64 an, .string sa] 23, .cells #[.int .i64 bk, .int .i64 bn, .string sb] 23] ++ #[.cells #[.int .i64 x, .int .i64 y, .int .i64 z] 3], ?_⟩
    rw [F0.out, Sort.alloc_eq_grow, ← Sort.grow_grow]
    rfl

instance : Inhabited VM.Vl := ⟨⟨0, 0, ⟨#[]⟩⟩⟩
def enc3 (x : VM.Vl) : List Value := [.int .i64 x.k, .int .i64 x.n, .string x.s]
theorem cmpLays (blk off size : Nat) (w : World) : CmpLays Tryz.prog 31 #[] enc3 3 CM.ord blk off size w :=
  fun _ _ _ _ x y => order_lays x y _
theorem swo : Sort.SWO (ltOf CM.ord) where
  irrefl x := by unfold ltOf; rw [(SM.ord_zero x x).2 rfl]; rfl
  trans x y z h1 h2 := by
    unfold ltOf at *
    simp only [decide_eq_true_eq] at *
    have h3 := SM.ord_trans x y z (by omega) (by omega)
    have h4 := SM.ord_both x y z (by omega) (by omega)
    omega
  ntrans x y z h1 h2 := by
    unfold ltOf at *
    simp only [decide_eq_false_iff_not] at *
    have a1 := SM.ord_anti x y
    have a2 := SM.ord_anti y z
    have a3 := SM.ord_anti x z
    have := SM.ord_trans z y x (by omega) (by omega)
    omega
theorem tot (x y : VM.Vl) (h1 : ltOf CM.ord x y = false) (h2 : ltOf CM.ord y x = false) : x = y := by
  unfold ltOf at *
  simp only [decide_eq_false_iff_not] at *
  have := SM.ord_anti x y
  exact (SM.ord_zero x y).1 (by omega)
theorem srt_by (l : List VM.Vl) : (l.mergeSort fun x y => !(ltOf CM.ord) y x) = SM.srt l := by
  unfold SM.srt
  congr 1
  funext x y
  unfold SM.le ltOf
  have := SM.ord_anti x y
  by_cases h : CM.ord x y ≤ 0
  · rw [decide_eq_true h, decide_eq_false (by omega)]; rfl
  · rw [decide_eq_false h, decide_eq_true (by omega)]; rfl
/-- nil, or in memory -/
def Ad (v : Value) : Prop := v = .slice none 0 0 ∨ ∃ b o n c, v = .slice (some ⟨b, o, none⟩) n c
/-- the error of a list -/
def sErr (l : List VM.Vl) : Nat := if 40 < l.length then 2 else VM.chkAll l
theorem flat_row (l : List VM.Vl) : ∀ t, t < l.length * 3 → (rowV l)[t]? = some (flatK enc3 3 l.toArray)[t]! := by
  intro t ht
  rw [get_flatK _ _ _ _ (by simpa using ht)]
  have hi : t / 3 < l.length := by omega
  obtain ⟨e0, e1, e2⟩ := rowV_get l (t / 3) hi
  have hx : l.toArray[t / 3]! = l[t / 3] := by simp [hi]
  rw [hx]
  have hm : (t = t / 3 * 3 ∧ t % 3 = 0) ∨ (t = t / 3 * 3 + 1 ∧ t % 3 = 1) ∨ (t = t / 3 * 3 + 2 ∧ t % 3 = 2) := by omega
  rcases hm with ⟨h1, h2⟩ | ⟨h1, h2⟩ | ⟨h1, h2⟩
  · rw [h2]; conv => lhs; rw [h1]
    rw [e0]; rfl
  · rw [h2]; conv => lhs; rw [h1]
    rw [e1]; rfl
  · rw [h2]; conv => lhs; rw [h1]
    rw [e2]; rfl
theorem holds_of {w : World} {g n : Nat} {cap : Nat} {cur : Array Value} {l : List VM.Vl} (hb : w.heap[g]? = some (.cells cur 23 (0, 0))) (ht : cur.toList.take (l.length * 3) = rowV l) : HoldsK enc3 3 w g 0 l.toArray := by
  intro j hj
  rw [size_flatK] at hj
  have hj2 : j < l.length * 3 := by simpa using hj
  refine ⟨?_, Lib.frozen_of_heap hb _⟩
  have h := flat_row l j hj2
  rw [← ht, List.getElem?_take, if_pos hj2, Array.getElem?_toList] at h
  rw [Nat.zero_add, Lib.cell_of_heap hb]
  exact h
theorem row_of_holds {w : World} {g : Nat} {cap : Nat} {l : List VM.Vl} (hb : g < w.heap.size) (h : HoldsK enc3 3 w g 0 l.toArray) : IsRow w (.slice (some ⟨g, 0, none⟩) l.length cap) l := by
  refine ⟨_, cap, rfl, Or.inr ⟨g, 0, rfl, hb, ?_⟩⟩
  intro i hi
  have key : ∀ t, t < l.length * 3 → w.cell? ⟨g, 0 + t, none⟩ = (rowV l)[t]? := by
    intro t ht
    rw [flat_row l t ht]
    exact (h t (by rw [size_flatK]; simpa using ht)).1
  obtain ⟨e0, e1, e2⟩ := rowV_get l i hi
  exact ⟨(key _ (by omega)).trans e0, (key (i * 3 + 1) (by omega)).trans e1, (key (i * 3 + 2) (by omega)).trans e2⟩
theorem sorted_below {B g n : Nat} {w0 w : World} {dk : Array VM.Vl} {os : Array Obj} (h : Below B w0 w) (hg : B ≤ g) (hB : B ≤ w.heap.size) : Below B w0 (sortWorldK enc3 3 w g 0 n dk os) := by
  refine h.trans ⟨rfl, rfl, rfl, size_sortWorldK_c _ _ _ _ _ _ _ _, fun k hk => ?_⟩
  show ((putRowK enc3 3 (Sort.ahead w n) g 0 dk).heap ++ os)[k]? = _
  have hs : (putRowK enc3 3 (Sort.ahead w n) g 0 dk).heap.size = w.heap.size := by simp [putRowK, putRow, mapBlock, Sort.ahead]
  rw [Array.getElem?_append_left (by rw [hs]; omega)]
  show (w.heap.modify g _)[k]? = _
  rw [Array.getElem?_modify, if_neg (by omega)]
end Go.Proofs.YtjadmefiilkgmaaGreatDoor
