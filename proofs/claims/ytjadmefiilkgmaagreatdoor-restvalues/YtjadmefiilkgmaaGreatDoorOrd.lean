/-
  What order, checkAll and Compare of package value answer.
-/
import Derived.Test.YtjadmefiilkgmaaGreatDoorCmp
namespace Go.Proofs.YtjadmefiilkgmaaGreatDoor
open Go.ChangeShapes Go.WideShapes Go.ChangeAt Go.RowKit
set_option linter.unusedVariables false
set_option linter.unusedSimpArgs false

set_option maxRecDepth 100000 in
set_option maxHeartbeats 4000000 in
theorem order_any (a b : VM.Vl) (w : World) :
    Calls Tryz.prog 31 #[a.val, b.val] w fun e w' => e = .returned (.int .i64 (CM.ord a b)) ∧ Fr w w' := by
  obtain ⟨ak, an, sa⟩ := a
  obtain ⟨bk, bn, sb⟩ := b
  have h1 := fun W => cmpInt_any ak bk W
  have h2 := fun W => cmpI64_any an bn W
  have h3 := fun W => Tryz.strings_Compare sa sb W
  have HO : Hid (CM.ord ⟨ak, an, sa⟩ ⟨bk, bn, sb⟩ = CM.or3 (CM.ci ak bk) (CM.ci an bn) (Lib.compareBytes sa.data.toList sb.data.toList)) := rfl
  unfold VM.Vl.val
  simp only
  rw [HO.out]
  generalize CM.ci ak bk = x at *
  generalize CM.ci an bn = y at *
  generalize Lib.compareBytes sa.data.toList sb.data.toList = z at *
  clear HO
  go_enter Tryz.func31, Tryz.ntmps31
  go_wp2_with fail
  have f0 : Fr w ((w.alloc (.cells #[.int .i64 ak, .int .i64 an, .string sa] 23)).alloc (.cells #[.int .i64 bk, .int .i64 bn, .string sb] 23)) := ((Fr.refl w).alloc _).alloc _
  have c1 : ((w.alloc (.cells #[.int .i64 ak, .int .i64 an, .string sa] 23)).alloc (.cells #[.int .i64 bk, .int .i64 bn, .string sb] 23)).heap[w.heap.size]? = some (.cells #[.int .i64 ak, .int .i64 an, .string sa] 23 (0, 0)) := by
    rw [Below.heap_alloc _ _ _ (by simp)]
    show (w.heap.push _)[w.heap.size]? = _
    rw [Array.getElem?_push_size]
  have c2 : ((w.alloc (.cells #[.int .i64 ak, .int .i64 an, .string sa] 23)).alloc (.cells #[.int .i64 bk, .int .i64 bn, .string sb] 23)).heap[w.heap.size + 1]? = some (.cells #[.int .i64 bk, .int .i64 bn, .string sb] 23 (0, 0)) := by
    show ((w.alloc _).heap.push _)[w.heap.size + 1]? = _
    rw [show w.heap.size + 1 = (w.alloc (.cells #[.int .i64 ak, .int .i64 an, .string sa] 23)).heap.size by simp, Array.getElem?_push_size]
  generalize (w.alloc (.cells #[.int .i64 ak, .int .i64 an, .string sa] 23)).alloc (.cells #[.int .i64 bk, .int .i64 bn, .string sb] 23) = W at *
  generalize hg1 : w.heap.size = g1 at *
  have a0 : W.cell? ⟨g1, 0, none⟩ = some (.int .i64 ak) := (Lib.cell_of_heap c1 _).trans rfl
  have a1 : W.cell? ⟨g1, 1, none⟩ = some (.int .i64 an) := (Lib.cell_of_heap c1 _).trans rfl
  have a2 : W.cell? ⟨g1, 2, none⟩ = some (.string sa) := (Lib.cell_of_heap c1 _).trans rfl
  have b0 : W.cell? ⟨g1 + 1, 0, none⟩ = some (.int .i64 bk) := (Lib.cell_of_heap c2 _).trans rfl
  have b1 : W.cell? ⟨g1 + 1, 1, none⟩ = some (.int .i64 bn) := (Lib.cell_of_heap c2 _).trans rfl
  have b2 : W.cell? ⟨g1 + 1, 2, none⟩ = some (.string sb) := (Lib.cell_of_heap c2 _).trans rfl
  have F0 : Hid _ := f0
  have G1 : Hid _ := hg1
  clear c1 c2 f0 hg1
  go_region_held3 (fun W' => W'.cell? ⟨g1, 0, none⟩ = some (.int .i64 ak) ∧ W'.cell? ⟨g1, 1, none⟩ = some (.int .i64 an) ∧ W'.cell? ⟨g1, 2, none⟩ = some (.string sa) ∧ W'.cell? ⟨g1 + 1, 0, none⟩ = some (.int .i64 bk) ∧ W'.cell? ⟨g1 + 1, 1, none⟩ = some (.int .i64 bn) ∧ W'.cell? ⟨g1 + 1, 2, none⟩ = some (.string sb)) (first | assumption | (refine ⟨?_, ?_, ?_, ?_, ?_, ?_⟩ <;> first | assumption | exact k_alloc (by assumption) _)) (first
    | (go_at_call 56; refine (h1 _).mono ?_; rintro e w1 ⟨rfl, rfl⟩)
    | (go_at_call 57; refine (h2 _).mono ?_; rintro e w2 ⟨rfl, rfl⟩)
    | (go_at_call 58; refine (h3 _).mono ?_; rintro e w3 ⟨rfl, rfl⟩)
    | (go_at_call 55; refine (cmpOr_any _ x y z _ (by simp [go_sem]) (by simp [go_sem]) (by simp [go_sem])).mono ?_; rintro e w4 ⟨rfl, rfl⟩))
  all_goals
    go_wp2_with fail
    go_ret
    exact ⟨rfl, (Fr.alloc F0.out _).drew⟩

set_option maxRecDepth 100000 in
set_option maxHeartbeats 1000000 in
theorem checkAll_any (v : Value) (l : List VM.Vl) (w : World) (hr : IsRow w v l) (hbig : l.length ≤ 9223372036854775807) :
    Calls Tryz.prog 30 #[v] w fun e w' => e = .returned (.int .i64 (VM.chkAll l)) ∧ Fr w w' := by
  obtain ⟨a, cap, rfl, hcs⟩ := hr
  have HC : Hid _ := hcs
  clear hcs
  go_enter Tryz.func30, Tryz.ntmps30
  go_wp2_with fail
  go_loopw [8] (fun iv wr => ∃ i : Nat, iv = .int .i64 i ∧ i ≤ l.length ∧ VM.chkAll l = VM.chkAll (l.drop i) ∧ Fr w wr) (fun iv _ => l.length - (intOf iv).toNat)
  case atStart => exact ⟨0, rfl, Nat.zero_le _, rfl, Fr.refl _⟩
  case round =>
    obtain ⟨i, rfl, hi, hall, hfr⟩ := hrel
    by_cases hlt : i < l.length
    · obtain ⟨b, o, rfl, hb, hc⟩ : ∃ b o, a = some ⟨b, o, none⟩ ∧ b < w.heap.size ∧ CellsAt w b o l := by
        rcases HC.out with h | h
        · subst h; simp at hlt
        · exact h
      obtain ⟨c0, c1, c2⟩ := (hc.fr hb hfr) i hlt
      have HA : Hid _ := hall
      have HF : Hid _ := hfr
      clear hall hfr hc
      have hchk := fun W => check_any l[i].k l[i].n l[i].s W
      generalize hx : l[i] = x at c0 c1 c2 hchk
      obtain ⟨k, n, s⟩ := x
      simp only at c0 c1 c2 hchk
      have HX : Hid _ := hx
      clear hx
      go_wp2_with (go_at_call 16; refine (hchk _).mono ?_)
      rintro e w1 ⟨rfl, hf1⟩
      have hfr' : Fr w w1 := (Fr.alloc HF.out _).trans hf1
      have hdrop : VM.chkAll (l.drop i) = if VM.chk ⟨k, n, s⟩ = 0 then VM.chkAll (l.drop (i + 1)) else VM.chk ⟨k, n, s⟩ := by
        rw [List.drop_eq_getElem_cons hlt, HX.out]
        rfl
      have HD : Hid _ := HA.out.trans hdrop
      clear hdrop HA HF hf1 c0 c1 c2
      by_cases he : VM.chk ⟨k, n, s⟩ = 0
      · have HD' : Hid _ := HD.out.trans (if_pos he)
        clear HD
        rw [he]
        go_wp2_with fail
        go_roundw
        case rel => exact ⟨i + 1, by go_num, by omega, HD'.out, hfr'⟩
        case measure => simp [intOf]; omega
      · have HD' : Hid _ := HD.out.trans (if_neg he)
        clear HD
        generalize hy : VM.chk ⟨k, n, s⟩ = y at *
        have hne : ((y : Int) != 0) = true := by simp; omega
        have hne2 : ¬ ((y : Int) = 0) := by omega
        go_wp2_with fail
        go_ret
        refine ⟨ret_int ?_, hfr'⟩
        rw [HD'.out]
    · have hnil : VM.chkAll l = 0 := by
        rw [hall, List.drop_of_length_le (by omega)]
        rfl
      have HN : Hid _ := hnil
      have hi' : i = l.length := by omega
      clear hall hnil
      subst hi'
      go_wp2_with fail
      go_ret
      refine ⟨ret_int ?_, hfr⟩
      rw [HN.out]
      rfl

set_option maxRecDepth 100000 in
set_option maxHeartbeats 1000000 in
theorem valCompare_any (a b : VM.Vl) (w : World) :
    Calls Tryz.prog 12 #[a.val, b.val] w fun e w' => e = .returned (.tuple #[.int .i64 (CM.cmp a b), .int .i64 (VM.chkAll [a, b])]) ∧ Fr w w' := by
  have ho := fun W => order_any a b W
  have HC : Hid (CM.cmp a b = if VM.chkAll [a, b] = 0 then CM.ord a b else 0) := rfl
  generalize hA : CM.ord a b = o at *
  generalize hC : VM.chkAll [a, b] = c at *
  generalize CM.cmp a b = x at *
  have hca := fun v W hr => checkAll_any v [a, b] W hr (by simp)
  rw [hC] at hca
  obtain ⟨ak, an, sa⟩ := a
  obtain ⟨bk, bn, sb⟩ := b
  unfold VM.Vl.val at *
  simp only at ho ⊢
  have f0 : Fr w (((w.alloc (.cells #[.int .i64 ak, .int .i64 an, .string sa] 23)).alloc (.cells #[.int .i64 bk, .int .i64 bn, .string sb] 23)).alloc (.cells #[.int .i64 ak, .int .i64 an, .string sa, .int .i64 bk, .int .i64 bn, .string sb] 23)) := (((Fr.refl w).alloc _).alloc _).alloc _
  have F0 : Hid _ := f0
  clear f0 hA hC
  go_enter Tryz.func12, Tryz.ntmps12
  have hr2 : IsRow (((w.alloc (.cells #[.int .i64 ak, .int .i64 an, .string sa] 23)).alloc (.cells #[.int .i64 bk, .int .i64 bn, .string sb] 23)).alloc (.cells #[.int .i64 ak, .int .i64 an, .string sa, .int .i64 bk, .int .i64 bn, .string sb] 23)) (.slice (some ⟨w.heap.size + 1 + 1, 0, none⟩) 2 2) [⟨ak, an, sa⟩, ⟨bk, bn, sb⟩] := by
    refine ⟨_, 2, rfl, Or.inr ⟨w.heap.size + 1 + 1, 0, rfl, by simp, ?_⟩⟩
    intro i hi
    match i, hi with
    | 0, _ => simp [go_sem]
    | 1, _ => simp [go_sem]
  have hcc := hca _ _ hr2
  have c1 : (((w.alloc (.cells #[.int .i64 ak, .int .i64 an, .string sa] 23)).alloc (.cells #[.int .i64 bk, .int .i64 bn, .string sb] 23)).alloc (.cells #[.int .i64 ak, .int .i64 an, .string sa, .int .i64 bk, .int .i64 bn, .string sb] 23)).heap[w.heap.size]? = some (.cells #[.int .i64 ak, .int .i64 an, .string sa] 23 (0, 0)) := by
    rw [Below.heap_alloc _ _ _ (by simp; omega), Below.heap_alloc _ _ _ (by simp)]
    show (w.heap.push _)[w.heap.size]? = _
    rw [Array.getElem?_push_size]
  have c2 : (((w.alloc (.cells #[.int .i64 ak, .int .i64 an, .string sa] 23)).alloc (.cells #[.int .i64 bk, .int .i64 bn, .string sb] 23)).alloc (.cells #[.int .i64 ak, .int .i64 an, .string sa, .int .i64 bk, .int .i64 bn, .string sb] 23)).heap[w.heap.size + 1]? = some (.cells #[.int .i64 bk, .int .i64 bn, .string sb] 23 (0, 0)) := by
    rw [Below.heap_alloc _ _ _ (by simp)]
    show ((w.alloc _).heap.push _)[w.heap.size + 1]? = _
    rw [show w.heap.size + 1 = (w.alloc (.cells #[.int .i64 ak, .int .i64 an, .string sa] 23)).heap.size by simp, Array.getElem?_push_size]
  have hl1 := (Array.getElem?_eq_some_iff.1 c1).1
  have hl2 := (Array.getElem?_eq_some_iff.1 c2).1
  have C1 : Hid _ := c1
  have C2 : Hid _ := c2
  have HL1 : Hid _ := hl1
  have HL2 : Hid _ := hl2
  clear hr2 hca c1 c2 hl1 hl2
  go_wp2_with (go_at_call 30; refine hcc.mono ?_)
  rintro e w1 ⟨rfl, hf1⟩
  have hh1 := (hf1.block _ HL1.out).trans C1.out
  have hh2 := (hf1.block _ HL2.out).trans C2.out
  have a0 : w1.cell? ⟨w.heap.size, 0, none⟩ = some (.int .i64 ak) := (Lib.cell_of_heap hh1 _).trans rfl
  have a1 : w1.cell? ⟨w.heap.size, 1, none⟩ = some (.int .i64 an) := (Lib.cell_of_heap hh1 _).trans rfl
  have a2 : w1.cell? ⟨w.heap.size, 2, none⟩ = some (.string sa) := (Lib.cell_of_heap hh1 _).trans rfl
  have b0 : w1.cell? ⟨w.heap.size + 1, 0, none⟩ = some (.int .i64 bk) := (Lib.cell_of_heap hh2 _).trans rfl
  have b1 : w1.cell? ⟨w.heap.size + 1, 1, none⟩ = some (.int .i64 bn) := (Lib.cell_of_heap hh2 _).trans rfl
  have b2 : w1.cell? ⟨w.heap.size + 1, 2, none⟩ = some (.string sb) := (Lib.cell_of_heap hh2 _).trans rfl
  have F1 : Hid (Fr w w1) := Fr.trans F0.out hf1
  clear hf1 hh1 hh2 hcc HL1 HL2 C1 C2 F0
  by_cases hc : c = 0
  · subst hc
    rw [if_pos rfl] at HC
    go_wp2_with (go_at_call 31; refine (ho _).mono ?_)
    rintro e w2 ⟨rfl, hf2⟩
    have F2 : Hid _ := Fr.trans F1.out hf2
    clear hf2 ho
    go_wp2_with fail
    go_ret2
    rw [HC.out]
    exact ⟨rfl, F2.out⟩
  · have q1 : ((c : Int) != 0) = true := by simp; omega
    have q2 : ¬ ((c : Int) = 0) := by omega
    rw [if_neg hc] at HC
    go_wp2_with fail
    go_ret2
    rw [HC.out]
    exact ⟨rfl, F1.out⟩

end Go.Proofs.YtjadmefiilkgmaaGreatDoor
