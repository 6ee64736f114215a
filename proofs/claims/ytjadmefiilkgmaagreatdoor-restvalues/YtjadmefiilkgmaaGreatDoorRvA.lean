/-
  Sort: its answer is nil, or a row of its own that may be written.
-/
import Derived.Test.YtjadmefiilkgmaaGreatDoorSrtE
namespace Go.Proofs.YtjadmefiilkgmaaGreatDoor
open Go.ChangeShapes Go.WideShapes Go.ChangeAt Go.RowKit Go.Shelf Go.Sort Go.Lib
set_option linter.unusedVariables false
set_option linter.unusedSimpArgs false

/-- a block of values that may be written -/
def Blk (w : World) (g n : Nat) : Prop := ∃ cur, w.heap[g]? = some (.cells cur 23 (0, 0)) ∧ n * 3 ≤ cur.size
theorem sorted_blk {g n : Nat} {w : World} {cur : Array Value} {dk : Array VM.Vl} {os : Array Obj} (hb : w.heap[g]? = some (.cells cur 23 (0, 0))) : ∃ c, (sortWorldK enc3 3 w g 0 n dk os).heap[g]? = some (.cells c 23 (0, 0)) := by
  have hg := (Array.getElem?_eq_some_iff.1 hb).1
  have hs : (putRowK enc3 3 (Sort.ahead w n) g 0 dk).heap.size = w.heap.size := by simp [putRowK, putRow, mapBlock, Sort.ahead]
  show ∃ c, ((putRowK enc3 3 (Sort.ahead w n) g 0 dk).heap ++ os)[g]? = some (.cells c 23 (0, 0))
  rw [Array.getElem?_append_left (by rw [hs]; exact hg)]
  show ∃ c, (w.heap.modify g _)[g]? = some (.cells c 23 (0, 0))
  rw [Array.getElem?_modify, if_pos rfl, hb]
  exact ⟨_, rfl⟩
theorem blk_of {w : World} {g cap : Nat} {l : List VM.Vl} {cur : Array Value} (hb : w.heap[g]? = some (.cells cur 23 (0, 0))) (h : IsRow w (.slice (some ⟨g, 0, none⟩) l.length cap) l) : l.length * 3 ≤ cur.size := by
  obtain ⟨a, c, he, h0 | ⟨b, o, hA, hlt, hc⟩⟩ := h
  · subst h0; simp
  · simp only [Value.slice.injEq] at he
    obtain ⟨rfl, _, rfl⟩ := he
    simp only [Option.some.injEq, Addr.mk.injEq, and_true] at hA
    obtain ⟨rfl, rfl⟩ := hA
    by_cases h0 : l.length = 0
    · omega
    · obtain ⟨_, _, c2⟩ := hc (l.length - 1) (by omega)
      rw [cell_of_row w g _ cur _ _ hb] at c2
      have := (Array.getElem?_eq_some_iff.1 c2).1
      omega
theorem sortF_blk (g cap : Nat) (cur : Array Value) (l : List VM.Vl) (w : World) (hl : l.length ≤ 40) (hb : w.heap[g]? = some (.cells cur 23 (0, 0))) (ht : cur.toList.take (l.length * 3) = rowV l) :
    Calls Tryz.prog 53 #[.slice (some ⟨g, 0, none⟩) l.length cap, .func (.func 31) #[] #[]] w fun e w' => e = .returned (.tuple #[]) ∧ (∀ B w0, Below B w0 w → B ≤ g → B ≤ w.heap.size → Below B w0 w') ∧ Blk w' g l.length := by
  have hg := (Array.getElem?_eq_some_iff.1 hb).1
  have hH : HoldsK enc3 3 w g 0 l.toArray := holds_of (n := 0) (cap := 0) hb ht
  have h := AnyQ.slices_SortFunc_total Tryz.sortL 3 Tryz.isAgg23 Tryz.sizeOf23 enc3 (fun _ => rfl) (fun x v hv => by simp [enc3] at hv; rcases hv with rfl | rfl | rfl <;> rfl) CM.ord swo 31 #[] g 0 cap l.toArray w (enters_of Tryz.func31 (by kernel_rfl) rfl) (cmpLays g 0 l.toArray.size w) hH hg (by simp; omega) tot
  have e1 : (l.toArray.toList.mergeSort fun x y => !(ltOf CM.ord) y x) = SM.srt l := srt_by l
  rw [e1] at h
  have e2 : l.toArray.size = l.length := by simp
  rw [e2] at h
  refine h.mono ?_
  rintro _ w' ⟨rfl, n, os, rfl⟩
  refine ⟨rfl, fun B w0 h1 h2 h3 => sorted_below h1 h2 h3, ?_⟩
  have hH2 := holdsK_sortWorldK_c enc3 3 w g 0 l.toArray (SM.srt l).toArray n os hH hg (by simp [SM.srt_len])
  have hs := size_sortWorldK_c enc3 3 w g 0 n (SM.srt l).toArray os
  have hrow := row_of_holds (cap := cap) (by omega) hH2
  obtain ⟨c, hc⟩ := sorted_blk (n := n) (dk := (SM.srt l).toArray) (os := os) hb
  have := blk_of hc hrow
  rw [SM.srt_len] at this
  exact ⟨c, hc, this⟩

set_option maxRecDepth 100000 in
set_option maxHeartbeats 1000000 in
theorem sort_fresh (b o n0 c0 : Nat) (l : List VM.Vl) (w : World) (hr : IsRow w (.slice (some ⟨b, o, none⟩) n0 c0) l) (hbig : l.length ≤ 9223372036854775807) :
    Calls Tryz.prog 22 #[.slice (some ⟨b, o, none⟩) n0 c0] w fun e w' => ∃ v', e = .returned (.tuple #[v', .int .i64 (sErr l)]) ∧ Fr w w' ∧ ((v' = .slice none 0 0) ∨ (sErr l = 0 ∧ ∃ g cap, v' = .slice (some ⟨g, 0, none⟩) l.length cap ∧ w.heap.size ≤ g ∧ Blk w' g l.length)) := by
  have hck := checkAll_any _ l w hr hbig
  have hcl := fun (h : l.length ≤ 40) W (f : Fr w W) => clone_any _ l W (hr.fr f) (Or.inr ⟨b, o, n0, c0, rfl⟩) h
  obtain ⟨a, cap, he, hcs⟩ := hr
  simp only [Value.slice.injEq] at he
  obtain ⟨rfl, rfl, rfl⟩ := he
  have HS : Hid (sErr l = if 40 < l.length then 2 else VM.chkAll l) := rfl
  generalize sErr l = e at *
  clear hcs
  by_cases h40 : 40 < l.length
  · have q : (40 : Int) < (l.length : Int) := by omega
    rw [if_pos h40] at HS
    clear hck hcl
    go_enter Tryz.func22, Tryz.ntmps22
    go_wp2_with fail
    go_ret2
    exact ⟨.slice none 0 0, by rw [HS.out]; rfl, Fr.refl _, Or.inl rfl⟩
  · have q : ¬ (40 : Int) < (l.length : Int) := by omega
    rw [if_neg h40] at HS
    generalize VM.chkAll l = c at *
    by_cases hc : c = 0
    · subst hc
      go_enter Tryz.func22, Tryz.ntmps22
      go_wp2_with fail
      refine hck.mono ?_
      rintro _ w1 ⟨rfl, f1⟩
      have hc1 := hcl (by omega) w1 f1
      clear hck hcl
      go_wp2_with fail
      refine hc1.mono ?_
      rintro _ w2 ⟨v', rfl, f2, ⟨rfl, h0⟩ | ⟨g, cap', cur, rfl, hg, hb, ht⟩⟩
      · have hsn := AnyF.slices_SortFunc_none Tryz.sortL none 0 (.func (.func 31) #[] #[]) w2
        have F : Hid (Fr w w2) := f1.trans f2
        clear f1 f2 hc1 h0
        go_wp2_with fail
        refine hsn.mono ?_
        rintro _ w3 ⟨rfl, rfl⟩
        clear hsn
        go_wp2_with fail
        go_ret2
        exact ⟨.slice none 0 0, by rw [HS.out]; rfl, F.out, Or.inl rfl⟩
      · have hsf := sortF_blk g cap' cur l w2 (by omega) hb ht
        have HG : Hid _ := hg
        have F : Hid (Fr w w2) := f1.trans f2
        have F1 : Hid _ := f1
        clear hb ht hc1 hg f1 f2
        go_wp2_with fail
        refine hsf.mono ?_
        rintro _ w3 ⟨rfl, hbl, hrow⟩
        have HR : Hid _ := hrow
        have HGW : Hid (w.heap.size ≤ g) := by unfold Hid; have := F1.out.size; have := HG.out; omega
        have F3 : Hid (Fr w w3) := hbl _ _ F.out HGW.out F.out.size
        clear hsf hbl hrow
        go_wp2_with fail
        go_ret2
        exact ⟨_, by rw [HS.out]; rfl, F3.out, Or.inr ⟨HS.out, g, cap', rfl, HGW.out, HR.out⟩⟩
    · have q1 : ((c : Int) != 0) = true := by simp; omega
      have q2 : ¬ ((c : Int) = 0) := by omega
      go_enter Tryz.func22, Tryz.ntmps22
      go_wp2_with fail
      refine hck.mono ?_
      rintro _ w1 ⟨rfl, f1⟩
      have F1 : Hid _ := f1
      clear hck hcl f1
      go_wp2_with fail
      go_ret2
      exact ⟨.slice none 0 0, by rw [HS.out]; rfl, F1.out, Or.inl rfl⟩
end Go.Proofs.YtjadmefiilkgmaaGreatDoor
