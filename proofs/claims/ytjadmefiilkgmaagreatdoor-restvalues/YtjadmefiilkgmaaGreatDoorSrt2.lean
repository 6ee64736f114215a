/-
  Sort of package value, for every list.
-/
import Derived.Test.YtjadmefiilkgmaaGreatDoorSrt
namespace Go.Proofs.YtjadmefiilkgmaaGreatDoor
open Go.ChangeShapes Go.WideShapes Go.ChangeAt Go.RowKit Go.Shelf Go.Sort Go.Lib
set_option linter.unusedVariables false
set_option linter.unusedSimpArgs false

/-- the list that Sort answers -/
def srtOf (l : List VM.Vl) : List VM.Vl := if sErr l = 0 then SM.srt l else []
theorem srt_nil : SM.srt [] = [] := List.eq_nil_of_length_eq_zero (by rw [SM.srt_len]; rfl)
/-- what Clone answers of a row -/
theorem clone_any (v : Value) (l : List VM.Vl) (w : World) (hr : IsRow w v l) (ha : Ad v) (hl : l.length ≤ 40) :
    Calls Tryz.prog 52 #[v] w fun e w' => ∃ v', e = .returned v' ∧ Fr w w' ∧ ((v' = .slice none 0 0 ∧ l = []) ∨ ∃ g cap cur, v' = .slice (some ⟨g, 0, none⟩) l.length cap ∧ w.heap.size ≤ g ∧ w'.heap[g]? = some (.cells cur 23 (0, 0)) ∧ cur.toList.take (l.length * 3) = rowV l) := by
  obtain ⟨i0, hi, hz0, hz1, hz2⟩ := info_parts Tryz.infoVal
  obtain ⟨a, cap, rfl, hcs⟩ := hr
  rcases ha with h | ⟨b, o, n, c, h⟩
  · injection h with h1 h2 h3
    subst h1
    have hl0 : l = [] := List.eq_nil_of_length_eq_zero h2
    refine (AnyE.slices_Clone_nil Tryz.cloneL _ _ w).mono ?_
    rintro _ w' ⟨rfl, rfl⟩
    exact ⟨_, rfl, Fr.refl _, Or.inl ⟨rfl, hl0⟩⟩
  · injection h with h1 h2 h3
    subst h1
    have hc : ∀ j u, (rowV l)[j]? = some u → w.cell? ⟨b, o + j, none⟩ = some u := by
      rcases hcs with h0 | ⟨b', o', h0, _, hcc⟩
      · subst h0
        intro j u hu
        simp [rowV] at hu
      · injection h0 with h0
        injection h0 with e1 e2
        subst e1 e2
        intro j u hu
        have := row_news hcc j u hu
        rwa [add_at _ _ rfl] at this
    refine (AnyE.slices_Clone Tryz.cloneL i0 (.agg #[.int .i64 0, .int .i64 0, .string ⟨#[]⟩]) 3 32 hi hz0 hz1 hz2 rfl (by decide) Tryz.sizeOf23 b o l.length cap (rowV l) w (rowV_len l) (by unfold maxLen; omega) (by omega) hc (rowV_one l)).mono ?_
    rintro _ w' ⟨v', rfl, hown, hne, hb⟩
    refine ⟨v', rfl, hb, Or.inr ?_⟩
    rcases hown.2 with ⟨h1, h2⟩ | ⟨g, cap', cur, h1, h2, h3, h4, h5, h6, h7⟩
    · exact absurd h1 hne
    · exact ⟨g, cap', cur, h1, h2, h3, h7⟩

theorem sortF_any (g cap : Nat) (cur : Array Value) (l : List VM.Vl) (w : World) (hl : l.length ≤ 40) (hb : w.heap[g]? = some (.cells cur 23 (0, 0))) (ht : cur.toList.take (l.length * 3) = rowV l) :
    Calls Tryz.prog 53 #[.slice (some ⟨g, 0, none⟩) l.length cap, .func (.func 31) #[] #[]] w fun e w' => e = .returned (.tuple #[]) ∧ (∀ B w0, Below B w0 w → B ≤ g → B ≤ w.heap.size → Below B w0 w') ∧ IsRow w' (.slice (some ⟨g, 0, none⟩) l.length cap) (SM.srt l) := by
  have hg := (Array.getElem?_eq_some_iff.1 hb).1
  have hH : HoldsK enc3 3 w g 0 l.toArray := holds_of (n := 0) (cap := 0) hb ht
  have h := AnyQ.slices_SortFunc_total Tryz.sortL 3 Tryz.isAgg23 Tryz.sizeOf23 enc3 (fun _ => rfl) (fun x v hv => by simp [enc3] at hv; rcases hv with rfl | rfl | rfl <;> rfl) CM.ord swo 31 #[] g 0 cap l.toArray w (enters_of Tryz.func31 (by kernel_rfl) rfl) (cmpLays g 0 l.toArray.size w) hH hg (by simp; omega) tot
  have e1 : (l.toArray.toList.mergeSort fun x y => !(ltOf CM.ord) y x) = SM.srt l := srt_by l
  rw [e1] at h
  have e2 : l.toArray.size = l.length := by simp
  rw [e2] at h
  refine h.mono ?_
  rintro _ w' ⟨rfl, n, os, rfl⟩
  refine ⟨rfl, fun B w0 h1 h2 h3 => sorted_below h1 h2 h3, ?_⟩
  have hH2 := holdsK_sortWorldK_c enc3 3 w g 0 l.toArray (SM.srt l).toArray n os hH hg (by simp [SM.srt_len])
  have hs := size_sortWorldK_c enc3 3 w g 0 n (SM.srt l).toArray os
  have := row_of_holds (cap := cap) (by omega) hH2
  rwa [SM.srt_len] at this

set_option maxRecDepth 100000 in
set_option maxHeartbeats 1000000 in
theorem sort_any (v : Value) (l : List VM.Vl) (w : World) (hr : IsRow w v l) (ha : Ad v) (hbig : l.length ≤ 9223372036854775807) :
    Calls Tryz.prog 22 #[v] w fun e w' => ∃ v', e = .returned (.tuple #[v', .int .i64 (sErr l)]) ∧ Fr w w' ∧ IsRow w' v' (srtOf l) ∧ Ad v' := by
  have hck := checkAll_any v l w hr hbig
  have hcl := fun (h : l.length ≤ 40) W (f : Fr w W) => clone_any v l W (hr.fr f) ha h
  obtain ⟨a, cap, rfl, hcs⟩ := hr
  have HS : Hid (sErr l = if 40 < l.length then 2 else VM.chkAll l) := rfl
  have HZ : Hid (srtOf l = if sErr l = 0 then SM.srt l else []) := rfl
  generalize srtOf l = z at *
  generalize sErr l = e at *
  clear hcs ha
  by_cases h40 : 40 < l.length
  · have q : (40 : Int) < (l.length : Int) := by omega
    rw [if_pos h40] at HS
    clear hck hcl
    go_enter Tryz.func22, Tryz.ntmps22
    go_wp2_with fail
    go_ret2
    refine ⟨.slice none 0 0, by rw [HS.out]; rfl, Fr.refl _, ?_, Or.inl rfl⟩
    rw [HZ.out, HS.out, if_neg (by decide)]
    exact ⟨none, 0, rfl, Or.inl rfl⟩
  · have q : ¬ (40 : Int) < (l.length : Int) := by omega
    rw [if_neg h40] at HS
    generalize VM.chkAll l = c at *
    by_cases hc : c = 0
    · subst hc
      go_enter Tryz.func22, Tryz.ntmps22
      go_wp2_with fail
      refine hck.mono ?_
      rintro _ w1 ⟨rfl, f1⟩
      have hc1 := hcl (by omega) w1 f1
      clear hck hcl
      go_wp2_with fail
      refine hc1.mono ?_
      rintro _ w2 ⟨v', rfl, f2, ⟨rfl, h0⟩ | ⟨g, cap', cur, rfl, hg, hb, ht⟩⟩
      · have hsn := AnyF.slices_SortFunc_none Tryz.sortL none 0 (.func (.func 31) #[] #[]) w2
        have F : Hid (Fr w w2) := f1.trans f2
        have H0 : Hid _ := h0
        clear f1 f2 hc1 h0
        go_wp2_with fail
        refine hsn.mono ?_
        rintro _ w3 ⟨rfl, rfl⟩
        clear hsn
        go_wp2_with fail
        go_ret2
        refine ⟨.slice none 0 0, by rw [HS.out]; rfl, F.out, ?_, Or.inl rfl⟩
        rw [HZ.out, HS.out, if_pos rfl, H0.out, srt_nil]
        exact ⟨none, 0, rfl, Or.inl rfl⟩
      · have hsf := sortF_any g cap' cur l w2 (by omega) hb ht
        have HG : Hid _ := hg
        have F : Hid (Fr w w2) := f1.trans f2
        have F1 : Hid _ := f1
        clear hb ht hc1 hg f1 f2
        go_wp2_with fail
        refine hsf.mono ?_
        rintro _ w3 ⟨rfl, hbl, hrow⟩
        have HR : Hid _ := hrow
        have F3 : Hid (Fr w w3) := hbl _ _ F.out (by have := F1.out.size; have := HG.out; omega) F.out.size
        clear hsf hbl hrow
        go_wp2_with fail
        go_ret2
        refine ⟨_, by rw [HS.out]; rfl, F3.out, ?_, Or.inr ⟨g, 0, l.length, cap', rfl⟩⟩
        rw [HZ.out, HS.out, if_pos rfl]
        exact HR.out
    · have q1 : ((c : Int) != 0) = true := by simp; omega
      have q2 : ¬ ((c : Int) = 0) := by omega
      go_enter Tryz.func22, Tryz.ntmps22
      go_wp2_with fail
      refine hck.mono ?_
      rintro _ w1 ⟨rfl, f1⟩
      have F1 : Hid _ := f1
      clear hck hcl f1
      go_wp2_with fail
      go_ret2
      refine ⟨.slice none 0 0, by rw [HS.out]; rfl, F1.out, ?_, Or.inl rfl⟩
      rw [HZ.out, HS.out, if_neg hc]
      exact ⟨none, 0, rfl, Or.inl rfl⟩
end Go.Proofs.YtjadmefiilkgmaaGreatDoor
