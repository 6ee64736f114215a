/-
  SamePairs, SameInts and SameTree of what is alike; a pair.
-/
import Derived.Test.YtmemapfboefngaaGtE
namespace Go.Proofs.Ytmemapfboefngaa
open Go.ChangeShapes Go.WideShapes Go.ChangeAt Go.RowKit
set_option linter.unusedVariables false
set_option linter.unusedSimpArgs false
set_option maxRecDepth 100000
set_option maxHeartbeats 4000000
theorem s4_after {w w' : World} {a b c d : Addr} {x y z u : Value} (f : Fr w w') (h : w.cell? a = some x ∧ w.cell? b = some y ∧ w.cell? c = some z ∧ w.cell? d = some u) : w'.cell? a = some x ∧ w'.cell? b = some y ∧ w'.cell? c = some z ∧ w'.cell? d = some u :=
  ⟨(Below.cell f (World.block_lt_of_cell? _ _ h.1)).trans h.1, (Below.cell f (World.block_lt_of_cell? _ _ h.2.1)).trans h.2.1, (Below.cell f (World.block_lt_of_cell? _ _ h.2.2.1)).trans h.2.2.1, (Below.cell f (World.block_lt_of_cell? _ _ h.2.2.2)).trans h.2.2.2⟩
theorem samePairs_eq (v u : Value) (l : List TK.Pr) (w : World) (hv : IsL cdPr w v l) (hu : IsL cdPr w u l) (hl : l.length ≤ 9223372036854775806) :
    Calls Try.prog 21 #[v, u] w fun e w' => e = .returned (.bool true) ∧ Fr w w' := by
  obtain ⟨a, cap, rfl, _, hcs⟩ := hv
  obtain ⟨a2, cap2, rfl, _, hcs2⟩ := hu
  have HC := hideP hcs
  have HC2 := hideP hcs2
  clear hcs hcs2
  go_enter Try.func21, Try.ntmps21
  go_wp2_with fail
  go_loopw [5] (fun iv wr => ∃ i : Nat, iv = .int .i64 i ∧ i ≤ l.length ∧ Fr w wr) (fun iv _ => l.length - (intOf iv).toNat)
  case atStart => exact ⟨0, rfl, by omega, Fr.refl _⟩
  case round =>
    obtain ⟨i, rfl, hi, hfr⟩ := hrel
    by_cases hlt : i < l.length
    · obtain ⟨b, o, rfl, hb, hc⟩ : ∃ b o, a = some ⟨b, o, none⟩ ∧ b < w.heap.size ∧ At cdPr w b o l := by
        rcases HC.out with h | h
        · subst h; simp at hlt
        · exact h
      obtain ⟨b2, o2, rfl, hb2, hc2⟩ : ∃ b o, a2 = some ⟨b, o, none⟩ ∧ b < w.heap.size ∧ At cdPr w b o l := by
        rcases HC2.out with h | h
        · subst h; simp at hlt
        · exact h
      obtain ⟨c0, c1⟩ := (hc.fr hb hfr).p2 i hlt
      obtain ⟨d0, d1⟩ := (hc2.fr hb2 hfr).p2 i hlt
      generalize l[i] = x at c0 c1 d0 d1
      obtain ⟨k, n⟩ := x
      simp only at c0 c1 d0 d1
      have hlt' : (i : Int) < (l.length : Int) := by omega
      have HF : Hid _ := hfr
      clear hc hc2 hfr
      go_wp2_with fail
      go_region
      go_wp2_with fail
      go_roundw
      case rel => exact ⟨i + 1, by go_num, by omega, Fr.drew HF.out⟩
      case measure => simp [intOf]; omega
    · obtain rfl : i = l.length := by omega
      go_wp2_with fail
      go_ret
      exact ⟨rfl, hfr⟩
theorem sameInts_eq (v u : Value) (l : List Int) (w : World) (hv : IsL cdZ w v l) (hu : IsL cdZ w u l) (hl : l.length ≤ 9223372036854775806) :
    Calls Try.prog 43 #[v, u] w fun e w' => e = .returned (.bool true) ∧ Fr w w' := by
  obtain ⟨a, cap, rfl, _, hcs⟩ := hv
  obtain ⟨a2, cap2, rfl, _, hcs2⟩ := hu
  have HC := hideP hcs
  have HC2 := hideP hcs2
  clear hcs hcs2
  go_enter Try.func43, Try.ntmps43
  go_wp2_with fail
  go_loopw [5] (fun iv wr => ∃ i : Nat, iv = .int .i64 i ∧ i ≤ l.length ∧ Fr w wr) (fun iv _ => l.length - (intOf iv).toNat)
  case atStart => exact ⟨0, rfl, by omega, Fr.refl _⟩
  case round =>
    obtain ⟨i, rfl, hi, hfr⟩ := hrel
    by_cases hlt : i < l.length
    · obtain ⟨b, o, rfl, hb, hc⟩ : ∃ b o, a = some ⟨b, o, none⟩ ∧ b < w.heap.size ∧ At cdZ w b o l := by
        rcases HC.out with h | h
        · subst h; simp at hlt
        · exact h
      obtain ⟨b2, o2, rfl, hb2, hc2⟩ : ∃ b o, a2 = some ⟨b, o, none⟩ ∧ b < w.heap.size ∧ At cdZ w b o l := by
        rcases HC2.out with h | h
        · subst h; simp at hlt
        · exact h
      have c0 := (hc.fr hb hfr).z1 i hlt
      have d0 := (hc2.fr hb2 hfr).z1 i hlt
      generalize l[i] = x at c0 d0
      have hlt' : (i : Int) < (l.length : Int) := by omega
      have HF : Hid _ := hfr
      clear hc hc2 hfr
      go_wp2_with fail
      go_region
      go_wp2_with fail
      go_roundw
      case rel => exact ⟨i + 1, by go_num, by omega, Fr.drew HF.out⟩
      case measure => simp [intOf]; omega
    · obtain rfl : i = l.length := by omega
      go_wp2_with fail
      go_ret
      exact ⟨rfl, hfr⟩
theorem sameTree_eq (p q p' q' : Value) (L : List (List TK.Pr)) (U : List (List Int)) (w : World) (h : IsT w p q L U) (h' : IsT w p' q' L U) (hL : L.length ≤ 9223372036854775806) (hR : ∀ r ∈ L, r.length ≤ 9223372036854775806) (hU : U.length ≤ 9223372036854775806) (hUr : ∀ u ∈ U, u.length ≤ 9223372036854775806) :
    Calls Try.prog 25 #[.agg #[p, q], .agg #[p', q']] w fun e w' => e = .returned (.bool true) ∧ Fr w w' := by
  have HRb := hideP hR
  have HUb := hideP hUr
  obtain ⟨pa, pc, rfl⟩ := h.l.slice
  obtain ⟨qa, qc, rfl⟩ := h.u.slice
  obtain ⟨pa', pc', rfl⟩ := h'.l.slice
  obtain ⟨qa', qc', rfl⟩ := h'.u.slice
  obtain ⟨W0, hW0⟩ : ∃ W0, (w.alloc (.cells #[.slice pa L.length pc, .slice qa U.length qc] 25)).alloc (.cells #[.slice pa' L.length pc', .slice qa' U.length qc'] 25) = W0 := ⟨_, rfl⟩
  have f0 : Fr w W0 := by rw [← hW0]; exact ((Fr.refl w).alloc _).alloc _
  have b0 : Blk W0 w.heap.size #[.slice pa L.length pc, .slice qa U.length qc] 25 := by rw [← hW0]; exact (Blk.new w _ _).old _
  have b1 : Blk W0 (w.heap.size + 1) #[.slice pa' L.length pc', .slice qa' U.length qc'] 25 := by
    have := Blk.new (w.alloc (.cells #[.slice pa L.length pc, .slice qa U.length qc] 25)) #[.slice pa' L.length pc', .slice qa' U.length qc'] 25
    rw [World.size_alloc, hW0] at this; exact this
  have x0 := b0.cell 0 (u := .slice pa L.length pc) rfl
  have x1 := b1.cell 0 (u := .slice pa' L.length pc') rfl
  have x2 := b0.cell 1 (u := .slice qa U.length qc) rfl
  have x3 := b1.cell 1 (u := .slice qa' U.length qc') rfl
  have HX := hideP (show _ ∧ _ ∧ _ ∧ _ from ⟨x0, x1, x2, x3⟩)
  obtain ⟨qs0, hq0, _, _, ha0, har0⟩ := (h.l.fr f0).at
  obtain ⟨ps0, hr0, _, _, hb0, hbr0⟩ := (h'.l.fr f0).at
  obtain ⟨qs1, hq1, _, _, ha1, har1⟩ := (h.u.fr f0).at
  obtain ⟨ps1, hr1, _, _, hb1, hbr1⟩ := (h'.u.fr f0).at
  have HQ0 := hideP hq0
  have HR0 := hideP hr0
  have HA0 := hideP ha0
  have HB0 := hideP hb0
  have HAr0 := hideP har0
  have HBr0 := hideP hbr0
  have HQ1 := hideP hq1
  have HR1 := hideP hr1
  have HA1 := hideP ha1
  have HB1 := hideP hb1
  have HAr1 := hideP har1
  have HBr1 := hideP hbr1
  have HF0 := hideP f0
  clear h h' hR hUr f0 b0 b1 hq0 hr0 ha0 hb0 har0 hbr0 hq1 hr1 ha1 hb1 har1 hbr1
  go_enter Try.func25, Try.ntmps25
  go_wp2_with fail
  clear x0 x1 x2 x3
  go_loopw [5] (fun iv wr => ∃ i : Nat, iv = .int .i64 i ∧ i ≤ L.length ∧ Fr W0 wr) (fun iv _ => L.length - (intOf iv).toNat)
  case atStart => exact ⟨0, rfl, Nat.zero_le _, Fr.refl _⟩
  case round =>
    obtain ⟨i, rfl, hi, hfr⟩ := hrel
    have k0 := (Below.cell hfr (World.block_lt_of_cell? _ _ HX.out.1)).trans HX.out.1
    have k1 := (Below.cell hfr (World.block_lt_of_cell? _ _ HX.out.2.1)).trans HX.out.2.1
    by_cases hlt : i < L.length
    · have hlt' : (i : Int) < (L.length : Int) := by omega
      obtain ⟨b, o, rfl, hb, c0⟩ := HA0.out i (by have := HQ0.out; omega)
      obtain ⟨b', o', rfl, hb', c9⟩ := HB0.out i (by have := HR0.out; omega)
      have h1 := (HAr0.out i (by have := HQ0.out; omega) hlt).1
      have h2 := (HBr0.out i (by have := HR0.out; omega) hlt).1
      have hck := fun W (f : Fr W0 W) => samePairs_eq _ _ L[i] W (h1.fr f) (h2.fr f) (HRb.out _ (List.getElem_mem hlt))
      unfold Sq.v at hck
      have HS := hideP (show wr.cell? ⟨w.heap.size, 0, none⟩ = some (.slice (some ⟨b, o, none⟩) L.length pc) ∧ wr.cell? ⟨w.heap.size + 1, 0, none⟩ = some (.slice (some ⟨b', o', none⟩) L.length pc') ∧ _ ∧ _ from ⟨k0, k1, c2_after hfr ⟨c0, c9⟩⟩)
      have HF := hideP hfr
      obtain ⟨yq, hqq⟩ : ∃ yq, (qs0[i]'(by have := HQ0.out; omega)) = yq := ⟨_, rfl⟩
      obtain ⟨zp, hpp⟩ : ∃ zp, (ps0[i]'(by have := HR0.out; omega)) = zp := ⟨_, rfl⟩
      rw [hqq, hpp] at HS hck
      obtain ⟨ya, yn, yc⟩ := yq
      obtain ⟨za, zn, zc⟩ := zp
      simp only at HS hck
      have HCk := hideP hck
      clear hfr h1 h2 c0 c9 hck hqq hpp
      have hz := Fr.drew (Fr.refl wr)
      go_upto_region 6 with fail
      go_region_held3 (fun W => W.cell? ⟨w.heap.size, 0, none⟩ = some (.slice (some ⟨b, o, none⟩) L.length pc) ∧ W.cell? ⟨w.heap.size + 1, 0, none⟩ = some (.slice (some ⟨b', o', none⟩) L.length pc') ∧ W.cell? ⟨b, o + i, none⟩ = some (.slice ya yn yc) ∧ W.cell? ⟨b', o' + i, none⟩ = some (.slice za zn zc)) (first | exact HS.out | exact s4_after hz HS.out | exact s4_after hf9 HS.out) (first
        | (go_at_call 21; refine (HCk.out _ (HF.out.trans hz)).mono ?_; rintro _ w3 ⟨rfl, f3⟩; have hf9 := hz.trans f3; clear f3))
      all_goals (
        have F9 := hideP (HF.out.trans hf9)
        clear hf9 hz HS k0 k1
        go_wp2_with fail
        go_roundw
        case rel => exact ⟨i + 1, by go_num, by omega, F9.out⟩
        case measure => simp [intOf]; omega)
    · obtain rfl : i = L.length := by omega
      have HFr := hideP hfr
      clear hfr
      go_wp2_with fail
      go_loopw [6] (fun iv wr => ∃ i : Nat, iv = .int .i64 i ∧ i ≤ U.length ∧ Fr W0 wr) (fun iv _ => U.length - (intOf iv).toNat)
      case atStart => exact ⟨0, rfl, Nat.zero_le _, HFr.out⟩
      case round =>
        obtain ⟨i, rfl, hi, hfr⟩ := hrel
        have k0 := (Below.cell hfr (World.block_lt_of_cell? _ _ HX.out.2.2.1)).trans HX.out.2.2.1
        have k1 := (Below.cell hfr (World.block_lt_of_cell? _ _ HX.out.2.2.2)).trans HX.out.2.2.2
        by_cases hlt : i < U.length
        · have hlt' : (i : Int) < (U.length : Int) := by omega
          obtain ⟨b, o, rfl, hb, c0⟩ := HA1.out i (by have := HQ1.out; omega)
          obtain ⟨b', o', rfl, hb', c9⟩ := HB1.out i (by have := HR1.out; omega)
          have h1 := (HAr1.out i (by have := HQ1.out; omega) hlt).1
          have h2 := (HBr1.out i (by have := HR1.out; omega) hlt).1
          have hck := fun W (f : Fr W0 W) => sameInts_eq _ _ U[i] W (h1.fr f) (h2.fr f) (HUb.out _ (List.getElem_mem hlt))
          unfold Sq.v at hck
          have HS := hideP (show wr.cell? ⟨w.heap.size, 1, none⟩ = some (.slice (some ⟨b, o, none⟩) U.length qc) ∧ wr.cell? ⟨w.heap.size + 1, 1, none⟩ = some (.slice (some ⟨b', o', none⟩) U.length qc') ∧ _ ∧ _ from ⟨k0, k1, c2_after hfr ⟨c0, c9⟩⟩)
          have HF := hideP hfr
          obtain ⟨yq, hqq⟩ : ∃ yq, (qs1[i]'(by have := HQ1.out; omega)) = yq := ⟨_, rfl⟩
          obtain ⟨zp, hpp⟩ : ∃ zp, (ps1[i]'(by have := HR1.out; omega)) = zp := ⟨_, rfl⟩
          rw [hqq, hpp] at HS hck
          obtain ⟨ya, yn, yc⟩ := yq
          obtain ⟨za, zn, zc⟩ := zp
          simp only at HS hck
          have HCk := hideP hck
          clear hfr h1 h2 c0 c9 hck hqq hpp
          have hz := Fr.drew (Fr.refl wr)
          go_upto_region 11 with fail
          go_region_held3 (fun W => W.cell? ⟨w.heap.size, 1, none⟩ = some (.slice (some ⟨b, o, none⟩) U.length qc) ∧ W.cell? ⟨w.heap.size + 1, 1, none⟩ = some (.slice (some ⟨b', o', none⟩) U.length qc') ∧ W.cell? ⟨b, o + i, none⟩ = some (.slice ya yn yc) ∧ W.cell? ⟨b', o' + i, none⟩ = some (.slice za zn zc)) (first | exact HS.out | exact s4_after hz HS.out | exact s4_after hf9 HS.out) (first
            | (go_at_call 43; refine (HCk.out _ (HF.out.trans hz)).mono ?_; rintro _ w3 ⟨rfl, f3⟩; have hf9 := hz.trans f3; clear f3))
          all_goals (
            have F9 := hideP (HF.out.trans hf9)
            clear hf9 hz HS k0 k1
            go_wp2_with fail
            go_roundw
            case rel => exact ⟨i + 1, by go_num, by omega, F9.out⟩
            case measure => simp [intOf]; omega)
        · obtain rfl : i = U.length := by omega
          have HFr := hideP hfr
          clear hfr
          go_wp2_with fail
          go_ret
          exact ⟨rfl, HF0.out.trans HFr.out⟩
theorem pair_any (k : ByteArray) (n : Int) (w : World) : Calls Try.prog 28 #[.string k, .int .i64 n] w fun e w' => e = .returned (.agg #[.string k, .int .i64 n]) ∧ Fr w w' := by
  go_enter Try.func28, Try.ntmps28
  go_wp2
  refine bodyPost_ret (v := .agg #[.string k, .int .i64 n]) (by simp [results, Try.results28, go_sem]) rfl ?_
  exact ⟨rfl, (Fr.refl _).alloc _⟩
end Go.Proofs.Ytmemapfboefngaa
