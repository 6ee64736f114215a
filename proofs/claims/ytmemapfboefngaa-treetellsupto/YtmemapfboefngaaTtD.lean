/-
  slices.Replace at rows of pairs, of one or two by two or one, in a row of the call's own.
-/
import Derived.Test.YtmemapfboefngaaGtF
namespace Go.Proofs.Ytmemapfboefngaa
open Go.ChangeShapes Go.WideShapes Go.ChangeAt Go.RowKit
set_option linter.unusedVariables false
set_option linter.unusedSimpArgs false
set_option maxRecDepth 100000
set_option maxHeartbeats 2000000
theorem splice_fill {α : Type} {X Z vs D : List α} {i m : Nat} (hv : vs.length = m) (hX : X.length = i) (hZ : Z.length = m + D.length) :
    splice (splice (X ++ Z) i vs) (i + m) D = X ++ vs ++ D := by
  subst hv
  subst hX
  unfold splice
  rw [List.take_left]
  have h2 : (X ++ Z).drop (X.length + vs.length) = Z.drop vs.length := by
    rw [List.drop_append, List.drop_of_length_le (by omega)]; simp
  rw [h2, ← List.append_assoc X vs, ← List.append_assoc]
  have h3 : (X ++ vs ++ Z.drop vs.length).take (X.length + vs.length) = X ++ vs := List.take_left' (by rw [List.length_append])
  have h4 : (X ++ vs ++ Z.drop vs.length).drop (X.length + vs.length + D.length) = [] := List.drop_of_length_le (by simp only [List.length_append, List.length_drop, hZ]; omega)
  rw [h3, h4, List.append_nil]
theorem splice_close {α : Type} {X vs D : List α} {i m : Nat} (hv : vs.length = m) (h : i + m + D.length ≤ X.length) :
    (splice (splice X i vs) (i + m) D).take (i + m + D.length) = X.take i ++ vs ++ D := by
  subst hv
  have h1 : (X.take i).length = i := by rw [List.length_take]; omega
  unfold splice
  rw [← List.append_assoc (X.take i) vs]
  have h3 : (X.take i ++ vs ++ X.drop (i + vs.length)).take (i + vs.length) = X.take i ++ vs := List.take_left' (by rw [List.length_append, h1])
  rw [h3, ← List.append_assoc]
  exact List.take_left' (by simp only [List.length_append, h1])
theorem splice_push {α : Type} {X vs D : List α} {i m : Nat} (hv : vs.length = m) (h : X.length = i + m + D.length) :
    splice (splice X (i + m) D) i vs = X.take i ++ vs ++ D := by
  subst hv
  unfold splice
  have e1 : X.drop (i + vs.length + D.length) = [] := List.drop_of_length_le (by omega)
  rw [e1, List.append_nil]
  have h1 : (X.take (i + vs.length)).length = i + vs.length := by rw [List.length_take]; omega
  rw [List.drop_left' h1]
  have h2 : (X.take (i + vs.length) ++ D).take i = X.take i := by
    rw [List.take_append_of_le_length (by rw [h1]; omega), List.take_take, Nat.min_eq_left (by omega)]
  rw [h2, List.append_assoc]
theorem splice_behind {α : Type} {X vs : List α} {i j m : Nat} (hv : vs.length = m) (hm : i + m ≤ j) (hj : j ≤ X.length) : (splice X i vs).drop j = X.drop j := by
  subst hv
  unfold splice
  have h1 : (X.take i).length = i := by rw [List.length_take]; omega
  rw [List.drop_append, List.drop_of_length_le (by omega), h1, List.drop_append, List.drop_of_length_le (by omega), List.drop_drop, List.nil_append, List.nil_append]
  congr 1
  omega
theorem replaceL_any (v : Value) (r l : List Sq) (i j : Nat) (jz : Int) (hjz : jz = (j : Int)) (B gx cx : Nat) (w : World) (h : w.ownsRow B 28 1 v r.length (flat cdS r)) (hB : B ≤ w.heap.size) (hj : j ≤ r.length) (hr : r.length ≤ 1000)
    (hx : IsL cdS w (.slice (some ⟨gx, 0, none⟩) l.length cx) l) (xs : Array Value) (hxb : Blk w gx xs 28) (hxs : xs.size ≠ 0) (ob : Option Nat) (hob : v.ownBlock = ob) (hne : ob ≠ some gx) (hk : (j = i + 1 ∧ l.length = 2) ∨ (j = i + 2 ∧ l.length = 1)) :
    Calls Try.prog 72 #[v, .int .i64 (i : Int), .int .i64 jz, .slice (some ⟨gx, 0, none⟩) l.length cx] w fun e w' => ∃ v', e = .returned v' ∧ w'.ownsRow B 28 1 v' (i + l.length + (r.length - j)) (flat cdS (r.take i ++ l ++ r.drop j)) ∧ w.grownBy w' ob ∧ Lies w ob v' := by
  subst hjz
  obtain ⟨i0, hi0, hz0, hz1, hz2⟩ := info_parts Try.infoPs
  have hnews : ∀ k u, (flat cdS l)[k]? = some u → w.cell? ((⟨gx, 0, none⟩ : Addr).add k) = some u := by
    obtain ⟨a, cap, e, _, h0 | ⟨b, o, e2, _, hat⟩⟩ := hx
    · subst h0; simp at hk
    · simp only [Value.slice.injEq] at e
      obtain ⟨e1, _, _⟩ := e
      rw [e2] at e1
      simp only [Option.some.injEq, Addr.mk.injEq, and_true] at e1
      obtain ⟨rfl, rfl⟩ := e1
      intro k u hu
      rw [Addr.add_lit]
      exact hat k u hu
  have HN := hideP hnews
  have HXb := hideP hxb
  obtain ⟨n, hn⟩ : ∃ n, r.length = n := ⟨_, rfl⟩
  obtain ⟨m, hm⟩ : ∃ m, l.length = m := ⟨_, rfl⟩
  rw [hn] at h hj hr ⊢
  rw [hm] at hk ⊢
  have HVl := hideP (show (flat cdS l).length = m * 1 by rw [flat_len, hm]; rfl)
  have HV1 := hideP (flat_one cdS l)
  have HXl := hideP (show (flat cdS r).length = n by rw [flat_len, hn]; exact Nat.mul_one _)
  have HX1 := hideP (flat_one cdS r)
  have HMl := hideP hm.symm
  have HDl := hideP (show ((flat cdS r).drop j).length = n - j by rw [List.length_drop, HXl.out])
  have HFin := hideP (show flat cdS (r.take i ++ l ++ r.drop j) = (flat cdS r).take i ++ flat cdS l ++ (flat cdS r).drop j by
    have e1 := flat_take cdS r i
    have e2 := flat_drop cdS r j
    have hk1 : cdS.k = 1 := rfl
    rw [hk1, Nat.mul_one] at e1 e2
    rw [flat_app, flat_app, e1, e2])
  generalize flat cdS (r.take i ++ l ++ r.drop j) = FIN at HFin ⊢
  obtain ⟨va, vc, rfl⟩ := own_slice h
  obtain ⟨g, rfl, _, hnc, hcm, hBg, hgs, hsh, hfz⟩ := own_parts h (by omega)
  have HOb := hideP (show some g = ob from hob)
  have hnex : g ≠ gx := fun e => hne (by rw [← HOb.out, e])
  have HNx := hideP hnex
  have HO := hideP h
  have HC := hideP (show w.ownsRow B 28 1 (.slice (some ⟨g, 0, none⟩) i vc) i ((flat cdS r).take i) by have := own_cut h i (by omega); rwa [Nat.mul_one] at this)
  have HB := hideP hB
  have hc63 : (vc : Int) ≤ 9223372036854775807 := by unfold maxLen at hcm; omega
  have hij : (i : Int) ≤ (j : Int) := by omega
  have hjn : (j : Int) ≤ (n : Int) := by omega
  have hjc : (j : Int) ≤ (vc : Int) := by omega
  have hic : i ≤ vc := by omega
  have hbq : ((i : Int) == (j : Int)) = false := by simp; omega
  have hci : ¬ (vc = i) := by omega
  have HX := hideP (show (flat cdS r).length ≤ 1000 by rw [HXl.out]; exact hr)
  clear h hB hob hnews hxb hx hm hn
  by_cases hjn2 : j = n
  · subst hjn2
    have hbn : ((j : Int) == (j : Int)) = true := by simp
    have HD0 := hideP (show (flat cdS r).drop j = [] from List.drop_of_length_le (by rw [HXl.out]; exact Nat.le_refl _))
    clear hsh hfz hne hnex
    rcases hk with ⟨rfl, rfl⟩ | ⟨rfl, rfl⟩
    · have hlt : ¬ (((i + 2 : Nat) : Int) < ((i + 1 : Nat) : Int)) := by omega
      go_enter Try.func72, Try.ntmps72
      go_wp2_with (at_builtin; refine wpList_append_O cdS rfl _ _ 22 28 i0 (.slice none 0 0) 24 rfl Try.underlying22 hi0 hz0 hz1 hz2 rfl B _ i ((flat cdS r).take i) rfl HC.out ⟨gx, 0, none⟩ 2 _ l rfl HMl.out HN.out (by unfold maxLen; omega) (by omega) HB.out ?_)
      intro v1 w1 hown1 hg1 hl1 hp1
      obtain ⟨a1, c1, rfl⟩ := own_slice hown1
      have H1 := hideP (show w1.ownsRow B 28 1 (.slice a1 (i + 2) c1) (i + 2 + (i + 1 - (i + 1))) FIN by rw [HFin.out, HD0.out, List.append_nil, Nat.sub_self]; exact hown1)
      have H2 := hideP (show w.grownBy w1 ob by rw [← HOb.out]; exact hg1)
      have H3 := hideP (show Lies w ob (.slice a1 (i + 2) c1) by rw [← HOb.out]; exact hl1)
      clear hown1 hg1 hl1 hp1
      go_wp2_with fail
      go_ret
      exact ⟨_, rfl, H1.out, H2.out, H3.out⟩
    · have hlt : ((i + 1 : Nat) : Int) < ((i + 2 : Nat) : Int) := by omega
      have hlt2 : (i : Int) + 1 < (i : Int) + 2 := by omega
      have hc1 : ¬ (vc = i + 1) := by omega
      have hz : ∀ w, (zeroValue 28).run Try.prog w = .ok (.slice none 0 0) w := fun w => by simp [zeroValue, typeInfo, hi0, hz0]
      have HZ := hideP hz
      clear hz
      go_enter Try.func72, Try.ntmps72
      go_wp2_with (at_builtin; refine wpList_append_O cdS rfl _ _ 22 28 i0 (.slice none 0 0) 24 rfl Try.underlying22 hi0 hz0 hz1 hz2 rfl B _ i ((flat cdS r).take i) rfl HC.out ⟨gx, 0, none⟩ 1 _ l rfl HMl.out HN.out (by unfold maxLen; omega) (by omega) HB.out ?_)
      intro v1 w1 hown1 hg1 hl1 hp1
      obtain rfl : v1 = .slice (some ⟨g, 0, none⟩) (i + 1) vc := by first | exact hp1 g vc rfl (by omega) | exact hp1 (by omega)
      have H1 := hideP (show w1.ownsRow B 28 1 (.slice (some ⟨g, 0, none⟩) (i + 1) vc) (i + 1) FIN by rw [HFin.out, HD0.out, List.append_nil]; exact hown1)
      have H2 := hideP (show w.grownBy w1 (some g) by first | exact hg1 | exact Grown.drew hg1)
      have he1 : i + 2 - (i + 1) = 1 := by omega
      clear hown1 hg1 hl1 hp1
      go_wp2_with (refine wpList_clear_O rfl (.tmp 43) 22 28 (.slice none 0 0) 1 rfl Try.underlying22 HZ.out (by decide) (by decide) rfl B (i + 1) g vc 28 FIN H1.out (i + 1) 1 (vc - (i + 1)) rfl (Nat.mul_one _).symm (by decide) (by omega) ?_)
      intro w2 hown2 hg2
      have H3 := hideP (show w2.ownsRow B 28 1 (.slice (some ⟨g, 0, none⟩) (i + 1) vc) (i + 1 + (i + 2 - (i + 2))) FIN by rw [Nat.sub_self]; exact hown2)
      have H4 := hideP (Grown.trans H2.out hg2)
      clear hown2 hg2
      go_wp2_with fail
      go_ret
      exact ⟨_, rfl, H3.out, by rw [← HOb.out]; exact H4.out, .inl (by rw [← HOb.out]; rfl)⟩
  have hjlt : j < n := by omega
  have hbn : ((j : Int) == (n : Int)) = false := by simp; omega
  have hcj : ¬ (vc = j) := by omega
  obtain ⟨T, hT⟩ : ∃ T, T = i + m + (n - j) := ⟨_, rfl⟩
  have HT := hideP hT
  obtain ⟨q, hq⟩ : ∃ q, n - j = q := ⟨_, rfl⟩
  have hqT : i + m + q = T := by omega
  have HqT := hideP hqT
  clear hqT
  have hT1 : T ≤ 1001 := by omega
  have hT2 : i + m < T := by omega
  have hm3 : m ≤ 2 := by omega
  have hm0 : 0 < m := by omega
  rw [← hT]
  have HLi := hideP (show ∀ (W : World), (W.grownBy W none → w.cell? ⟨g, 0, none⟩ = w.cell? ⟨g, 0, none⟩) → ∀ k u, ((flat cdS r).drop j)[k]? = some u → w.cell? ((⟨g, j, none⟩ : Addr).add k) = some u from fun _ _ k u hu => by
    rw [Addr.add_lit]
    have hh : (flat cdS r)[j + k]? = some u := by rw [List.getElem?_drop] at hu; exact hu
    have := HO.out.cells (g := g) rfl _ u hh
    rw [Addr.add_lit, Nat.zero_add] at this
    exact this)
  have HLs := hideP (HLi.out w (fun _ => rfl))
  clear HLi
  have HD1 := hideP (show ∀ u ∈ (flat cdS r).drop j, u.oneCell' = true from fun u hu => HX1.out u (List.mem_of_mem_drop hu))
  have HDq := hideP (show ((flat cdS r).drop j).length = q * 1 by rw [HDl.out, Nat.mul_one, hq])
  have hiT : (i : Int) ≤ (T : Int) := by omega
  have HMm := hideP (show Nat.min m (T - i) = m by simp only [Nat.min_def]; split <;> omega)
  have HMn := hideP (show Nat.min q (T - (i + m)) = q by have := HqT.out; simp only [Nat.min_def]; split <;> omega)
  have HQv := hideP (show i + (flat cdS l).length ≤ T * 1 by rw [HVl.out]; omega)
  have HQd := hideP (show i + m + ((flat cdS r).drop j).length ≤ T * 1 by rw [HDl.out]; omega)
  by_cases hbig : vc < T
  · have hqT := HqT.out
    have hgt : (vc : Int) < (i : Int) + (m : Int) + (q : Int) := by omega
    have hw2 : IntKind.i64.wrap ((i : Int) + (m : Int) + (q : Int)) = (i : Int) + (m : Int) + (q : Int) := by rw [IntKind.wrap_i64]; omega
    have hw1 : IntKind.i64.wrap ((i : Int) + (m : Int)) = (i : Int) + (m : Int) := by rw [IntKind.wrap_i64]; omega
    have hb1 : (0 : Int) ≤ (i : Int) + (m : Int) := by omega
    have ht1 : ((i : Int) + (m : Int)).toNat = i + m := by omega
    have hmT : (i : Int) + (m : Int) ≤ (T : Int) := by omega
    have hkk : (i : Int) + (m : Int) + (q : Int) - (i : Int) = (m : Int) + (q : Int) := by omega
    have hw3 : IntKind.i64.wrap ((m : Int) + (q : Int)) = (m : Int) + (q : Int) := by rw [IntKind.wrap_i64]; omega
    clear hsh hfz hqT hT
    go_enter Try.func72, Try.ntmps72
    go_wp2_with fail
    go_region
    go_wp2_with (at_builtin; refine wpList_zeros_O rfl _ _ 22 28 3 i0 (.slice none 0 0) 1 24 .i64 .i64 rfl Try.underlying22 Try.underlying3 hi0 hz0 hz1 hz2 rfl (by decide) B n g vc (flat cdS r) HO.out i (m + q) T (by have := HqT.out; omega) rfl rfl (by omega) (by omega) hbig (by unfold maxLen; omega) (by omega) ?_)
    intro G w1 Z hown hZ hG hfr
    have HO1 := hideP hown
    have HF1 := hideP hfr
    have HN1 := hideP (show ∀ k u, (flat cdS l)[k]? = some u → w1.cell? ((⟨gx, 0, none⟩ : Addr).add k) = some u from fun k u hu => by
      rw [Addr.add_lit]
      have := HN.out k u hu
      rw [Addr.add_lit] at this
      exact (Below.cell hfr HXb.out.lt).trans this)
    have HZ := hideP hZ
    have hGi : ¬ (G = i) := by omega
    have hGm : ¬ (G = i + m) := by omega
    clear hown hfr hZ
    go_wp2_with (refine wpList_copy_O rfl (.tmp 70) (.tmp 71) 22 22 28 i0 1 rfl Try.underlying22 hi0 hz1 w.heap.size T w.heap.size G 28 _ HO1.out i (T - i) (G - i) ⟨gx, 0, none⟩ m _ m rfl rfl HMm.out (flat cdS l) HVl.out HN1.out HQv.out HV1.out ?_)
    intro w2 hown2 hg2
    have HO2 := hideP hown2
    have HF2 := hideP (Grown.new HF1.out hg2 (Nat.le_refl _))
    clear hown2 hg2
    have HS2 := hideP (show ∀ k u, ((flat cdS r).drop j)[k]? = some u → w2.cell? ((⟨g, j, none⟩ : Addr).add k) = some u from fun k u hu => by
      have := HLs.out k u hu
      rw [Addr.add_lit] at this ⊢
      exact (Below.cell HF2.out hgs).trans this)
    have HR := hideP (show splice (splice ((flat cdS r).take i ++ Z) i (flat cdS l)) (i + m) ((flat cdS r).drop j) = FIN by
      rw [HFin.out]
      exact splice_fill (by rw [HVl.out, Nat.mul_one]) (by rw [List.length_take, HXl.out]; omega) (by have h1 := HZ.out; have h2 := HDl.out; omega))
    clear HO1 HN1
    generalize splice ((flat cdS r).take i ++ Z) i (flat cdS l) = Y2 at HO2 HR
    generalize (flat cdS r).drop j = Xd at HS2 HDq HQd HD1 HR
    go_wp2_with fail
    go_region_law (refine step_copy_O rfl _ _ 22 22 28 i0 1 rfl Try.underlying22 hi0 hz1 w.heap.size T w.heap.size G 28 Y2 HO2.out (i + m) (T - (i + m)) (G - (i + m)) ⟨g, j, none⟩ q (vc - j) q (by simp [Act.eval, Act.put]) (by simp [Act.eval, Act.put]) HMn.out Xd HDq.out HS2.out HQd.out HD1.out ?_; intro w3 hown3 hg3)
    have HO3 := hideP hown3
    have HF3 := hideP (Grown.new (Fr.drew HF2.out) hg3 (Nat.le_refl _))
    clear hown3 hg3
    go_wp2_with fail
    go_ret
    exact ⟨_, rfl, own_low (by rw [← HR.out]; exact HO3.out) HB.out, by first | exact Grown.fr HF3.out | exact Grown.drew (Grown.fr HF3.out), .inr ⟨_, rfl, Nat.le_refl _⟩⟩
  have hTc : T ≤ vc := by omega
  have hcm2 : ¬ (vc = i + m) := by omega
  rcases hk with ⟨rfl, rfl⟩ | ⟨rfl, rfl⟩
  · -- one more
    have ij : (i : Int) ≤ (i : Int) + 1 := by omega
    have jn : (i : Int) + 1 ≤ (n : Int) := by omega
    have jc : (i : Int) + 1 ≤ (vc : Int) := by omega
    have jw : IntKind.i64.wrap ((i : Int) + 1) = (i : Int) + 1 := by rw [IntKind.wrap_i64]; omega
    have j0 : (0 : Int) ≤ (i : Int) + 1 := by omega
    have jt : ((i : Int) + 1).toNat = i + 1 := by omega
    have jb : ((i : Int) == (i : Int) + 1) = false := by simp; omega
    have jm : ((i : Int) + 1 == (n : Int)) = false := by simp; omega
    have mw : IntKind.i64.wrap ((i : Int) + 2) = (i : Int) + 2 := by rw [IntKind.wrap_i64]; omega
    have m0 : (0 : Int) ≤ (i : Int) + 2 := by omega
    have mt : ((i : Int) + 2).toNat = i + 2 := by omega
    have hqT := HqT.out
    have mT : (i : Int) + 2 ≤ (i : Int) + 2 + (q : Int) := by omega
    have mT2 : (i : Int) + 2 ≤ (T : Int) := by omega
    have qw : IntKind.i64.wrap ((i : Int) + 2 + (q : Int)) = (i : Int) + 2 + (q : Int) := by rw [IntKind.wrap_i64]; omega
    have q0 : (0 : Int) ≤ (i : Int) + 2 + (q : Int) := by omega
    have qt : ((i : Int) + 2 + (q : Int)).toNat = T := by omega
    have qc : (i : Int) + 2 + (q : Int) ≤ (vc : Int) := by omega
    have qg : ((vc : Int) < (i : Int) + 2 + (q : Int)) = False := by simp; omega
    have qn : n - (i + 1) = q := hq
    clear hqT hT hij hjn hjc hbq hbn hq
    have hle2 : ((i : Int) + 2 ≤ (i : Int) + 1) = False := by simp
    obtain ⟨Y, hY, hmore⟩ := own_more HO.out 1 (by omega)
    have hTn : T = n + 1 := by omega
    rw [← hTn] at hmore
    have HM := hideP hmore
    have HY := hideP hY
    have hsz : ∀ w, (Go.sizeOf 28).run Try.prog w = .ok 1 w := fun w => by simp [sizeOf, typeInfo, hi0, hz1]
    have hov : ∀ lb cb c2, (callFunc 79 #[.slice (some ⟨g, i + 2, none⟩) lb cb, .slice (some ⟨gx, 0, none⟩) 2 c2]).run Try.prog w.drew = .ok (.value (.bool false)) w.drew := fun lb cb c2 => by
      rw [run_callFunc_extern Try.func79 (by kernel_rfl) (by kernel_rfl) (by kernel_rfl) (e := Extern.SlicesOverlaps.overlaps #[22, 22] #[4]) (by kernel_rfl),
        Lib.run_overlaps_apart w.drew 22 4 28 Try.underlying22 1 hsz ⟨g, i + 2, none⟩ ⟨gx, 0, none⟩ lb cb 2 c2 HNx.out 28 28 (vc * 1) xs.size hsh (show w.shape? gx = _ by have := HXb.out; unfold Blk at this; simp [World.shape?, this]) hxs (hfz _) (hfz _)]
      rfl
    have HR := hideP (show splice (splice (flat cdS r ++ Y) (i + 2) ((flat cdS r).drop (i + 1))) i (flat cdS l) = FIN by
      rw [HFin.out, splice_push (by rw [HVl.out]) (by rw [List.length_append, HXl.out, HY.out, HDl.out]; omega), List.take_append_of_le_length (by rw [HXl.out]; omega)])
    clear hmore hY hsh hfz hsz hTn hxs
    generalize (flat cdS r).drop (i + 1) = Xd at HLs HDq HQd HD1 HR
    generalize flat cdS r ++ Y = XY at HM HR
    go_enter Try.func72, Try.ntmps72
    go_wp2_with fail
    go_region
    go_wp2_with (simp only [hov])
    go_region_law (refine step_copy_O rfl _ _ 22 22 28 i0 1 rfl Try.underlying22 hi0 hz1 B T g vc 28 XY HM.out (i + 2) (T - (i + 2)) (vc - (i + 2)) ⟨g, i + 1, none⟩ q (vc - (i + 1)) q (by simp [Act.eval, Act.put]) (by simp [Act.eval, Act.put]) HMn.out Xd HDq.out HLs.out HQd.out HD1.out ?_; intro w1 hown1 hg1)
    have HO1 := hideP hown1
    have HG1 := hideP (show w.grownBy w1 (some g) by first | exact hg1 | exact Grown.drew hg1 | exact Grown.drew (Grown.drew hg1))
    have HN1 := hideP (show ∀ k u, (flat cdS l)[k]? = some u → w1.cell? ((⟨gx, 0, none⟩ : Addr).add k) = some u from fun k u hu => by
      rw [Addr.add_lit]
      have := HN.out k u hu
      rw [Addr.add_lit] at this
      exact HG1.out.cell this (by simp; exact Ne.symm HNx.out))
    clear hown1 hg1
    go_wp2_with (refine wpList_copy_O rfl (.tmp 133) (.tmp 134) 22 22 28 i0 1 rfl Try.underlying22 hi0 hz1 B T g vc 28 _ HO1.out i (T - i) (vc - i) ⟨gx, 0, none⟩ 2 _ 2 rfl rfl HMm.out (flat cdS l) HVl.out HN1.out HQv.out HV1.out ?_)
    intro w2 hown2 hg2
    have HO2 := hideP hown2
    have HG2 := hideP (Grown.trans HG1.out hg2)
    clear hown2 hg2
    go_wp2_with fail
    go_ret
    exact ⟨_, rfl, by rw [← HR.out]; exact HO2.out, by rw [← HOb.out]; exact HG2.out, .inl (by rw [← HOb.out]; rfl)⟩
  · -- one less
    have ij : (i : Int) ≤ (i : Int) + 2 := by omega
    have jn : (i : Int) + 2 ≤ (n : Int) := by omega
    have jc : (i : Int) + 2 ≤ (vc : Int) := by omega
    have jw : IntKind.i64.wrap ((i : Int) + 2) = (i : Int) + 2 := by rw [IntKind.wrap_i64]; omega
    have j0 : (0 : Int) ≤ (i : Int) + 2 := by omega
    have jt : ((i : Int) + 2).toNat = i + 2 := by omega
    have jb : ((i : Int) == (i : Int) + 2) = false := by simp; omega
    have jm : ((i : Int) + 2 == (n : Int)) = false := by simp; omega
    have mw : IntKind.i64.wrap ((i : Int) + 1) = (i : Int) + 1 := by rw [IntKind.wrap_i64]; omega
    have m0 : (0 : Int) ≤ (i : Int) + 1 := by omega
    have mt : ((i : Int) + 1).toNat = i + 1 := by omega
    have hqT := HqT.out
    have mT : (i : Int) + 1 ≤ (i : Int) + 1 + (q : Int) := by omega
    have mT2 : (i : Int) + 1 ≤ (T : Int) := by omega
    have qw : IntKind.i64.wrap ((i : Int) + 1 + (q : Int)) = (i : Int) + 1 + (q : Int) := by rw [IntKind.wrap_i64]; omega
    have q0 : (0 : Int) ≤ (i : Int) + 1 + (q : Int) := by omega
    have qt : ((i : Int) + 1 + (q : Int)).toNat = T := by omega
    have qc : (i : Int) + 1 + (q : Int) ≤ (vc : Int) := by omega
    have qg : ((vc : Int) < (i : Int) + 1 + (q : Int)) = False := by simp; omega
    have qn : n - (i + 2) = q := hq
    clear hqT hT hij hjn hjc hbq hbn hq
    have hTn : T = n - 1 := by omega
    have hle2 : ((i : Int) + 1 ≤ (i : Int) + 2) := by omega
    have hcT : ¬ (vc = T) := by omega
    have hnT : n - T = 1 := by omega
    have hTn2 : (T : Int) ≤ (n : Int) := by omega
    have hz : ∀ w, (zeroValue 28).run Try.prog w = .ok (.slice none 0 0) w := fun w => by simp [zeroValue, typeInfo, hi0, hz0]
    have HZ := hideP hz
    have HQv2 := hideP (show i + (flat cdS l).length ≤ n * 1 by rw [HVl.out]; omega)
    have HQd2 := hideP (show i + 1 + ((flat cdS r).drop (i + 2)).length ≤ n * 1 by rw [HDl.out]; omega)
    have HR := hideP (show (splice (splice (flat cdS r) i (flat cdS l)) (i + 1) ((flat cdS r).drop (i + 2))).take (T * 1) = FIN by
      rw [HFin.out, ← splice_close (by rw [HVl.out]) (by rw [HDl.out, HXl.out]; omega), HDl.out, Nat.mul_one, HT.out])
    have HBd := hideP (show (splice (flat cdS r) i (flat cdS l)).drop (i + 2) = (flat cdS r).drop (i + 2) from splice_behind rfl (by rw [HVl.out]; omega) (by rw [HXl.out]; omega))
    clear hz hsh hfz hTn
    go_enter Try.func72, Try.ntmps72
    go_wp2_with fail
    go_region
    go_wp2_with (refine wpList_copy_O rfl (.tmp 95) (.tmp 96) 22 22 28 i0 1 rfl Try.underlying22 hi0 hz1 B n g vc 28 _ HO.out i (T - i) (vc - i) ⟨gx, 0, none⟩ 1 _ 1 rfl rfl HMm.out (flat cdS l) HVl.out HN.out HQv2.out HV1.out ?_)
    intro w1 hown1 hg1
    have HO1 := hideP hown1
    have HG1 := hideP (show w.grownBy w1 (some g) by first | exact hg1 | exact Grown.drew hg1 | exact Grown.drew (Grown.drew hg1))
    have HS2 := hideP (show ∀ k u, ((flat cdS r).drop (i + 2))[k]? = some u → w1.drew.cell? ((⟨g, i + 2, none⟩ : Addr).add k) = some u from fun k u hu => by
      rw [Addr.add_lit]
      rw [← HBd.out, List.getElem?_drop] at hu
      have := HO1.out.cells (g := g) rfl _ u hu
      rw [Addr.add_lit, Nat.zero_add] at this
      exact this)
    clear hown1 hg1
    generalize (flat cdS r).drop (i + 2) = Xd at HS2 HDq HQd2 HD1 HR
    go_wp2_with fail
    go_region_law (refine step_copy_O rfl _ _ 22 22 28 i0 1 rfl Try.underlying22 hi0 hz1 B n g vc 28 _ HO1.out (i + 1) (T - (i + 1)) (vc - (i + 1)) ⟨g, i + 2, none⟩ q (vc - (i + 2)) q (by simp [Act.eval, Act.put]) (by simp [Act.eval, Act.put]) HMn.out Xd HDq.out HS2.out HQd2.out HD1.out ?_; intro w2 hown2 hg2)
    have hcut := own_cut hown2 T (by omega)
    rw [HR.out] at hcut
    have HO2 := hideP hcut
    have HG2 := hideP (Grown.trans HG1.out (Grown.drew hg2))
    clear hown2 hg2 hcut
    go_wp2_with (refine wpList_clear_O rfl (.tmp 110) 22 28 (.slice none 0 0) 1 rfl Try.underlying22 HZ.out (by decide) (by decide) rfl B T g vc 28 FIN HO2.out T 1 (vc - T) rfl (Nat.mul_one _).symm (by decide) (by omega) ?_)
    intro w3 hown3 hg3
    have HO3 := hideP hown3
    have HG3 := hideP (Grown.trans HG2.out hg3)
    clear hown3 hg3
    go_wp2_with fail
    go_ret
    exact ⟨_, rfl, HO3.out, by rw [← HOb.out]; exact HG3.out, .inl (by rw [← HOb.out]; rfl)⟩
end Go.Proofs.Ytmemapfboefngaa
