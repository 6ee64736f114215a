/-
  What the document's SortedOf answers: each one put behind those that are not greater.
-/
import Derived.Test.YtjadmefiilkgmaaGreatDoorSrtM
import Derived.Test.YtjadmefiilkgmaaGreatDoorRefLess
import Derived.Test.YtjadmefiilkgmaaGreatDoorOf
namespace Go.Proofs.YtjadmefiilkgmaaGreatDoor
open Go.ChangeShapes Go.WideShapes Go.ChangeAt Go.RowKit
set_option linter.unusedVariables false
set_option linter.unusedSimpArgs false
set_option maxRecDepth 100000

theorem srt_nil0 : SM.srt [] = [] := List.eq_nil_of_length_eq_zero (by rw [SM.srt_len]; rfl)
def Ov (B : Nat) (v : Value) (l : List VM.Vl) (w : World) : Prop := w.ownsRow B 23 3 v l.length (rowV l)
theorem own_fr {w w' : World} {base : Nat} {e : TypeId} {size : Nat} {v : Value} {n : Nat} {xs : List Value} (h : w.ownsRow base e size v n xs) (f : Fr w w') : w'.ownsRow base e size v n xs := by
  refine ⟨h.1, ?_⟩
  rcases h.2 with h0 | ⟨g, cap, cur, h1, h2, h3, h4⟩
  · exact Or.inl h0
  · exact Or.inr ⟨g, cap, cur, h1, h2, (Below.block f g (Array.getElem?_eq_some_iff.1 h3).1).trans h3, h4⟩
theorem cellF {w w' : World} {a : Addr} {v : Value} (h : w.cell? a = some v) (f : Fr w w') : w'.cell? a = some v := (Below.cell f (World.block_lt_of_cell? _ _ h)).trans h
theorem s6_afr {w w' : World} {a b c a2 b2 c2 : Addr} {u v z u2 v2 z2 : Value} (f : Fr w w') (h : w.cell? a = some u ∧ w.cell? b = some v ∧ w.cell? c = some z ∧ w.cell? a2 = some u2 ∧ w.cell? b2 = some v2 ∧ w.cell? c2 = some z2) : w'.cell? a = some u ∧ w'.cell? b = some v ∧ w'.cell? c = some z ∧ w'.cell? a2 = some u2 ∧ w'.cell? b2 = some v2 ∧ w'.cell? c2 = some z2 := ⟨cellF h.1 f, cellF h.2.1 f, cellF h.2.2.1 f, cellF h.2.2.2.1 f, cellF h.2.2.2.2.1 f, cellF h.2.2.2.2.2 f⟩
/-- the cells of a row of one's own -/
theorem Ov.at {B g n cap : Nat} {l : List VM.Vl} {w : World} (h : w.ownsRow B 23 3 (.slice (some ⟨g, 0, none⟩) n cap) n (rowV l)) (hn : n = l.length) (i : Nat) (hi : i < l.length) :
    w.cell? ⟨g, i * 3, none⟩ = some (.int .i64 l[i].k) ∧ w.cell? ⟨g, i * 3 + 1, none⟩ = some (.int .i64 l[i].n) ∧ w.cell? ⟨g, i * 3 + 2, none⟩ = some (.string l[i].s) := by
  subst hn
  obtain ⟨a, b, c⟩ := rowV_get l i hi
  exact ⟨(h.cellAt _ (by omega)).trans a, (h.cellAt _ (by omega)).trans b, (h.cellAt _ (by omega)).trans c⟩
theorem mid0 (A B : List VM.Vl) (x : VM.Vl) (h : A.length < (A ++ x :: B).length) : (A ++ x :: B)[A.length] = x := by simp
theorem mid1 (A B : List VM.Vl) (x y : VM.Vl) (h : A.length + 1 < (A ++ y :: x :: B).length) : (A ++ y :: x :: B)[A.length + 1] = x := by
  rw [List.getElem_append_right (by omega)]
  simp

set_option maxHeartbeats 4000000 in
theorem sortedOf_any (v : Value) (l : List VM.Vl) (w : World) (hr : IsRow w v l) (hl : l.length ≤ 40) (hs : ∀ x ∈ l, x.s.size ≤ maxLen) :
    Calls Tryz.prog 23 #[v] w fun e w' => ∃ v', e = .returned v' ∧ Fr w w' ∧ IsRow w' v' (SM.srt l) := by
  obtain ⟨i0, hi0, hz0, hz1, hz2⟩ := info_parts Tryz.infoVal
  obtain ⟨a, cap, rfl, hcs⟩ := hr
  have HC : Hid _ := hcs
  have HS : Hid _ := hs
  clear hcs hs
  go_enter Tryz.func23, Tryz.ntmps23
  go_wp2_with fail
  go_loopw [3, 4] (fun ov iv wr => ∃ i : Nat, iv = .int .i64 i ∧ i ≤ l.length ∧ Ov w.heap.size ov (SM.srt (l.take i)) wr ∧ Fr w wr) (fun _ iv _ => l.length - (intOf iv).toNat)
  case atStart =>
    refine ⟨0, rfl, Nat.zero_le _, ?_, Fr.refl _⟩
    rw [List.take_zero, srt_nil0]
    exact World.ownsRow_nil _ _ _ _
  case round =>
    obtain ⟨i, rfl, hi, hown, hfr⟩ := hrel
    have hA : (SM.srt (l.take i)).length = i := by rw [SM.srt_len, List.length_take]; omega
    obtain ⟨av, cap0, rfl⟩ : ∃ a cap, u3 = .slice a i cap := by
      rcases hown.2 with ⟨hv, h0⟩ | ⟨g, cap, cur, hv, _⟩
      · exact ⟨none, 0, by rw [hv, ← hA, h0]⟩
      · exact ⟨_, cap, by rw [hv, hA]⟩
    by_cases hlt : i < l.length
    · have hltZ : (i : Int) < (l.length : Int) := by omega
      obtain ⟨b, o, rfl, hb, hc⟩ : ∃ b o, a = some ⟨b, o, none⟩ ∧ b < w.heap.size ∧ CellsAt w b o l := by
        rcases HC.out with h | h
        · subst h; simp at hlt
        · exact h
      obtain ⟨c0, c1, c2⟩ := (hc.fr hb hfr) i hlt
      have hle := hfr.size
      have hxs := HS.out l[i] (List.getElem_mem hlt)
      have HT : Hid (l.take (i + 1) = l.take i ++ [l[i]]) := List.take_succ_eq_append_getElem hlt
      generalize l[i] = x at *
      obtain ⟨xk, xn, xs⟩ := x
      simp only at c0 c1 c2 hxs
      have HSA : Hid (∀ y ∈ SM.srt (l.take i), y.s.size ≤ maxLen) := fun y hy => HS.out y (List.mem_of_mem_take ((SM.srt_perm _).mem_iff.1 hy))
      have HA : Hid (SM.srt (l.take i) = SM.srt (l.take i)) := rfl
      obtain ⟨A, hAe⟩ : ∃ A, SM.srt (l.take i) = A := ⟨_, rfl⟩
      rw [hAe] at hown hA HSA
      have HAE : Hid _ := hAe
      unfold Ov at hown
      rw [hA] at hown
      have HFR : Hid _ := hfr
      clear hc hfr hAe HA
      go_wp2_with (at_builtin; refine wpList_append_own _ rfl _ _ 28 rfl w.heap.size 23 i0 (.agg #[.int .i64 0, .int .i64 0, .string ⟨#[]⟩]) 3 32 Tryz.underlying28 hi0 hz0 hz1 hz2 rfl (by decide) _ _ _ rfl (hown.alloc _) ⟨wr.heap.size, 0, none⟩ 1 1 [.int .i64 xk, .int .i64 xn, .string xs] rfl rfl ?c1 ?c2 ?c3 ?c4 ?c5 ?_)
      case c1 =>
        intro j u hj
        match j, hj with
        | 0, hj => simp at hj; subst hj; simp [Addr.add]
        | 1, hj => simp at hj; subst hj; simp [Addr.add]
        | 2, hj => simp at hj; subst hj; simp [Addr.add]
      case c2 => intro u hu; simp at hu; rcases hu with rfl | rfl | rfl <;> rfl
      case c3 => unfold maxLen; omega
      case c4 => omega
      case c5 => simp; omega
      intro v' w5 hown' hgrow hnil
      have HF5 : Hid (Fr w w5) := Below.grown (Fr.alloc HFR.out _) hgrow (by simp; omega) (fun q hq => (hown.lt q hq).1)
      obtain ⟨N, hN⟩ : ∃ N, i + 1 = N := ⟨_, rfl⟩
      rw [hN] at hown'
      obtain ⟨g, cap1, rfl, hgB, hgH⟩ : ∃ g c, v' = .slice (some ⟨g, 0, none⟩) N c ∧ w.heap.size ≤ g ∧ g < w5.heap.size := by
        rcases hown'.2 with ⟨h1, h2⟩ | ⟨g, cap', cur, h1, h2, h3, _⟩
        · exact (hnil h1).elim
        · exact ⟨g, cap', h1, h2, (Array.getElem?_eq_some_iff.1 h3).1⟩
      have HO5 : Hid (w5.ownsRow w.heap.size 23 3 (.slice (some ⟨g, 0, none⟩) N cap1) N (rowV (A ++ [⟨xk, xn, xs⟩]))) := by
        unfold Hid
        rw [rowV_snoc]
        exact hown'
      clear hown hown' hgrow hnil c0 c1 c2
      go_wp2_with fail
      go_loopw [5] (fun kv wx => ∃ (A1 A2 : List VM.Vl) (n : Nat), A1 ++ A2 = A ∧ A1.length = n ∧ kv = .int .i64 n ∧ (∀ y ∈ A2, SM.le ⟨xk, xn, xs⟩ y = true) ∧ wx.ownsRow w.heap.size 23 3 (.slice (some ⟨g, 0, none⟩) N cap1) N (rowV (A1 ++ ⟨xk, xn, xs⟩ :: A2)) ∧ Fr w wx) (fun kv _ => (intOf kv).toNat)
      case atStart => exact ⟨A, [], i, by simp, hA, rfl, by simp, HO5.out, HF5.out⟩
      case round =>
        obtain ⟨A1, A2, n, hAA, hn, rfl, hA2, ho, hf⟩ := hrel
        have hlen : A1.length + A2.length = i := by rw [← List.length_append, hAA, hA]
        rcases List.eq_nil_or_concat A1 with h0 | ⟨B, y, hB⟩
        · subst h0
          obtain rfl : n = 0 := hn.symm
          have HE : Hid (Ov w.heap.size (.slice (some ⟨g, 0, none⟩) N cap1) (SM.srt (l.take (i + 1))) wr) := by
            unfold Hid
            rw [HT.out, ← SM.srt_snoc (A1 := []) (A2 := A2) (by rw [hAA]; exact HAE.out.symm) hA2 (by intro B y h; simp at h)]
            unfold Ov
            have e9 : (([] : List VM.Vl) ++ (⟨xk, xn, xs⟩ : VM.Vl) :: A2).length = N := by simp at hlen ⊢; omega
            rw [e9]
            exact ho
          have HF : Hid _ := hf
          clear ho hf hA2 hAA hlen
          go_wp2_with fail
          go_quiet (fail)
          go_wp2_with fail
          go_roundw
          case rel => exact ⟨i + 1, by go_num, hlt, HE.out, Fr.drewN HF.out _⟩
          case measure => simp [intOf]; omega
        · rw [List.concat_eq_append] at hB
          subst hB
          obtain ⟨j, rfl⟩ : ∃ j, n = j + 1 := ⟨B.length, by rw [← hn]; simp⟩
          have hBj : B.length = j := by simp at hn; exact hn
          rw [List.append_assoc] at ho
          have ho' : wr.ownsRow w.heap.size 23 3 (.slice (some ⟨g, 0, none⟩) N cap1) N (rowV (B ++ y :: ⟨xk, xn, xs⟩ :: A2)) := ho
          have hLl : (B ++ y :: (⟨xk, xn, xs⟩ : VM.Vl) :: A2).length = N := by simp at hlen ⊢; omega
          have hji : j + 1 < N := by simp at hlen; omega
          have hys : y.s.size ≤ maxLen := HSA.out y (by rw [← hAA]; simp)
          have hless := fun W => valueLess_any ⟨xk, xn, xs⟩ y W hxs hys
          have hcY := Ov.at ho' hLl.symm j (by omega)
          have hcX := Ov.at ho' hLl.symm (j + 1) (by omega)
          subst hBj
          rw [mid0] at hcY
          rw [mid1] at hcX
          have HXY : Hid (CM.ord ⟨xk, xn, xs⟩ y < 0 → SM.le ⟨xk, xn, xs⟩ y = true) := SM.le_of_lt
          have HYX : Hid (¬ CM.ord ⟨xk, xn, xs⟩ y < 0 → SM.le y ⟨xk, xn, xs⟩ = true) := SM.le_of_not
          have HSW := rowV_swap B A2 ⟨xk, xn, xs⟩ y (B.length * 3) rfl
          generalize CM.ord ⟨xk, xn, xs⟩ y = od at *
          obtain ⟨yk, yn, ys⟩ := y
          unfold VM.Vl.val at hless
          simp only at hcY hcX hless HSW
          obtain ⟨c0, c1, c2⟩ := hcX
          obtain ⟨d0, d1, d2⟩ := hcY
          have HL : Hid _ := hLl
          have HAA : Hid _ := hAA
          have HA2 : Hid _ := hA2
          have HSW' : Hid _ := HSW
          have HO : Hid _ := ho'
          have HF : Hid _ := hf
          obtain ⟨j, hBj⟩ : ∃ j, B.length = j := ⟨_, rfl⟩
          rw [hBj] at c0 c1 c2 d0 d1 d2 hji
          have HBJ : Hid _ := hBj
          have kZ : (((B.length + 1 : Nat) : Int)) = (j : Int) + 1 := by rw [hBj]; omega
          rw [kZ]
          have jiZ : (j : Int) + 1 < (N : Int) := by omega
          have jiY : (j : Int) < (N : Int) := by omega
          have pj : (0 : Int) ≤ (j : Int) := by omega
          have wj : IntKind.i64.wrap (j : Int) = (j : Int) := by simp only [IntKind.wrap]; simp [IntKind.min, IntKind.max, IntKind.signed, IntKind.bits]; omega
          have kpos : (0 : Int) < (j : Int) + 1 := by omega
          have kge : (0 : Int) ≤ (j : Int) + 1 := by omega
          have wjm : IntKind.i64.wrap ((j : Int) + 1 - 1) = (j : Int) := by rw [show (j : Int) + 1 - 1 = (j : Int) by omega]; simp only [IntKind.wrap]; simp [IntKind.min, IntKind.max, IntKind.signed, IntKind.bits]; omega
          clear hLl hAA hA2 HSW ho' ho hf hn hlen hBj kZ HSA hys
          by_cases hod : od < 0
          · have hod' : decide (od < 0) = true := by rw [decide_eq_true_eq]; exact hod
            rw [hod'] at hless
            have HLE : Hid (SM.le ⟨xk, xn, xs⟩ ⟨yk, yn, ys⟩ = true) := HXY.out hod
            clear hod'
            go_wp2_with fail
            go_region_held3 (fun W' => W'.cell? ⟨g, (j + 1) * 3, none⟩ = some (.int .i64 xk) ∧ W'.cell? ⟨g, (j + 1) * 3 + 1, none⟩ = some (.int .i64 xn) ∧ W'.cell? ⟨g, (j + 1) * 3 + 2, none⟩ = some (.string xs) ∧ W'.cell? ⟨g, j * 3, none⟩ = some (.int .i64 yk) ∧ W'.cell? ⟨g, j * 3 + 1, none⟩ = some (.int .i64 yn) ∧ W'.cell? ⟨g, j * 3 + 2, none⟩ = some (.string ys)) (first | exact ⟨c0, c1, c2, d0, d1, d2⟩ | assumption | exact s6_afr (by assumption) (by assumption)) (first | (go_at_call 32; refine (hless _).mono ?_; rintro e w4 ⟨rfl, hfx⟩))
            all_goals
              have o4 := own_fr (own_fr HO.out (Fr.drew (Fr.refl _))) hfx
              have HF4 : Hid (Fr w w4) := Fr.trans (Fr.drew HF.out) hfx
              have S4 := s6_afr hfx (s6_afr (Fr.drew (Fr.refl wr)) ⟨c0, c1, c2, d0, d1, d2⟩)
              have t1 := o4.stored ((j + 1) * 3) (.int .i64 yk)
              have t2 := t1.1.stored ((j + 1) * 3 + 1) (.int .i64 yn)
              have t3 := t2.1.stored ((j + 1) * 3 + 2) (.string ys)
              have t4 := t3.1.stored (j * 3) (.int .i64 xk)
              have t5 := t4.1.stored (j * 3 + 1) (.int .i64 xn)
              have t6 := t5.1.stored (j * 3 + 2) (.string xs)
              have z0 := o4.frozenAt ((j + 1) * 3)
              have z1 := o4.frozenAt ((j + 1) * 3 + 1)
              have z2 := o4.frozenAt ((j + 1) * 3 + 2)
              have y0 := t3.1.frozenAt (j * 3)
              have y1 := t3.1.frozenAt (j * 3 + 1)
              have y2 := t3.1.frozenAt (j * 3 + 2)
              have HT6 : Hid (((((((w4.setCell ⟨g, (j + 1) * 3, none⟩ (.int .i64 yk)).setCell ⟨g, (j + 1) * 3 + 1, none⟩ (.int .i64 yn)).setCell ⟨g, (j + 1) * 3 + 2, none⟩ (.string ys)).setCell ⟨g, j * 3, none⟩ (.int .i64 xk)).setCell ⟨g, j * 3 + 1, none⟩ (.int .i64 xn)).setCell ⟨g, j * 3 + 2, none⟩ (.string xs)).ownsRow w.heap.size 23 3 (.slice (some ⟨g, 0, none⟩) N cap1) N (rowV (B ++ ⟨xk, xn, xs⟩ :: ⟨yk, yn, ys⟩ :: A2))) := by
                have h := t6.1
                have e := HSW'.out
                rw [HBJ.out] at e
                rw [show (j + 1) * 3 = j * 3 + 3 by omega] at h ⊢
                rw [e] at h
                exact h
              have HF6 : Hid (Fr w ((((((w4.setCell ⟨g, (j + 1) * 3, none⟩ (.int .i64 yk)).setCell ⟨g, (j + 1) * 3 + 1, none⟩ (.int .i64 yn)).setCell ⟨g, (j + 1) * 3 + 2, none⟩ (.string ys)).setCell ⟨g, j * 3, none⟩ (.int .i64 xk)).setCell ⟨g, j * 3 + 1, none⟩ (.int .i64 xn)).setCell ⟨g, j * 3 + 2, none⟩ (.string xs))) :=
                Below.setCell (p := ⟨g, j * 3 + 2, none⟩) (Below.setCell (p := ⟨g, j * 3 + 1, none⟩) (Below.setCell (p := ⟨g, j * 3, none⟩) (Below.setCell (p := ⟨g, (j + 1) * 3 + 2, none⟩) (Below.setCell (p := ⟨g, (j + 1) * 3 + 1, none⟩) (Below.setCell (p := ⟨g, (j + 1) * 3, none⟩) HF4.out hgB _) hgB _) hgB _) hgB _) hgB _) hgB _
              obtain ⟨k0, k1, k2, m0, m1, m2⟩ := S4
              clear o4 t1 t2 t3 t4 t5 t6 hfx hless c0 c1 c2 d0 d1 d2 hod
              go_wp2_with fail
              go_region
              go_wp2_with fail
              go_roundw
              case rel => exact ⟨B, ⟨yk, yn, ys⟩ :: A2, j, by rw [← HAA.out]; simp, HBJ.out, by go_num, fun z hz => by rcases List.mem_cons.1 hz with rfl | hz; exact HLE.out; exact HA2.out z hz, HT6.out.drew, Fr.drew HF6.out⟩
              case measure => simp [intOf]
          · have hod' : decide (od < 0) = false := by rw [decide_eq_false_iff_not]; exact hod
            rw [hod'] at hless
            have HE : Hid (∀ wz, wz.ownsRow w.heap.size 23 3 (.slice (some ⟨g, 0, none⟩) N cap1) N (rowV (B ++ ⟨yk, yn, ys⟩ :: ⟨xk, xn, xs⟩ :: A2)) → Ov w.heap.size (.slice (some ⟨g, 0, none⟩) N cap1) (SM.srt (l.take (i + 1))) wz) := by
              intro wz hz
              have e := SM.srt_snoc (l := l.take i) (A1 := B ++ [⟨yk, yn, ys⟩]) (A2 := A2) (x := ⟨xk, xn, xs⟩) (by rw [HAA.out]; exact HAE.out.symm) HA2.out (by
                intro B' y' h
                have := List.append_inj_right' h rfl
                simp at this
                subst this
                exact HYX.out hod)
              rw [List.append_assoc] at e
              rw [HT.out, ← e]
              unfold Ov
              have e9 : (B ++ ([(⟨yk, yn, ys⟩ : VM.Vl)] ++ (⟨xk, xn, xs⟩ : VM.Vl) :: A2)).length = N := HL.out
              rw [e9]
              exact hz
            clear hod' hod
            go_wp2_with fail
            go_region_held3 (fun W' => W'.cell? ⟨g, (j + 1) * 3, none⟩ = some (.int .i64 xk) ∧ W'.cell? ⟨g, (j + 1) * 3 + 1, none⟩ = some (.int .i64 xn) ∧ W'.cell? ⟨g, (j + 1) * 3 + 2, none⟩ = some (.string xs) ∧ W'.cell? ⟨g, j * 3, none⟩ = some (.int .i64 yk) ∧ W'.cell? ⟨g, j * 3 + 1, none⟩ = some (.int .i64 yn) ∧ W'.cell? ⟨g, j * 3 + 2, none⟩ = some (.string ys)) (first | exact ⟨c0, c1, c2, d0, d1, d2⟩ | assumption | exact s6_afr (by assumption) (by assumption)) (first | (go_at_call 32; refine (hless _).mono ?_; rintro e w4 ⟨rfl, hfx⟩))
            all_goals
              have HOX : Hid _ := HE.out w4 (own_fr (own_fr HO.out (Fr.drew (Fr.refl _))) hfx)
              have HFX : Hid (Fr w w4) := Fr.trans (Fr.drew HF.out) hfx
              clear hfx hless
              go_wp2_with fail
              go_roundw
              case rel => exact ⟨i + 1, by go_num, hlt, HOX.out, HFX.out⟩
              case measure => simp [intOf]; omega
    · obtain rfl : i = l.length := by omega
      have hltZ : ¬ (l.length : Int) < (l.length : Int) := by omega
      have HR : Hid (IsRow wr (.slice av l.length cap0) (SM.srt l)) := by
        have h := row_of_own hown
        rw [List.take_length] at h
        exact h
      have HF : Hid _ := hfr
      clear hown hfr hA
      go_wp2_with fail
      go_ret
      exact ⟨_, rfl, HF.out, HR.out⟩
end Go.Proofs.YtjadmefiilkgmaaGreatDoor
