/-
  What In of package logic answers.
-/
import Derived.Test.YtppbmkkkjjkiiaaAsks2
namespace Go.Proofs.Ytppbmkkkjjkiiaa
open Go.ChangeShapes Go.WideShapes Go.ChangeAt Go.RowKit
set_option linter.unusedVariables false
set_option linter.unusedSimpArgs false

theorem cell_fr {w w' : World} {g j : Nat} {x : Value} (f : Fr w w') (h : w.cell? ⟨g, j, none⟩ = some x) : w'.cell? ⟨g, j, none⟩ = some x :=
  (Below.cell f (World.block_lt_of_cell? _ _ h)).trans h

def LG.inn (v : VM.Vl) (l : List VM.Vl) : Int := LG.any (l.map (LG.sm v))
/-- the error of In -/
def LG.inErr (v : VM.Vl) (l : List VM.Vl) : Nat := if 40 < l.length then 2 else if VM.chk v ≠ 0 then VM.chk v else VM.chkAll l
def LG.in2 (v : VM.Vl) (l : List VM.Vl) : Int := if LG.inErr v l = 0 then LG.inn v l else 0

theorem any_take {v : VM.Vl} {l : List VM.Vl} {k : Nat} (hlt : k < l.length) : LG.any ((l.take (k + 1)).map (LG.sm v)) = LG.or (LG.any ((l.take k).map (LG.sm v))) (LG.sm v l[k]) := by
  rw [List.take_succ_eq_append_getElem hlt, List.map_append, LG.any_app]
  generalize LG.any ((l.take k).map (LG.sm v)) = s
  show LG.or s (LG.or (LG.sm v l[k]) 0) = _
  rw [LG.or_nought]
  show max (LG.kn s) (LG.kn (LG.kn _)) = _
  rw [LG.kn_kn]
  rfl

set_option maxRecDepth 100000 in
set_option maxHeartbeats 1000000 in
theorem In_any (a : VM.Vl) (v : Value) (l : List VM.Vl) (w : World) (hr : IsRow w v l) (hbig : l.length ≤ 9223372036854775807) :
    Calls Try.prog 23 #[a.val, v] w fun e w' => e = .returned (.tuple #[.int .i64 (LG.in2 a l), .int .i64 (LG.inErr a l)]) ∧ Fr w w' := by
  have hrow := hr
  obtain ⟨A, cap, rfl, hcs⟩ := hr
  have HC : Hid _ := hcs
  clear hcs
  have HE : Hid (LG.inErr a l = if 40 < l.length then 2 else if VM.chk a ≠ 0 then VM.chk a else VM.chkAll l) := rfl
  have HI : Hid (LG.in2 a l = if LG.inErr a l = 0 then LG.inn a l else 0) := rfl
  have HT : Hid (∀ k (hlt : k < l.length), LG.any ((l.take (k + 1)).map (LG.sm a)) = LG.or (LG.any ((l.take k).map (LG.sm a))) (LG.sm a l[k])) := fun k hlt => any_take hlt
  have hsame := fun b W => same_any a b W
  have hchk := fun W => check_any a.k a.n a.s W
  have hca := fun W (f : Fr w W) => lcheckAll_any _ l W (hrow.fr f) hbig
  have HN : Hid (LG.inn a l = LG.any (l.map (LG.sm a))) := rfl
  generalize LG.inErr a l = e at *
  generalize LG.in2 a l = r at *
  generalize LG.inn a l = y at *
  obtain ⟨ak, an, sa⟩ := a
  unfold VM.Vl.val at *
  simp only at hchk hsame ⊢
  by_cases h40 : 40 < l.length
  · have h40' : (40 : Int) < (l.length : Int) := by omega
    have HE1 : Hid (e = 2) := HE.out.trans (if_pos h40)
    have HI1 : Hid (r = 0) := HI.out.trans (if_neg (by rw [HE1.out]; decide))
    clear HE HI HT hsame hchk hca hrow h40
    go_enter Try.func23, Try.ntmps23
    go_wp2_with fail
    go_ret2
    exact ⟨ret_two HI1.out.symm (by rw [HE1.out]; rfl), (Fr.refl _).alloc _⟩
  have h40' : (l.length : Int) ≤ 40 := by omega
  have HE1 : Hid _ := HE.out.trans (if_neg h40)
  clear HE h40
  generalize hcv : VM.chk ⟨ak, an, sa⟩ = c at *
  generalize hcl : VM.chkAll l = d at *
  have HS : Hid _ := hsame
  have HCA : Hid _ := hca
  clear hsame hca hcv hcl hrow
  by_cases hc0 : c = 0
  · subst hc0
    have HE2 : Hid (e = d) := HE1.out.trans (if_neg (by simp))
    clear HE1
    go_enter Try.func23, Try.ntmps23
    go_wp2_with (go_at_call 36; refine (hchk _).mono ?_)
    rintro _ w1 ⟨rfl, hf1⟩
    have hbx : Fr w w1 := ((Fr.refl w).alloc _).trans hf1
    have hcc := HCA.out w1 hbx
    have b0 : w1.cell? ⟨w.heap.size, 0, none⟩ = some (.int .i64 ak) := cell_fr hf1 (by simp [go_sem])
    have b1 : w1.cell? ⟨w.heap.size, 1, none⟩ = some (.int .i64 an) := cell_fr hf1 (by simp [go_sem])
    have b2 : w1.cell? ⟨w.heap.size, 2, none⟩ = some (.string sa) := cell_fr hf1 (by simp [go_sem])
    have HB : Hid _ := hbx
    have K0 : Hid _ := b0
    have K1 : Hid _ := b1
    have K2 : Hid _ := b2
    clear hf1 hbx HCA b0 b1 b2 hchk
    go_wp2_with (go_at_call 33; refine hcc.mono ?_)
    rintro _ w2 ⟨rfl, hf2⟩
    have HF2 : Hid _ := Fr.trans HB.out hf2
    have HG : Hid _ := hf2
    clear hf2 hcc HB
    by_cases hd : d = 0
    · subst hd
      have HI1 : Hid (r = y) := HI.out.trans (if_pos HE2.out)
      clear HI
      go_wp2_with fail
      go_loopw [8, 26] (fun sv iv wr => ∃ (k : Nat) (s : Int), k ≤ l.length ∧ iv = .int .i64 k ∧ sv = .int .i64 s ∧ s = LG.any ((l.take k).map (LG.sm ⟨ak, an, sa⟩)) ∧ Fr w2 wr) (fun _ iv _ => l.length - (intOf iv).toNat)
      case atStart => exact ⟨0, 0, Nat.zero_le _, rfl, rfl, rfl, Fr.refl _⟩
      case round =>
        obtain ⟨k, s, hk, rfl, rfl, hs, hfr⟩ := hrel
        have HFR : Hid _ := hfr
        by_cases hlt : k < l.length
        · obtain ⟨b, o, rfl, hb, hc⟩ : ∃ b o, A = some ⟨b, o, none⟩ ∧ b < w.heap.size ∧ CellsAt w b o l := by
            rcases HC.out with h | h
            · subst h; simp at hlt
            · exact h
          obtain ⟨c0, c1, c2⟩ := (hc.fr hb (Fr.trans HF2.out hfr)) k hlt
          have b0 := cell_fr (Fr.trans HG.out hfr) K0.out
          have b1 := cell_fr (Fr.trans HG.out hfr) K1.out
          have b2 := cell_fr (Fr.trans HG.out hfr) K2.out
          have hstep := HT.out k hlt
          rw [← hs] at hstep
          have hsm := fun W => HS.out l[k] W
          generalize hx : l[k] = x at c0 c1 c2 hstep hsm
          have ho := fun W => or_any s (LG.sm ⟨ak, an, sa⟩ x) W
          generalize LG.sm ⟨ak, an, sa⟩ x = t at *
          generalize LG.or s t = q at *
          obtain ⟨xk, xn, xs⟩ := x
          simp only at c0 c1 c2 hsm
          have HST : Hid _ := hstep
          have HGB : Hid (b < w.heap.size) := hb
          have hgb : b ≠ w.heap.size := by omega
          have hgb2 : w.heap.size < wr.heap.size := World.block_lt_of_cell? _ _ b0
          clear hstep hs hx hc hfr hb
          go_wp2_with (go_at_call 35; refine (hsm _).mono ?_)
          rintro _ w3 ⟨rfl, hf3⟩
          have HF3 : Hid (Fr w2 w3) := Fr.trans (Fr.alloc HFR.out _) hf3
          clear hf3 c0 c1 c2 b0 b1 b2
          go_wp2_with (go_at_call 13; refine (ho _).mono ?_)
          rintro _ w4 ⟨rfl, rfl⟩
          go_wp2_with fail
          go_roundw
          case rel => exact ⟨k + 1, _, by omega, by go_num, rfl, HST.out.symm, HF3.out⟩
          case measure => simp [intOf]; omega
        · obtain rfl : k = l.length := by omega
          rw [List.take_length] at hs
          have HSS : Hid _ := hs
          clear hs hfr
          go_wp2_with fail
          go_ret2
          exact ⟨ret_two (by rw [HI1.out, HN.out, HSS.out]) (by rw [HE2.out]; rfl), Fr.trans HF2.out HFR.out⟩
    · have q1 : ((d : Int) != 0) = true := by simp; omega
      have q2 : ¬ ((d : Int) = 0) := by omega
      have HI1 : Hid (r = 0) := HI.out.trans (if_neg (by rw [HE2.out]; exact hd))
      clear HI
      go_wp2_with fail
      go_ret2
      exact ⟨ret_two HI1.out.symm (by rw [HE2.out]), HF2.out⟩
  · have q1 : ((c : Int) != 0) = true := by simp; omega
    have q2 : ¬ ((c : Int) = 0) := by omega
    have HE2 : Hid (e = c) := HE1.out.trans (if_pos hc0)
    have HI1 : Hid (r = 0) := HI.out.trans (if_neg (by rw [HE2.out]; exact hc0))
    clear HE1 HI HCA
    go_enter Try.func23, Try.ntmps23
    go_wp2_with (go_at_call 36; refine (hchk _).mono ?_)
    rintro _ w1 ⟨rfl, hf1⟩
    have HB : Hid (Fr w w1) := ((Fr.refl w).alloc _).trans hf1
    clear hf1
    go_wp2_with fail
    go_ret2
    exact ⟨ret_two HI1.out.symm (by rw [HE2.out]), HB.out⟩
end Go.Proofs.Ytppbmkkkjjkiiaa
