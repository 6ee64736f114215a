/-
  What Check of package catalog answers.
-/
import Derived.Test.YtefojbfihnnpdaaDoorCtC
namespace Go.Proofs.YtefojbfihnnpdaaDoor
open Go.ChangeShapes Go.WideShapes Go.ChangeAt Go.RowKit
set_option linter.unusedVariables false
set_option linter.unusedSimpArgs false
set_option maxRecDepth 100000
set_option maxHeartbeats 2000000

theorem ccheck_any (v : Value) (l : List CT.Sc) (w : World) (h : IsSc w v l) (hw : WS l) :
    Calls Tryd.prog 14 #[v] w fun e w' => e = .returned (.int .i64 (CT.chk l)) ∧ Fr w w' := by
  obtain ⟨ps, hL, hps, hcs⟩ := h
  obtain ⟨a, cap, rfl, hcap, hpc⟩ := hL
  have hpl : ps.length = l.length := by rw [← hps, List.length_map]
  rw [hpl] at hcap ⊢
  have HC := hideP hpc
  have HK := hideP hcs
  have HP := hideP hps
  have HPL := hideP hpl
  have HW := hideP hw
  have HT : Hid (CT.chk l = if 6 < l.length then 2 else CT.chkS 0 [] l) := rfl
  obtain ⟨z, hz⟩ : ∃ z, CT.chk l = z := ⟨_, rfl⟩
  rw [hz] at HT ⊢
  clear hpc hcs hps hpl hw hz
  have hmm := @run_makeMap Tryd.prog
  by_cases h6 : 6 < l.length
  · have h6' : (6 : Int) < (l.length : Int) := by omega
    replace HT := hideP (HT.out.trans (if_pos h6))
    go_enter Tryd.func14, Tryd.ntmps14
    go_wp2_with fail
    go_ret
    exact ⟨ret_int (by rw [HT.out]; rfl), Fr.refl w⟩
  have h6' : ¬ (6 : Int) < (l.length : Int) := by omega
  replace HT := hideP (HT.out.trans (if_neg h6))
  have F2 : Hid (Fr w (w.alloc (.map #[] 0))) := (Fr.refl w).alloc _
  have HS0 : Hid (Sn (w.alloc (.map #[] 0)) w.heap.size []) := Sn.made w
  go_enter Tryd.func14, Tryd.ntmps14
  go_wp2_with fail
  clear hmm
  go_loopw [3, 6, 7, 14] (fun lv _ _ iv wr => ∃ (i : Nat) (last : Int), iv = .int .i64 i ∧ lv = .int .i64 last ∧ i ≤ l.length ∧ Fr w wr ∧ Sn wr w.heap.size ((l.take i).map fun s => CT.bs s.n) ∧ z = CT.chkS last ((l.take i).map fun s => CT.bs s.n) (l.drop i)) (fun _ _ _ iv _ => l.length - (intOf iv).toNat)
  case atStart => exact ⟨0, 0, rfl, rfl, Nat.zero_le _, F2.out, HS0.out, HT.out⟩
  case round =>
    obtain ⟨i, last, rfl, rfl, hi, hfr, hsn, hall⟩ := hrel
    have HFr := hideP hfr
    have HSn := hideP hsn
    clear hfr hsn
    by_cases hlt : i < l.length
    · have hlt2 : i < ps.length := by rw [HPL.out]; exact hlt
      have hlt' : (i : Int) < (l.length : Int) := by omega
      obtain ⟨b, o, rfl, hb, hc⟩ : ∃ b o, a = some ⟨b, o, none⟩ ∧ b < w.heap.size ∧ At cdS w b o ps := by
        rcases HC.out with h | h
        · rw [h] at hlt2; simp at hlt2
        · exact h
      obtain ⟨c0, c1, c2⟩ := (hc.fr hb HFr.out).sc i hlt2
      have hpi : ps[i].1 = l[i] := by
        have e := HP.out
        subst e
        rw [List.getElem_map]
      have hcol := HK.out ps[i] (List.getElem_mem hlt2)
      rw [hpi] at c0 c1 hcol
      have hwi := HW.out l[i] (List.getElem_mem hlt)
      have htk0 : (l.take (i + 1)).map (fun s => CT.bs s.n) = (l.take i).map (fun s => CT.bs s.n) ++ [CT.bs l[i].n] := by
        rw [List.take_succ_eq_append_getElem hlt, List.map_append]; rfl
      rw [List.drop_eq_getElem_cons hlt, CT.chkS, ← htk0] at hall
      have hll : ((l.take i).map fun s => CT.bs s.n).length ≤ 1000 := by rw [List.length_map, List.length_take]; omega
      have cad := fun W (hs : Sn W w.heap.size ((l.take i).map fun s => CT.bs s.n)) => seenAdd_any w.heap.size _ l[i].n W hs hll hwi.1
      rw [show l[i].n.data.toList = CT.bs l[i].n from rfl, ← htk0] at cad
      have cct := fun W (f : Fr w W) => checkTable_any l[i].id l[i].n _ l[i].c W (hcol.fr f) hwi.1 hwi.2.1 hwi.2.2
      generalize ((l.take i).map fun s => CT.bs s.n) = seen at hall cad HSn
      generalize htk : ((l.take (i + 1)).map fun s => CT.bs s.n) = seen' at hall cad
      have HTk := hideP htk
      generalize ps[i].2 = sl at c2 cct hcol
      obtain ⟨sa, sn, sc⟩ := sl
      simp only [slV] at c2 cct
      generalize l[i].id = x0 at c0 hall cct
      generalize CT.chkT l[i].n l[i].c = ct at hall cct
      obtain ⟨qs, hqs⟩ : ∃ q, decide (CT.bs l[i].n ∈ seen) = q := ⟨_, rfl⟩
      rw [hqs] at cad
      have ho1 : (x0 < 1 ∨ 999 < x0) → z = 3 := fun e => by rw [hall, if_pos e]
      have ho2 : ¬ (x0 < 1 ∨ 999 < x0) → x0 ≤ last → z = 4 := fun e e2 => by rw [hall, if_neg e, if_pos e2]
      have ho3 : ¬ (x0 < 1 ∨ 999 < x0) → ¬ x0 ≤ last → ct ≠ 0 → z = ct := fun e e2 e3 => by rw [hall, if_neg e, if_neg e2, if_pos e3]
      have ho4 : ¬ (x0 < 1 ∨ 999 < x0) → ¬ x0 ≤ last → ct = 0 → qs = true → z = 6 := fun e e2 e3 e4 => by rw [hall, if_neg e, if_neg e2, if_neg (by simp [e3]), if_pos (by rw [e4] at hqs; exact of_decide_eq_true hqs)]
      have ho5 : ¬ (x0 < 1 ∨ 999 < x0) → ¬ x0 ≤ last → ct = 0 → qs = false → z = CT.chkS x0 seen' (l.drop (i + 1)) := fun e e2 e3 e4 => by rw [hall, if_neg e, if_neg e2, if_neg (by simp [e3]), if_neg (by rw [e4] at hqs; exact of_decide_eq_false hqs)]
      generalize l[i].n = x1 at c1 cad cct
      have HBC := hideP (Blk.new wr #[.int .i64 x0, .string x1, .slice sa sn sc] 39)
      have CCT := hideP cct
      clear hall hqs hc htk htk0 hwi hll hcol hpi cct hlt2
      by_cases g1 : x0 < 1
      · have HZ := hideP (ho1 (.inl g1))
        clear ho1 ho2 ho3 ho4 ho5
        go_wp2_with fail
        go_ret
        exact ⟨ret_int (by rw [HZ.out]; rfl), HFr.out.alloc _⟩
      by_cases g2 : 999 < x0
      · have HZ := hideP (ho1 (.inr g2))
        clear ho1 ho2 ho3 ho4 ho5
        go_wp2_with fail
        go_ret
        exact ⟨ret_int (by rw [HZ.out]; rfl), HFr.out.alloc _⟩
      by_cases g3 : x0 ≤ last
      · have HZ := hideP (ho2 (by omega) g3)
        clear ho1 ho2 ho3 ho4 ho5
        go_wp2_with fail
        go_ret
        exact ⟨ret_int (by rw [HZ.out]; rfl), HFr.out.alloc _⟩
      have g3' : (x0 ≤ last) = False := by simp; omega
      have HO3 := hideP (ho3 (by omega) g3)
      have HO4 := hideP (ho4 (by omega) g3)
      have HO5 := hideP (ho5 (by omega) g3)
      clear ho1 ho2 ho3 ho4 ho5
      have cc := CCT.out _ (HFr.out.alloc (.cells #[.int .i64 x0, .string x1, .slice sa sn sc] 39))
      by_cases g4 : ct = 0
      · subst g4
        replace HO4 := hideP (HO4.out rfl)
        replace HO5 := hideP (HO5.out rfl)
        clear HO3 CCT
        go_wp2_with fail
        refine cc.mono ?_
        rintro _ w3 ⟨rfl, f3⟩
        have HB3 := hideP (HBC.out.fr f3)
        have F3 : Hid (Fr w w3) := (HFr.out.alloc _).trans f3
        have HSn3 := hideP ((HSn.out.alloc _).fr f3)
        have d1 := HB3.out.cell 1 rfl
        clear f3 c0 c1 c2 HBC HSn cc
        go_wp2_with fail
        refine (cad _ HSn3.out).mono ?_
        rintro _ w5 ⟨rfl, hs5, g5⟩
        have F5 : Hid (Fr w w5) := Below.grown F3.out g5 F3.out.size (fun j hj => by cases hj; exact Nat.le_refl _)
        have HS5 := hideP hs5
        clear hs5 g5
        cases qs with
        | true =>
          have HZ := hideP (HO4.out rfl)
          clear HO4 HO5
          go_wp2_with fail
          go_ret
          exact ⟨ret_int (by rw [HZ.out]; rfl), F5.out⟩
        | false =>
          have HZ := hideP (HO5.out rfl)
          clear HO4 HO5
          go_wp2_with fail
          go_roundw
          case rel => exact ⟨i + 1, x0, by go_num, rfl, by omega, F5.out, by rw [HTk.out]; exact HS5.out, by rw [HTk.out]; exact HZ.out⟩
          case measure => simp [intOf]; omega
      · have HZ := hideP (HO3.out g4)
        have e1 : ((ct : Int) != 0) = true := by simp; omega
        have e2 : ¬ ((ct : Int) = 0) := by omega
        clear HO3 HO4 HO5 CCT
        go_wp2_with fail
        refine cc.mono ?_
        rintro _ w3 ⟨rfl, f3⟩
        go_wp2_with fail
        go_ret
        exact ⟨ret_int (by rw [HZ.out]), (HFr.out.alloc _).trans f3⟩
    · have HZ : Hid (z = 0) := by unfold Hid; rw [hall, List.drop_of_length_le (by omega)]; rfl
      have hlt' : ¬ (i : Int) < (l.length : Int) := by omega
      clear hall
      go_wp2_with fail
      go_ret
      exact ⟨ret_int (by rw [HZ.out]; rfl), HFr.out⟩
end Go.Proofs.YtefojbfihnnpdaaDoor
