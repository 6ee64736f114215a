/-
  The document's own ColsCheck and SchemasCheck.
-/
import Derived.Test.YtefojbfihnnpdaaDoorCtQ
import Derived.Test.YtefojbfihnnpdaaDoorCtC
import Derived.Deep.RegionHeld3
import Derived.Deep.DeepCutAuto
import Derived.Deep.CutRange
namespace Go.Proofs.YtefojbfihnnpdaaDoor
open Go.ChangeShapes Go.WideShapes Go.ChangeAt Go.RowKit
set_option linter.unusedVariables false
set_option linter.unusedSimpArgs false
set_option maxRecDepth 100000
set_option maxHeartbeats 2000000

theorem s2_after {w w' : World} {a b : Addr} {u v : Value} (f : Fr w w') (h : w.cell? a = some u ∧ w.cell? b = some v) : w'.cell? a = some u ∧ w'.cell? b = some v :=
  ⟨(Below.cell f (World.block_lt_of_cell? _ _ h.1)).trans h.1, (Below.cell f (World.block_lt_of_cell? _ _ h.2)).trans h.2⟩
theorem str_ne {x y : ByteArray} (h : ¬ CT.bs x = CT.bs y) : (x.toList == y.toList) = false ∧ ¬ x.toList = y.toList := by
  have h2 : ¬ x.toList = y.toList := fun c => h (by rw [Lib.toList_data, Lib.toList_data] at c; exact c)
  exact ⟨by simpa using h2, h2⟩
theorem str_eq {x y : ByteArray} (h : CT.bs x = CT.bs y) : x = y := by
  rw [← ba_eta x, ← ba_eta y]
  exact congrArg (fun l : List UInt8 => (⟨l.toArray⟩ : ByteArray)) h
namespace CT
def chkL (c : List Cl) : Nat := if c = [] then 1 else if 6 < c.length then 2 else chkC [] c
theorem chkT_eq (n : ByteArray) (c : List Cl) : chkT n c = if nm n = false then 1 else chkL c := by
  unfold chkT chkL
  by_cases h1 : nm n = false
  · rw [if_pos (.inl h1), if_pos h1]
  · rw [if_neg h1]
    by_cases h2 : c = []
    · rw [if_pos (.inr h2), if_pos h2]
    · rw [if_neg (by simp only [not_or]; exact ⟨h1, h2⟩), if_neg h2]
end CT
theorem colsCheck_any (v : Value) (l : List CT.Cl) (w : World) (h : IsL cdC w v l) (hw : WC l) (hlen : l.length ≤ 9223372036854775806) :
    Calls Tryd.prog 23 #[v] w fun e w' => e = .returned (.int .i64 (CT.chkL l)) ∧ Fr w w' := by
  obtain ⟨a, cap, rfl, hcap, hcs⟩ := h
  have HC := hideP hcs
  have HW := hideP hw
  obtain ⟨m, hm⟩ : ∃ m, l.length = m := ⟨_, rfl⟩
  have HM := hideP hm
  rw [hm] at hcap hlen ⊢
  have HT : Hid (CT.chkL l = if l = [] then 1 else if 6 < m then 2 else CT.chkC [] l) := by unfold Hid CT.chkL; rw [hm]
  obtain ⟨z, hz⟩ : ∃ z, CT.chkL l = z := ⟨_, rfl⟩
  rw [hz] at HT ⊢
  clear hcs hw hm hz
  cases m with
  | zero =>
    have he : l = [] := List.length_eq_zero_iff.1 HM.out
    go_enter Tryd.func23, Tryd.ntmps23
    go_wp2_with fail
    go_ret
    exact ⟨ret_int (by rw [HT.out, if_pos he]; rfl), Fr.refl w⟩
  | succ m =>
    have hne : ¬ l = [] := fun e => by have := HM.out; rw [e] at this; simp at this
    replace HT := hideP (HT.out.trans (if_neg hne))
    have hm0 : ¬ ((m : Int) + 1 = 0) := by omega
    have hm1 : (((m : Int) + 1) == 0) = false := by simp; omega
    by_cases h6 : 6 < m + 1
    · have h6' : (6 : Int) < (m : Int) + 1 := by omega
      replace HT := hideP (HT.out.trans (if_pos h6))
      go_enter Tryd.func23, Tryd.ntmps23
      go_wp2_with fail
      go_ret
      exact ⟨ret_int (by rw [HT.out]; rfl), Fr.refl w⟩
    · have h6' : ¬ (6 : Int) < (m : Int) + 1 := by omega
      replace HT := hideP (HT.out.trans (if_neg h6))
      go_enter Tryd.func23, Tryd.ntmps23
      go_wp2_with fail
      go_loopw [3, 4] (fun iv _ wr => ∃ i : Nat, iv = .int .i64 i ∧ i ≤ m + 1 ∧ Fr w wr ∧ z = CT.chkC ((l.take i).map fun c => CT.bs c.n) (l.drop i)) (fun iv _ _ => m + 1 - (intOf iv).toNat)
      case atStart => exact ⟨0, rfl, Nat.zero_le _, Fr.refl _, HT.out⟩
      case round =>
        obtain ⟨i, rfl, hi, hfr, hall⟩ := hrel
        generalize wr = wo at *
        have HFr := hideP hfr
        clear hfr
        by_cases hlt : i < m + 1
        · have hlt2 : i < l.length := by rw [HM.out]; exact hlt
          have hlt' : (i : Int) < (m : Int) + 1 := by omega
          obtain ⟨b, o, rfl, hb, hc⟩ : ∃ b o, a = some ⟨b, o, none⟩ ∧ b < w.heap.size ∧ At cdC w b o l := by
            rcases HC.out with h | h
            · exact absurd h hne
            · exact h
          obtain ⟨c0, c1, c2, c3⟩ := (hc.fr hb HFr.out).co i hlt2
          have hwn := HW.out l[i] (List.getElem_mem hlt2)
          have htk : (l.take (i + 1)).map (fun c => CT.bs c.n) = (l.take i).map (fun c => CT.bs c.n) ++ [CT.bs l[i].n] := by
            rw [List.take_succ_eq_append_getElem hlt2, List.map_append]; rfl
          rw [List.drop_eq_getElem_cons hlt2, CT.chkC, ← htk] at hall
          have cnm := fun W => nameCheck_any l[i].n W hwn
          have hq : LX.nm l[i].n.data.toList = CT.nm l[i].n := rfl
          rw [hq] at cnm
          have hat := fun W (f : Fr wo W) k (hk : k < l.length) => ((hc.fr hb (HFr.out.trans f)).co k hk).1
          have hat1 := fun W (f : Fr wo W) => ((hc.fr hb (HFr.out.trans f)).co i hlt2).2.1
          have HAT := hideP hat
          have HAT1 := hideP hat1
          generalize htk2 : ((l.take (i + 1)).map fun c => CT.bs c.n) = seen' at hall
          have HTk := hideP htk2
          generalize l[i].k = x1 at c1 hall HAT1
          generalize CT.nm l[i].n = q at cnm hall
          generalize hx0 : l[i].n = x0 at *
          have HX0 := hideP hx0
          have HA := hideP hall
          clear hall hc hat hat1 htk htk2 hq hwn hx0 c2 c3
          cases q with
          | false =>
            have HZ := hideP (HA.out.trans (if_pos rfl))
            clear HA
            go_wp2_with fail
            refine (cnm _).mono ?_
            rintro _ w3 ⟨rfl, f3⟩
            go_wp2_with fail
            go_ret
            exact ⟨ret_int (by rw [HZ.out]; rfl), HFr.out.trans f3⟩
          | true =>
            replace HA := hideP (HA.out.trans (if_neg (by simp)))
            go_wp2_with fail
            refine (cnm _).mono ?_
            rintro _ w3 ⟨rfl, f3⟩
            have d1 := HAT1.out w3 f3
            have F3 := hideP f3
            clear f3 c0 c1 cnm
            by_cases g1 : x1 < 0
            · have HZ := hideP (HA.out.trans (if_pos (.inl g1)))
              clear HA
              go_wp2_with fail
              go_ret
              exact ⟨ret_int (by rw [HZ.out]; rfl), HFr.out.trans F3.out⟩
            by_cases g2 : 3 < x1
            · have HZ := hideP (HA.out.trans (if_pos (.inr g2)))
              clear HA
              go_wp2_with fail
              go_ret
              exact ⟨ret_int (by rw [HZ.out]; rfl), HFr.out.trans F3.out⟩
            replace HA := hideP (HA.out.trans (if_neg (by omega)))
            go_wp2_with fail
            clear d1
            go_loopw [4] (fun kv wq => ∃ k : Nat, kv = .int .i64 k ∧ k ≤ i ∧ Fr wo wq ∧ ∀ j (hj : j < k) (hj2 : j < l.length), CT.bs l[j].n ≠ CT.bs x0) (fun kv _ => i - (intOf kv).toNat)
            case atStart => exact ⟨0, rfl, Nat.zero_le _, F3.out, fun j hj => absurd hj (Nat.not_lt_zero _)⟩
            case round =>
              obtain ⟨k, rfl, hk, hfk, hne2⟩ := hrel
              have HFk := hideP hfk
              have HNe := hideP hne2
              clear hfk hne2
              have c0i := HAT.out wr HFk.out i hlt2
              rw [HX0.out] at c0i
              have hz := Fr.drew (Fr.refl wr)
              by_cases hkl : k < i
              · have hkl' : (k : Int) < (i : Int) := by omega
                have hk2 : (k : Int) < (m : Int) + 1 := by omega
                have hk3 : k < l.length := by omega
                have c0k := HAT.out wr HFk.out k hk3
                generalize hy : l[k].n = y at c0k
                have HY := hideP hy
                clear hy
                by_cases he : CT.bs y = CT.bs x0
                · have HR : Hid (z = 6) := by
                    unfold Hid
                    rw [HA.out, if_pos]
                    rw [← he, ← HY.out]
                    refine List.mem_map.2 ⟨l[k], ?_, rfl⟩
                    rw [List.mem_take_iff_getElem]
                    exact ⟨k, by omega, rfl⟩
                  obtain rfl := str_eq he
                  have HS3 := hideP (show wr.cell? ⟨b, o + k * 4, none⟩ = some (.string y) ∧ wr.cell? ⟨b, o + i * 4, none⟩ = some (.string y) from ⟨c0k, c0i⟩)
                  clear he HA
                  go_upto_region 15 with fail
                  go_region_held3 (fun W => W.cell? ⟨b, o + k * 4, none⟩ = some (.string y) ∧ W.cell? ⟨b, o + i * 4, none⟩ = some (.string y)) (first | exact HS3.out | exact s2_after hz HS3.out) (first | fail)
                  all_goals go_wp2_with fail
                  all_goals go_ret
                  all_goals exact ⟨ret_int (by rw [HR.out]; rfl), HFr.out.trans (HFk.out.trans hz)⟩
                · obtain ⟨e1, e2⟩ := str_ne he
                  have HE := hideP he
                  have HS3 := hideP (show wr.cell? ⟨b, o + k * 4, none⟩ = some (.string y) ∧ wr.cell? ⟨b, o + i * 4, none⟩ = some (.string x0) from ⟨c0k, c0i⟩)
                  clear he
                  go_upto_region 15 with fail
                  go_region_held3 (fun W => W.cell? ⟨b, o + k * 4, none⟩ = some (.string y) ∧ W.cell? ⟨b, o + i * 4, none⟩ = some (.string x0)) (first | exact HS3.out | exact s2_after hz HS3.out) (first | fail)
                  all_goals go_wp2_with fail
                  all_goals go_roundw
                  case rel =>
                    refine ⟨k + 1, by go_num, by omega, HFk.out.trans hz, ?_⟩
                    intro j hj hj2
                    rcases Nat.lt_or_ge j k with h | h
                    · exact HNe.out j h hj2
                    · obtain rfl : j = k := by omega
                      rw [HY.out]; exact HE.out
                  case measure => simp [intOf]; omega
              · obtain rfl : k = i := by omega
                have hnn : ¬ CT.bs x0 ∈ ((l.take k).map fun c => CT.bs c.n) := by
                  intro hx
                  obtain ⟨c, hc1, hc2⟩ := List.mem_map.1 hx
                  rw [List.mem_take_iff_getElem] at hc1
                  obtain ⟨j, hj, rfl⟩ := hc1
                  exact HNe.out j (by omega) (by omega) hc2
                replace HA := hideP (HA.out.trans (if_neg hnn))
                have hkl' : ¬ (k : Int) < (k : Int) := by omega
                clear hnn
                go_wp2_with fail
                go_roundw
                case rel => exact ⟨k + 1, by go_num, by omega, HFr.out.trans HFk.out, by rw [HTk.out]; exact HA.out⟩
                case measure => simp [intOf]; omega
        · have HZ : Hid (z = 0) := by unfold Hid; rw [hall, List.drop_of_length_le (by rw [HM.out]; omega)]; rfl
          have hlt' : ¬ (i : Int) < (m : Int) + 1 := by omega
          clear hall
          go_wp2_with fail
          go_ret
          exact ⟨ret_int (by rw [HZ.out]; rfl), HFr.out⟩
end Go.Proofs.YtefojbfihnnpdaaDoor
