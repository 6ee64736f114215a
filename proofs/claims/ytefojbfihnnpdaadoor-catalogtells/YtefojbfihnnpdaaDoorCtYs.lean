/-
  The document's own SchemasCheck.
-/
import Derived.Test.YtefojbfihnnpdaaDoorCtY
import Derived.Deep.QuietTactic
import Derived.BigQuiet
namespace Go.Proofs.YtefojbfihnnpdaaDoor
open Go.ChangeShapes Go.WideShapes Go.ChangeAt Go.RowKit
set_option linter.unusedVariables false
set_option linter.unusedSimpArgs false
set_option maxRecDepth 100000
set_option maxHeartbeats 2000000

theorem drewN_fr (w : World) (n : Nat) : Fr w (w.drewN n) := ⟨rfl, rfl, rfl, Nat.le_refl _, fun _ _ => rfl⟩
/-- the number of the table ahead, or 0 -/
def CT.lst (l : List CT.Sc) : Nat → Int
  | 0 => 0
  | j + 1 => match l[j]? with
    | some s => s.id
    | none => 0
theorem lst_succ (l : List CT.Sc) (i : Nat) (h : i < l.length) : CT.lst l (i + 1) = l[i].id := by
  show (match l[i]? with | some s => s.id | none => 0) = l[i].id
  rw [List.getElem?_eq_getElem h]
theorem schemasCheck_any (v : Value) (l : List CT.Sc) (w : World) (h : IsSc w v l) (hw : WS l) :
    Calls Tryd.prog 10 #[v] w fun e w' => e = .returned (.int .i64 (CT.chk l)) ∧ Fr w w' := by
  obtain ⟨ps, hL, hps, hcs⟩ := h
  obtain ⟨a, cap, rfl, hcap, hpc⟩ := hL
  have hpl : ps.length = l.length := by rw [← hps, List.length_map]
  rw [hpl] at hcap ⊢
  have HC := hideP hpc
  have HK := hideP hcs
  have HP := hideP hps
  have HPL := hideP hpl
  have HW := hideP hw
  have HT : Hid (CT.chk l = if 6 < l.length then 2 else CT.chkS 0 [] l) := rfl
  obtain ⟨z, hz⟩ : ∃ z, CT.chk l = z := ⟨_, rfl⟩
  rw [hz] at HT ⊢
  clear hpc hcs hps hpl hw hz
  by_cases h6 : 6 < l.length
  · have h6' : (6 : Int) < (l.length : Int) := by omega
    replace HT := hideP (HT.out.trans (if_pos h6))
    go_enter Tryd.func10, Tryd.ntmps10
    go_wp2_with fail
    go_ret
    exact ⟨ret_int (by rw [HT.out]; rfl), Fr.refl w⟩
  have h6' : ¬ (6 : Int) < (l.length : Int) := by omega
  replace HT := hideP (HT.out.trans (if_neg h6))
  go_enter Tryd.func10, Tryd.ntmps10
  go_wp2_with fail
  go_loopw [3, 4, 5] (fun iv _ _ wr => ∃ (i : Nat), iv = .int .i64 i ∧ i ≤ l.length ∧ Fr w wr ∧ z = CT.chkS (CT.lst l i) ((l.take i).map fun s => CT.bs s.n) (l.drop i)) (fun iv _ _ _ => l.length - (intOf iv).toNat)
  case atStart => exact ⟨0, rfl, Nat.zero_le _, Fr.refl _, HT.out⟩
  case round =>
    obtain ⟨i, rfl, hi, hfr, hall⟩ := hrel
    generalize wr = wo at *
    have HFr := hideP hfr
    clear hfr
    by_cases hlt : i < l.length
    · have hlt2 : i < ps.length := by rw [HPL.out]; exact hlt
      have hlt' : (i : Int) < (l.length : Int) := by omega
      obtain ⟨b, o, rfl, hb, hc⟩ : ∃ b o, a = some ⟨b, o, none⟩ ∧ b < w.heap.size ∧ At cdS w b o ps := by
        rcases HC.out with h | h
        · rw [h] at hlt2; simp at hlt2
        · exact h
      have hpi : ∀ k (hk : k < l.length) (hk2 : k < ps.length), ps[k].1 = l[k] := by
        intro k hk hk2
        have e := HP.out
        subst e
        rw [List.getElem_map]
      have hat : ∀ W, Fr wo W → ∀ k (hk : k < l.length), W.cell? ⟨b, o + k * 3, none⟩ = some (.int .i64 l[k].id) ∧ W.cell? ⟨b, o + k * 3 + 1, none⟩ = some (.string l[k].n) := by
        intro W f k hk
        have hk2 : k < ps.length := by rw [HPL.out]; exact hk
        obtain ⟨c0, c1, c2⟩ := (hc.fr hb (HFr.out.trans f)).sc k hk2
        rw [hpi k hk hk2] at c0 c1
        exact ⟨c0, c1⟩
      have hat2 : ∀ W, Fr wo W → W.cell? ⟨b, o + i * 3 + 2, none⟩ = some (slV ps[i].2) := fun W f => ((hc.fr hb (HFr.out.trans f)).sc i hlt2).2.2
      have hcol := HK.out ps[i] (List.getElem_mem hlt2)
      rw [hpi i hlt hlt2] at hcol
      have hwi := HW.out l[i] (List.getElem_mem hlt)
      have htk0 : (l.take (i + 1)).map (fun s => CT.bs s.n) = (l.take i).map (fun s => CT.bs s.n) ++ [CT.bs l[i].n] := by
        rw [List.take_succ_eq_append_getElem hlt, List.map_append]; rfl
      have hlst : CT.lst l (i + 1) = l[i].id := lst_succ l i hlt
      rw [List.drop_eq_getElem_cons hlt, CT.chkS, ← htk0, CT.chkT_eq] at hall
      have ccc := fun W (f : Fr wo W) => colsCheck_any _ l[i].c W (hcol.fr (HFr.out.trans f)) hwi.2.1 hwi.2.2
      have cnm := fun W => nameCheck_any l[i].n W hwi.1
      have hq : LX.nm l[i].n.data.toList = CT.nm l[i].n := rfl
      rw [hq] at cnm
      rw [← hlst] at hall
      generalize htk : ((l.take (i + 1)).map fun s => CT.bs s.n) = seen' at hall
      have HTk := hideP htk
      generalize ps[i].2 = sl at hat2 ccc hcol
      obtain ⟨sa, sn, sc⟩ := sl
      simp only [slV] at hat2 ccc
      generalize CT.chkL l[i].c = ct at hall ccc
      generalize CT.nm l[i].n = q at cnm hall
      obtain ⟨c0, c1⟩ := hat wo (Fr.refl _) i hlt
      have HAT := hideP hat
      have HAT2 := hideP hat2
      have CCC := hideP ccc
      have CNM := hideP cnm
      generalize hx0 : l[i].id = x0 at *
      generalize hx1 : l[i].n = x1 at *
      have HX0 := hideP hx0
      have HX1 := hideP hx1
      have HLs := hideP hlst
      have ho1 : (x0 < 1 ∨ 999 < x0) → z = 3 := fun e => by rw [hall, hlst, if_pos e]
      have HA0 := hideP hall
      clear hall hc htk htk0 hwi hcol hpi ccc hlt2 hat hat2 cnm hq hx0 hx1 hlst c1
      by_cases g1 : x0 < 1
      · have HZ := hideP (ho1 (.inl g1))
        clear ho1
        go_wp2_with fail
        go_ret
        exact ⟨ret_int (by rw [HZ.out]; rfl), HFr.out⟩
      by_cases g2 : 999 < x0
      · have HZ := hideP (ho1 (.inr g2))
        clear ho1
        go_wp2_with fail
        go_ret
        exact ⟨ret_int (by rw [HZ.out]; rfl), HFr.out⟩
      clear ho1
      have HA1 := hideP (HA0.out.trans (show _ = if x0 ≤ CT.lst l i then 4 else if (if q = false then 1 else ct) ≠ 0 then (if q = false then 1 else ct) else if CT.bs x1 ∈ ((l.take i).map fun s => CT.bs s.n) then 6 else CT.chkS (CT.lst l (i + 1)) seen' (l.drop (i + 1)) from by rw [HLs.out, if_neg (by omega)]))
      clear HA0
      rcases Nat.eq_zero_or_pos i with h0 | h0
      · have hg : (0 < (i : Int)) = False := by simp; omega
        have hg2 : (0 < i) = False := by simp; omega
        have HA := hideP (HA1.out.trans (if_neg (by rw [h0]; show ¬ x0 ≤ 0; omega)))
        have H0 := hideP h0
        clear h0 HA1
        go_upto_region 8 with fail
        first | go_region | fail
        have F8 := hideP (Fr.drew (Fr.refl wo))
        generalize wo.drew = w8 at *
        have d1 := (HAT.out w8 F8.out i hlt).2
        rw [HX1.out] at d1
        have d2 := HAT2.out w8 F8.out
        clear c0
        cases q with
        | false =>
          have HZ : Hid (z = 1) := by unfold Hid; rw [HA.out, if_pos (by simp)]; simp
          clear HA
          go_wp2_with fail
          refine (CNM.out _).mono ?_
          rintro _ w3 ⟨rfl, f3⟩
          go_wp2_with fail
          go_ret
          exact ⟨ret_int (by rw [HZ.out]; rfl), HFr.out.trans (F8.out.trans f3)⟩
        | true =>
          replace HA : Hid (z = if ct ≠ 0 then ct else if CT.bs x1 ∈ ((l.take i).map fun s => CT.bs s.n) then 6 else CT.chkS (CT.lst l (i + 1)) seen' (l.drop (i + 1))) := by
            unfold Hid; rw [HA.out]; simp
          go_wp2_with fail
          refine (CNM.out _).mono ?_
          rintro _ w3 ⟨rfl, f3⟩
          have F3 := hideP (F8.out.trans f3)
          have e2 := HAT2.out w3 F3.out
          clear d1 d2 f3
          go_wp2_with fail
          refine (CCC.out _ F3.out).mono ?_
          rintro _ w4 ⟨rfl, f4⟩
          have F4 := hideP (F3.out.trans f4)
          clear e2 f4
          by_cases g4 : ct = 0
          · subst g4
            replace HA := hideP (HA.out.trans (if_neg (by simp)))
            go_wp2_with fail
            go_loopw [5] (fun kv wq => ∃ k : Nat, kv = .int .i64 k ∧ k ≤ i ∧ Fr wo wq ∧ ∀ j (hj : j < k) (hj2 : j < l.length), CT.bs l[j].n ≠ CT.bs x1) (fun kv _ => i - (intOf kv).toNat)
            case atStart => exact ⟨0, rfl, Nat.zero_le _, F4.out, fun j hj => absurd hj (Nat.not_lt_zero _)⟩
            case round =>
              obtain ⟨k, rfl, hk, hfk, hne2⟩ := hrel
              have HFk := hideP hfk
              have HNe := hideP hne2
              clear hfk hne2
              have c0i := (HAT.out wr HFk.out i hlt).2
              rw [HX1.out] at c0i
              have hz := Fr.drew (Fr.refl wr)
              by_cases hkl : k < i
              · have hkl' : (k : Int) < (i : Int) := by omega
                have hk2 : (k : Int) < (l.length : Int) := by omega
                have hk3 : k < l.length := by omega
                have c0k := (HAT.out wr HFk.out k hk3).2
                generalize hy : l[k].n = y at c0k
                have HY := hideP hy
                clear hy
                by_cases he : CT.bs y = CT.bs x1
                · have HR : Hid (z = 6) := by
                    unfold Hid
                    rw [HA.out, if_pos]
                    rw [← he, ← HY.out]
                    refine List.mem_map.2 ⟨l[k], ?_, rfl⟩
                    rw [List.mem_take_iff_getElem]
                    exact ⟨k, by omega, rfl⟩
                  obtain rfl := str_eq he
                  have HS3 := hideP (show wr.cell? ⟨b, o + k * 3 + 1, none⟩ = some (.string y) ∧ wr.cell? ⟨b, o + i * 3 + 1, none⟩ = some (.string y) from ⟨c0k, c0i⟩)
                  clear he HA
                  go_upto_region 18 with fail
                  go_region_held3 (fun W => W.cell? ⟨b, o + k * 3 + 1, none⟩ = some (.string y) ∧ W.cell? ⟨b, o + i * 3 + 1, none⟩ = some (.string y)) (first | exact HS3.out | exact s2_after hz HS3.out) (first | fail)
                  all_goals go_wp2_with fail
                  all_goals go_ret
                  all_goals exact ⟨ret_int (by rw [HR.out]; rfl), HFr.out.trans (HFk.out.trans hz)⟩
                · obtain ⟨e1, e2⟩ := str_ne he
                  have HE := hideP he
                  have HS3 := hideP (show wr.cell? ⟨b, o + k * 3 + 1, none⟩ = some (.string y) ∧ wr.cell? ⟨b, o + i * 3 + 1, none⟩ = some (.string x1) from ⟨c0k, c0i⟩)
                  clear he
                  go_upto_region 18 with fail
                  go_region_held3 (fun W => W.cell? ⟨b, o + k * 3 + 1, none⟩ = some (.string y) ∧ W.cell? ⟨b, o + i * 3 + 1, none⟩ = some (.string x1)) (first | exact HS3.out | exact s2_after hz HS3.out) (first | fail)
                  all_goals go_wp2_with fail
                  all_goals go_roundw
                  case rel =>
                    refine ⟨k + 1, by go_num, by omega, HFk.out.trans hz, ?_⟩
                    intro j hj hj2
                    rcases Nat.lt_or_ge j k with h | h
                    · exact HNe.out j h hj2
                    · obtain rfl : j = k := by omega
                      rw [HY.out]; exact HE.out
                  case measure => simp [intOf]; omega
              · obtain rfl : k = i := by omega
                have hnn : ¬ CT.bs x1 ∈ ((l.take k).map fun s => CT.bs s.n) := by
                  intro hx
                  obtain ⟨c, hc1, hc2⟩ := List.mem_map.1 hx
                  rw [List.mem_take_iff_getElem] at hc1
                  obtain ⟨j, hj, rfl⟩ := hc1
                  exact HNe.out j (by omega) (by omega) hc2
                replace HA := hideP (HA.out.trans (if_neg hnn))
                have hkl' : ¬ (k : Int) < (k : Int) := by omega
                clear hnn
                go_wp2_with fail
                go_roundw
                case rel => exact ⟨k + 1, by go_num, by omega, HFr.out.trans HFk.out, by rw [HTk.out]; exact HA.out⟩
                case measure => simp [intOf]; omega
          · have HZ := hideP (HA.out.trans (if_pos g4))
            have e1 : ((ct : Int) != 0) = true := by simp; omega
            have e2 : ¬ ((ct : Int) = 0) := by omega
            clear HA
            go_wp2_with fail
            go_ret
            exact ⟨ret_int (by rw [HZ.out]), HFr.out.trans F4.out⟩
      · obtain ⟨j, hj⟩ : ∃ j, i = j + 1 := ⟨i - 1, by omega⟩
        have hjl : j < l.length := by omega
        have hjl2 : (j : Int) < (l.length : Int) := by omega
        have hg : (0 : Int) < (i : Int) := by omega
        have hg2 : 0 < i := by omega
        have hjI : (i : Int) - 1 = (j : Int) := by omega
        have cj := (HAT.out wo (Fr.refl _) j hjl).1
        have hlj : CT.lst l i = l[j].id := by rw [hj]; exact lst_succ l j hjl
        rw [hlj] at HA1
        generalize l[j].id = y0 at cj HA1
        have HJ := hideP hj
        clear hj hlj h0
        by_cases g3 : x0 ≤ y0
        · have HZ := hideP (HA1.out.trans (if_pos g3))
          go_wp2_with fail
          first | go_region | fail
          have F8 := hideP (Fr.drew (Fr.refl wo))
          generalize wo.drew = w8 at *
          go_wp2_with fail
          go_ret
          exact ⟨ret_int (by rw [HZ.out]; rfl), HFr.out.trans F8.out⟩
        · have HA := hideP (HA1.out.trans (if_neg g3))
          have g3' : y0 < x0 := by omega
          clear HA1
          go_wp2_with fail
          first | go_region | fail
          clear cj
          have F8 := hideP (Fr.drew (Fr.refl wo))
          generalize wo.drew = w8 at *
          have d1 := (HAT.out w8 F8.out i hlt).2
          rw [HX1.out] at d1
          have d2 := HAT2.out w8 F8.out
          clear c0
          cases q with
          | false =>
            have HZ : Hid (z = 1) := by unfold Hid; rw [HA.out, if_pos (by simp)]; simp
            clear HA
            go_wp2_with fail
            refine (CNM.out _).mono ?_
            rintro _ w3 ⟨rfl, f3⟩
            go_wp2_with fail
            go_ret
            exact ⟨ret_int (by rw [HZ.out]; rfl), HFr.out.trans (F8.out.trans f3)⟩
          | true =>
            replace HA : Hid (z = if ct ≠ 0 then ct else if CT.bs x1 ∈ ((l.take i).map fun s => CT.bs s.n) then 6 else CT.chkS (CT.lst l (i + 1)) seen' (l.drop (i + 1))) := by
              unfold Hid; rw [HA.out]; simp
            go_wp2_with fail
            refine (CNM.out _).mono ?_
            rintro _ w3 ⟨rfl, f3⟩
            have F3 := hideP (F8.out.trans f3)
            have e2 := HAT2.out w3 F3.out
            clear d1 d2 f3
            go_wp2_with fail
            refine (CCC.out _ F3.out).mono ?_
            rintro _ w4 ⟨rfl, f4⟩
            have F4 := hideP (F3.out.trans f4)
            clear e2 f4
            by_cases g4 : ct = 0
            · subst g4
              replace HA := hideP (HA.out.trans (if_neg (by simp)))
              go_wp2_with fail
              go_loopw [5] (fun kv wq => ∃ k : Nat, kv = .int .i64 k ∧ k ≤ i ∧ Fr wo wq ∧ ∀ j (hj : j < k) (hj2 : j < l.length), CT.bs l[j].n ≠ CT.bs x1) (fun kv _ => i - (intOf kv).toNat)
              case atStart => exact ⟨0, rfl, Nat.zero_le _, F4.out, fun j hj => absurd hj (Nat.not_lt_zero _)⟩
              case round =>
                obtain ⟨k, rfl, hk, hfk, hne2⟩ := hrel
                have HFk := hideP hfk
                have HNe := hideP hne2
                clear hfk hne2
                have c0i := (HAT.out wr HFk.out i hlt).2
                rw [HX1.out] at c0i
                have hz := Fr.drew (Fr.refl wr)
                by_cases hkl : k < i
                · have hkl' : (k : Int) < (i : Int) := by omega
                  have hk2 : (k : Int) < (l.length : Int) := by omega
                  have hk3 : k < l.length := by omega
                  have c0k := (HAT.out wr HFk.out k hk3).2
                  generalize hy : l[k].n = y at c0k
                  have HY := hideP hy
                  clear hy
                  by_cases he : CT.bs y = CT.bs x1
                  · have HR : Hid (z = 6) := by
                      unfold Hid
                      rw [HA.out, if_pos]
                      rw [← he, ← HY.out]
                      refine List.mem_map.2 ⟨l[k], ?_, rfl⟩
                      rw [List.mem_take_iff_getElem]
                      exact ⟨k, by omega, rfl⟩
                    obtain rfl := str_eq he
                    have HS3 := hideP (show wr.cell? ⟨b, o + k * 3 + 1, none⟩ = some (.string y) ∧ wr.cell? ⟨b, o + i * 3 + 1, none⟩ = some (.string y) from ⟨c0k, c0i⟩)
                    clear he HA
                    go_upto_region 18 with fail
                    go_region_held3 (fun W => W.cell? ⟨b, o + k * 3 + 1, none⟩ = some (.string y) ∧ W.cell? ⟨b, o + i * 3 + 1, none⟩ = some (.string y)) (first | exact HS3.out | exact s2_after hz HS3.out) (first | fail)
                    all_goals go_wp2_with fail
                    all_goals go_ret
                    all_goals exact ⟨ret_int (by rw [HR.out]; rfl), HFr.out.trans (HFk.out.trans hz)⟩
                  · obtain ⟨e1, e2⟩ := str_ne he
                    have HE := hideP he
                    have HS3 := hideP (show wr.cell? ⟨b, o + k * 3 + 1, none⟩ = some (.string y) ∧ wr.cell? ⟨b, o + i * 3 + 1, none⟩ = some (.string x1) from ⟨c0k, c0i⟩)
                    clear he
                    go_upto_region 18 with fail
                    go_region_held3 (fun W => W.cell? ⟨b, o + k * 3 + 1, none⟩ = some (.string y) ∧ W.cell? ⟨b, o + i * 3 + 1, none⟩ = some (.string x1)) (first | exact HS3.out | exact s2_after hz HS3.out) (first | fail)
                    all_goals go_wp2_with fail
                    all_goals go_roundw
                    case rel =>
                      refine ⟨k + 1, by go_num, by omega, HFk.out.trans hz, ?_⟩
                      intro j hj hj2
                      rcases Nat.lt_or_ge j k with h | h
                      · exact HNe.out j h hj2
                      · obtain rfl : j = k := by omega
                        rw [HY.out]; exact HE.out
                    case measure => simp [intOf]; omega
                · obtain rfl : k = i := by omega
                  have hnn : ¬ CT.bs x1 ∈ ((l.take k).map fun s => CT.bs s.n) := by
                    intro hx
                    obtain ⟨c, hc1, hc2⟩ := List.mem_map.1 hx
                    rw [List.mem_take_iff_getElem] at hc1
                    obtain ⟨j, hj, rfl⟩ := hc1
                    exact HNe.out j (by omega) (by omega) hc2
                  replace HA := hideP (HA.out.trans (if_neg hnn))
                  have hkl' : ¬ (k : Int) < (k : Int) := by omega
                  clear hnn
                  go_wp2_with fail
                  go_roundw
                  case rel => exact ⟨k + 1, by go_num, by omega, HFr.out.trans HFk.out, by rw [HTk.out]; exact HA.out⟩
                  case measure => simp [intOf]; omega
            · have HZ := hideP (HA.out.trans (if_pos g4))
              have e1 : ((ct : Int) != 0) = true := by simp; omega
              have e2 : ¬ ((ct : Int) = 0) := by omega
              clear HA
              go_wp2_with fail
              go_ret
              exact ⟨ret_int (by rw [HZ.out]), HFr.out.trans F4.out⟩
    · have HZ : Hid (z = 0) := by unfold Hid; rw [hall, List.drop_of_length_le (by omega)]; rfl
      have hlt' : ¬ (i : Int) < (l.length : Int) := by omega
      clear hall
      go_wp2_with fail
      go_ret
      exact ⟨ret_int (by rw [HZ.out]; rfl), HFr.out⟩
end Go.Proofs.YtefojbfihnnpdaaDoor
