/-
  The document's StepsCheck.
-/
import Derived.Test.YtklldfkaihpkiaaJdQ
import Derived.Deep.RegionHeld3
namespace Go.Proofs.Ytklldfkaihpkiaa
open Go.ChangeShapes Go.WideShapes Go.ChangeAt Go.RowKit
set_option linter.unusedVariables false
set_option linter.unusedSimpArgs false
set_option maxRecDepth 100000
set_option maxHeartbeats 4000000

theorem stepsCheck_any (p q P Q v : Value) (s : JN.S) (l : List JN.W) (w : World) (hr : IsS w p q P Q s) (hl : IsL cdW w v l) (h1 : s.da.pg.length ≤ 9223372036854775806) (h2 : s.da.wt.length ≤ 9223372036854775806) (h3 : s.jo.pg.length ≤ 9223372036854775806) (h4 : s.jo.wt.length ≤ 9223372036854775806) (h5 : l.length ≤ 9223372036854775806) :
    Calls Try.prog 43 #[.agg #[p, q, P, Q], v] w fun e w' => e = .returned (.int .i64 (JN.stepsChk s l)) ∧ Fr w w' := by
  have c := storeCheck_any _ _ _ _ s _ (hr.fr ((Fr.refl w).alloc (.cells #[p, q, P, Q] 46))) h1 h2 h3 h4
  obtain ⟨ap, np, cp, rfl⟩ := hr.1.1.slice
  obtain ⟨aq, cq, rfl, _, _⟩ := id hr.1.2
  obtain ⟨aP, nP, cP, rfl⟩ := hr.2.1.slice
  obtain ⟨aQ, cQ, rfl, _, _⟩ := id hr.2.2
  obtain ⟨av, cv, rfl, hcv, hlc⟩ := hl
  obtain ⟨nq, hnq⟩ : ∃ nq, s.da.wt.length = nq := ⟨_, rfl⟩
  obtain ⟨nQ, hnQ⟩ : ∃ nQ, s.jo.wt.length = nQ := ⟨_, rfl⟩
  rw [hnq, hnQ] at c hr ⊢
  have HB := hideP (Blk.new w #[.slice ap np cp, .slice aq nq cq, .slice aP nP cP, .slice aQ nQ cQ] 46)
  have HS := hideP hr
  have HL := hideP hlc
  have HU : Hid (JN.stepsChk s l = if JN.schk s = 0 then if s.da.wt ≠ [] ∨ s.jo.wt ≠ [] ∨ JN.hotS s = true then 4 else if 31 < l.length then 2 else JN.eachW (JN.fn s.da.pg) [] l else JN.schk s) := rfl
  obtain ⟨r, hr0⟩ : ∃ r, JN.stepsChk s l = r := ⟨_, rfl⟩
  rw [hr0] at HU ⊢
  clear hr hr0 hlc
  by_cases h0 : JN.schk s = 0
  · have hok := (JN.schk_ok s).1 h0
    rw [h0] at c
    replace HU := hideP (HU.out.trans (if_pos h0))
    by_cases hw1 : s.da.wt = []
    · obtain rfl : nq = 0 := by rw [← hnq, hw1]; rfl
      by_cases hw2 : s.jo.wt = []
      · obtain rfl : nQ = 0 := by rw [← hnQ, hw2]; rfl
        have ch := fun W (f : Fr w W) => hotDoc_any _ _ _ _ s W (HS.out.fr f) hw2
        have HW1 := hideP hw1
        have HW2 := hideP hw2
        clear hw1 hw2 hnq hnQ h2 h4
        go_enter Try.func43, Try.ntmps43
        go_wp2_with fail
        refine c.mono ?_
        rintro _ w1 ⟨rfl, f1⟩
        have HB1 := hideP (HB.out.fr f1)
        obtain ⟨k0, k1, k2, k3, _, _, _, _⟩ := HB1.out.four
        have F1 := hideP (((Fr.refl w).alloc _).trans f1)
        have cc := ch w1 F1.out
        clear c f1 ch
        by_cases hh : JN.hotS s = true
        · rw [hh] at cc
          replace HU := hideP (HU.out.trans (if_pos (.inr (.inr hh))))
          go_wp2_with fail
          refine cc.mono ?_
          rintro _ w2 ⟨rfl, f2⟩
          go_wp2_with fail
          go_ret
          exact ⟨ret_int (by rw [HU.out]; rfl), F1.out.trans f2⟩
        · have hh2 : JN.hotS s = false := by simpa using hh
          rw [hh2] at cc
          replace HU := hideP (HU.out.trans (if_neg (by simp [HW1.out, HW2.out, hh2])))
          go_wp2_with fail
          refine cc.mono ?_
          rintro _ w2 ⟨rfl, f2⟩
          have F2 := hideP (F1.out.trans f2)
          have HB2 := hideP (HB1.out.fr f2)
          clear k0 k1 k2 k3 cc f2 HB1 HB F1 hh hh2
          by_cases hm : 31 < l.length
          · have hm' : (31 : Int) < (l.length : Int) := by omega
            go_wp2_with fail
            go_ret
            exact ⟨ret_int (by rw [HU.out, if_pos hm]; rfl), F2.out⟩
          have hm' : ¬ (31 : Int) < (l.length : Int) := by omega
          replace HU := hideP (HU.out.trans (if_neg hm))
          have CP := hideP (fun W (f : Fr w W) (no : Int) => pageAt_any _ s.da.pg no W (HS.out.fr f).1.1)
          go_wp2_with fail
          go_loopw [6, 7] (fun iv _ wr => ∃ i : Nat, iv = .int .i64 i ∧ i ≤ l.length ∧ Fr w2 wr ∧ r = JN.eachW (JN.fn s.da.pg) (l.take i) (l.drop i)) (fun iv _ _ => l.length - (intOf iv).toNat)
          case atStart => exact ⟨0, rfl, Nat.zero_le _, Fr.refl _, HU.out⟩
          case round =>
            obtain ⟨i, rfl, hi, hfr, hall⟩ := hrel
            generalize wr = wo at *
            have HFr := hideP hfr
            clear hfr
            by_cases hlt : i < l.length
            · obtain ⟨b, o, rfl, hb, hc⟩ : ∃ b o, av = some ⟨b, o, none⟩ ∧ b < w.heap.size ∧ At cdW w b o l := by
                rcases HL.out with h | h
                · subst h; simp at hlt
                · exact h
              have hcr := hc.fr hb (F2.out.trans HFr.out)
              obtain ⟨c0, c1⟩ := hcr.wr i hlt
              rw [List.drop_eq_getElem_cons hlt, JN.eachW] at hall
              have hat := fun W (f : Fr wo W) k (hk : k < l.length) => ((hc.fr hb (F2.out.trans (HFr.out.trans f))).wr k hk).1
              have htk : l.take (i + 1) = l.take i ++ [l[i]] := List.take_succ_eq_append_getElem hlt
              rw [← htk] at hall
              have HAT := hideP hat
              have hlt' : (i : Int) < (l.length : Int) := by omega
              generalize hx1 : l[i].no = x1 at *
              generalize l[i].t = x2 at c1 hall
              have HX1 := hideP hx1
              have HA := hideP hall
              clear hall hc hcr htk hat hx1
              by_cases g1 : x1 < 0
              · go_wp2_with fail
                go_ret
                exact ⟨ret_int (by rw [HA.out, if_pos (.inl g1)]; rfl), F2.out.trans HFr.out⟩
              by_cases g2 : 31 < x1
              · go_wp2_with fail
                go_ret
                exact ⟨ret_int (by rw [HA.out, if_pos (.inr g2)]; rfl), F2.out.trans HFr.out⟩
              replace HA := hideP (HA.out.trans (if_neg (by omega)))
              by_cases g3 : 256 < x2.size
              · have g3' : (256 : Int) < (x2.size : Int) := by omega
                go_wp2_with fail
                go_ret
                exact ⟨ret_int (by rw [HA.out, if_pos g3]; rfl), F2.out.trans HFr.out⟩
              have g3' : ¬ (256 : Int) < (x2.size : Int) := by omega
              replace HA := hideP (HA.out.trans (if_neg g3))
              go_wp2_with fail
              go_loopw [7] (fun kv wq => ∃ k : Nat, kv = .int .i64 k ∧ k ≤ i ∧ Fr wo wq ∧ ∀ j (hj : j < k) (hj2 : j < l.length), l[j].no ≠ x1) (fun kv _ => i - (intOf kv).toNat)
              case atStart => exact ⟨0, rfl, Nat.zero_le _, Fr.refl _, fun j hj => absurd hj (Nat.not_lt_zero _)⟩
              case round =>
                obtain ⟨k, rfl, hk, hfk, hne⟩ := hrel
                have HFk := hideP hfk
                have HNe := hideP hne
                clear hfk hne
                have c0i := HAT.out wr HFk.out i hlt
                rw [HX1.out] at c0i
                have hz := Fr.drew (Fr.refl wr)
                by_cases hkl : k < i
                · have hkl' : (k : Int) < (i : Int) := by omega
                  have hk2 : (k : Int) < (l.length : Int) := by omega
                  have hk3 : k < l.length := by omega
                  have c0k := HAT.out wr HFk.out k hk3
                  generalize hy : l[k].no = y at c0k
                  have HY := hideP hy
                  have HS3 := hideP (show wr.cell? ⟨b, o + k * 2, none⟩ = some (.int .i64 y) ∧ wr.cell? ⟨b, o + i * 2, none⟩ = some (.int .i64 x1) from ⟨c0k, c0i⟩)
                  clear hy
                  by_cases he : y = x1
                  · subst he
                    have HR : Hid (r = 6) := by
                      unfold Hid
                      rw [HA.out, if_pos]
                      rw [List.any_eq_true]
                      refine ⟨l[k], ?_, by rw [HY.out]; simp⟩
                      rw [List.mem_take_iff_getElem]
                      exact ⟨k, by omega, rfl⟩
                    go_upto_region 18 with fail
                    go_region_held3 (fun W => W.cell? ⟨b, o + k * 2, none⟩ = some (.int .i64 y) ∧ W.cell? ⟨b, o + i * 2, none⟩ = some (.int .i64 y)) (first | exact HS3.out | exact s2_after hz HS3.out) (first | fail)
                    all_goals go_wp2_with fail
                    all_goals go_ret
                    all_goals exact ⟨ret_int (by rw [HR.out]; rfl), F2.out.trans (HFr.out.trans (HFk.out.trans hz))⟩
                  · have he2 : (y == x1) = false := by simpa using he
                    go_upto_region 18 with fail
                    go_region_held3 (fun W => W.cell? ⟨b, o + k * 2, none⟩ = some (.int .i64 y) ∧ W.cell? ⟨b, o + i * 2, none⟩ = some (.int .i64 x1)) (first | exact HS3.out | exact s2_after hz HS3.out) (first | fail)
                    all_goals go_wp2_with fail
                    all_goals go_roundw
                    case rel =>
                      refine ⟨k + 1, by go_num, by omega, HFk.out.trans hz, ?_⟩
                      intro j hj hj2
                      rcases Nat.lt_or_ge j k with h | h
                      · exact HNe.out j h hj2
                      · obtain rfl : j = k := by omega
                        rw [HY.out]; exact he
                    case measure => simp [intOf]; omega
                · obtain rfl : k = i := by omega
                  have hnn : (l.take k).any (fun x => x.no == x1) = false := by
                    rw [List.any_eq_false]
                    intro x hx
                    rw [List.mem_take_iff_getElem] at hx
                    obtain ⟨j, hj, rfl⟩ := hx
                    have := HNe.out j (by omega) (by omega)
                    simpa using this
                  replace HA := hideP (HA.out.trans (if_neg (by rw [hnn]; simp)))
                  obtain ⟨pg, hpg⟩ : ∃ pg, JN.pageAt s.da.pg x1 = pg := ⟨_, rfl⟩
                  have hpe : JN.fn s.da.pg x1.toNat = pg := by rw [← hpg, JN.pageAt, if_neg (by omega)]
                  rw [hpe] at HA
                  have ccp := CP.out wr.drew (F2.out.trans (HFr.out.trans (HFk.out.trans hz))) x1
                  rw [hpg] at ccp
                  obtain ⟨k0, _⟩ := (HB2.out.fr (HFr.out.trans HFk.out)).four
                  have HS3 := hideP (show wr.cell? ⟨w.heap.size, 0, none⟩ = some (.slice ap np cp) ∧ wr.cell? ⟨b, o + k * 2, none⟩ = some (.int .i64 x1) from ⟨k0, c0i⟩)
                  clear hpe hpg hnn
                  by_cases gp : 256 < pg.size
                  · have gp' : (256 : Int) < (pg.size : Int) := by omega
                    go_upto_region 20 with fail
                    go_region_held3 (fun W => W.cell? ⟨w.heap.size, 0, none⟩ = some (.slice ap np cp) ∧ W.cell? ⟨b, o + k * 2, none⟩ = some (.int .i64 x1)) (first | exact HS3.out | exact s2_after hz HS3.out) (first | (go_at_call 28; refine ccp.mono ?_; rintro _ w9 ⟨rfl, rfl⟩))
                    all_goals go_wp2_with fail
                    all_goals go_ret
                    all_goals exact ⟨ret_int (by rw [HA.out, if_pos gp]; rfl), F2.out.trans (HFr.out.trans (HFk.out.trans hz))⟩
                  · have gp' : ¬ (256 : Int) < (pg.size : Int) := by omega
                    go_upto_region 20 with fail
                    go_region_held3 (fun W => W.cell? ⟨w.heap.size, 0, none⟩ = some (.slice ap np cp) ∧ W.cell? ⟨b, o + k * 2, none⟩ = some (.int .i64 x1)) (first | exact HS3.out | exact s2_after hz HS3.out) (first | (go_at_call 28; refine ccp.mono ?_; rintro _ w9 ⟨rfl, rfl⟩))
                    all_goals go_wp2_with fail
                    all_goals go_roundw
                    case rel => exact ⟨k + 1, by go_num, by omega, HFr.out.trans (HFk.out.trans hz), by rw [HA.out, if_neg gp]⟩
                    case measure => simp [intOf]; omega
            · have hlt' : ¬ (i : Int) < (l.length : Int) := by omega
              have HZ : Hid (r = 0) := by unfold Hid; rw [hall, List.drop_of_length_le (by omega)]; rfl
              clear hall
              go_wp2_with fail
              go_ret
              exact ⟨ret_int (by rw [HZ.out]; rfl), F2.out.trans HFr.out⟩
      · have hw3 : 0 < nQ := by
          rcases Nat.eq_zero_or_pos nQ with h | h
          · rw [h] at hnQ; exact absurd (List.length_eq_zero_iff.1 hnQ) hw2
          · exact h
        replace HU := hideP (HU.out.trans (if_pos (.inr (.inl hw2))))
        have hw4 : (0 : Int) < (nQ : Int) := by omega
        clear hnq hnQ hw2 hok h2 h4 HS HL
        go_enter Try.func43, Try.ntmps43
        go_wp2_with fail
        refine c.mono ?_
        rintro _ w1 ⟨rfl, f1⟩
        obtain ⟨k0, k1, k2, k3, _, _, _, _⟩ := (HB.out.fr f1).four
        have F1 := hideP (((Fr.refl w).alloc _).trans f1)
        clear c f1
        go_wp2_with fail
        go_ret
        exact ⟨ret_int (by rw [HU.out]; rfl), F1.out⟩
    · have hw3 : 0 < nq := by
        rcases Nat.eq_zero_or_pos nq with h | h
        · rw [h] at hnq; exact absurd (List.length_eq_zero_iff.1 hnq) hw1
        · exact h
      replace HU := hideP (HU.out.trans (if_pos (.inl hw1)))
      have hw4 : (0 : Int) < (nq : Int) := by omega
      clear hnq hnQ hw1 hok h2 h4 HS HL
      go_enter Try.func43, Try.ntmps43
      go_wp2_with fail
      refine c.mono ?_
      rintro _ w1 ⟨rfl, f1⟩
      obtain ⟨k0, k1, k2, k3, _, _, _, _⟩ := (HB.out.fr f1).four
      have F1 := hideP (((Fr.refl w).alloc _).trans f1)
      clear c f1
      go_wp2_with fail
      go_ret
      exact ⟨ret_int (by rw [HU.out]; rfl), F1.out⟩
  · replace HU := hideP (HU.out.trans (if_neg h0))
    generalize JN.schk s = x at c HU h0
    have hne : ((x : Int) != 0) = true := by simp; omega
    have hne2 : ¬ ((x : Int) = 0) := by omega
    clear hnq hnQ h2 h4 HS HL
    go_enter Try.func43, Try.ntmps43
    go_wp2_with fail
    refine c.mono ?_
    rintro _ w1 ⟨rfl, f1⟩
    obtain ⟨k0, k1, k2, k3, _, _, _, _⟩ := (HB.out.fr f1).four
    have F1 := hideP (((Fr.refl w).alloc _).trans f1)
    clear c f1
    go_wp2_with fail
    go_ret
    exact ⟨ret_int (by rw [HU.out]), F1.out⟩
end Go.Proofs.Ytklldfkaihpkiaa
