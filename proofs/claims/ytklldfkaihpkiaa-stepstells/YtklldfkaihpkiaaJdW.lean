/-
  The document's endOps, UndoOf.
-/
import Derived.Test.YtklldfkaihpkiaaJdT
import Derived.Test.YtklldfkaihpkiaaJdE
namespace Go.Proofs.Ytklldfkaihpkiaa
open Go.ChangeShapes Go.WideShapes Go.ChangeAt Go.RowKit
set_option linter.unusedVariables false
set_option linter.unusedSimpArgs false
set_option maxRecDepth 100000
set_option maxHeartbeats 4000000

/-- what a call answers that answers ops -/
def OIs (r : List JN.O × Nat) (w : World) (e : Ending) (w' : World) : Prop :=
  ∃ v, e = .returned (.tuple #[v, .int .i64 r.2]) ∧ IsL cdO w' v r.1 ∧ Fr w w'
theorem endOps_any (w : World) : Calls Try.prog 64 #[] w fun e w' => ∃ v, e = .returned v ∧ IsL cdO w' v JN.endsO ∧ Fr w w' := by
  have h : IsL cdO (w.alloc (.cells (flat cdO JN.endsO).toArray 84)) (.slice (some ⟨w.heap.size, 0, none⟩) 3 3) JN.endsO := by
    refine ⟨_, _, rfl, Nat.le_refl _, Or.inr ⟨w.heap.size, 0, rfl, by simp, ?_⟩⟩
    intro j u hj
    rw [Nat.zero_add]
    exact (Blk.new w (flat cdO JN.endsO).toArray 84).cell j (by simpa using hj)
  have HL := hideP h
  clear h
  go_enter Try.func64, Try.ntmps64
  go_wp2_with fail
  go_ret
  exact ⟨_, rfl, HL.out, (Fr.refl w).alloc _⟩
namespace JN
theorem undoD_len (f : Pg B) : (undoD f).length = countB (f 0) := by simp [undoD]
theorem data_take (f : Pg B) (i : Nat) (h : i < countB (f 0)) : dataO ((undoD f).take (i + 1)) = dataO ((undoD f).take i) ++ [⟨1, ((decB (f (i + 1))).1 : Int), (decB (f (i + 1))).2⟩] := by
  have h2 : i < (undoD f).length := by rw [undoD_len]; exact h
  rw [List.take_succ_eq_append_getElem h2]
  simp [dataO, undoD]
theorem all_oke (f : Pg B) (n i : Nat) (h : i < n) (hb : ¬ okeB (f (i + 1))) : (List.range n).all (fun i => decide (okeB (f (i + 1)))) = false := by
  rw [← Bool.not_eq_true, List.all_eq_true]
  intro hh
  exact hb (of_decide_eq_true (hh i (List.mem_range.2 h)))
theorem oke_all (f : Pg B) (n : Nat) (h : ∀ i, i < n → okeB (f (i + 1))) : (List.range n).all (fun i => decide (okeB (f (i + 1)))) = true := by
  rw [List.all_eq_true]
  intro i hi
  exact decide_eq_true (h i (List.mem_range.1 hi))
end JN
theorem undoOf_any (p q P Q : Value) (s : JN.S) (w : World) (hr : IsS w p q P Q s) (h1 : s.da.pg.length ≤ 9223372036854775806) (h2 : s.da.wt.length ≤ 9223372036854775806) (h3 : s.jo.pg.length ≤ 9223372036854775806) (h4 : s.jo.wt.length ≤ 9223372036854775806) :
    Calls Try.prog 40 #[.agg #[p, q, P, Q]] w fun e w' => OIs (JN.undoS s) w e w' := by
  have c := storeCheck_any _ _ _ _ s _ (hr.fr ((Fr.refl w).alloc (.cells #[p, q, P, Q] 46))) h1 h2 h3 h4
  obtain ⟨ap, np, cp, rfl⟩ := hr.1.1.slice
  obtain ⟨aq, cq, rfl, _, _⟩ := id hr.1.2
  obtain ⟨aP, cP, rfl, hcP, hPc⟩ := id hr.2.1
  obtain ⟨aQ, cQ, rfl, _, _⟩ := id hr.2.2
  obtain ⟨nq, hnq⟩ : ∃ nq, s.da.wt.length = nq := ⟨_, rfl⟩
  obtain ⟨nQ, hnQ⟩ : ∃ nQ, s.jo.wt.length = nQ := ⟨_, rfl⟩
  rw [hnq, hnQ] at c hr ⊢
  have HB := hideP (Blk.new w #[.slice ap np cp, .slice aq nq cq, .slice aP s.jo.pg.length cP, .slice aQ nQ cQ] 46)
  have HS := hideP hr
  have HU : Hid (JN.undoS s = if JN.schk s = 0 then
    if s.da.wt ≠ [] ∨ s.jo.wt ≠ [] then ([], 4)
    else if JN.hotS s = false then ([], 0)
    else if JN.okhB (JN.fn s.jo.pg 0) then
      if (List.range (JN.countB (JN.fn s.jo.pg 0))).all (fun i => decide (JN.okeB (JN.fn s.jo.pg (i + 1)))) then (JN.dataO (JN.undoD (JN.fn s.jo.pg)) ++ JN.endsO, 0) else ([], 1)
    else ([], 1)
  else ([], JN.schk s)) := rfl
  obtain ⟨r, hr0⟩ : ∃ r, JN.undoS s = r := ⟨_, rfl⟩
  rw [hr0] at HU ⊢
  clear hr hr0
  have HPc := hideP hPc
  clear hPc
  by_cases h0 : JN.schk s = 0
  · have hok := (JN.schk_ok s).1 h0
    rw [h0] at c
    replace HU := hideP (HU.out.trans (if_pos h0))
    by_cases hw1 : s.da.wt = []
    · obtain rfl : nq = 0 := by rw [← hnq, hw1]; rfl
      by_cases hw2 : s.jo.wt = []
      · obtain rfl : nQ = 0 := by rw [← hnQ, hw2]; rfl
        replace HU := hideP (HU.out.trans (if_neg (by simp [hw1, hw2])))
        have ch := fun W (f : Fr w W) => hotDoc_any _ _ _ _ s W (HS.out.fr f) hw2
        have hhr := JN.hot_rest hw2
        have HW1 := hideP hw1
        have HW2 := hideP hw2
        clear hw1 hw2 hnq hnQ h2 h4
        by_cases hh : JN.hotS s = false
        · rw [hh] at ch
          replace HU := hideP (HU.out.trans (if_pos hh))
          go_enter Try.func40, Try.ntmps40
          go_wp2_with fail
          refine c.mono ?_
          rintro _ w1 ⟨rfl, f1⟩
          obtain ⟨k0, k1, k2, k3, _, _, _, _⟩ := (HB.out.fr f1).four
          have F1 := hideP (((Fr.refl w).alloc _).trans f1)
          have cc := ch w1 F1.out
          clear c f1 ch hh hhr
          go_wp2_with fail
          refine cc.mono ?_
          rintro _ w2 ⟨rfl, f2⟩
          go_wp2_with fail
          go_ret2
          rw [HU.out]
          exact ⟨_, rfl, isL_nil _ _, F1.out.trans f2⟩
        · have hh2 : JN.hotS s = true := by simpa using hh
          rw [hh2] at ch
          replace HU := hideP (HU.out.trans (if_neg hh))
          rw [hhr] at hh2
          have hpos : 0 < s.jo.pg.length := by
            rcases Nat.eq_zero_or_pos s.jo.pg.length with h | h
            · have := List.length_eq_zero_iff.1 h
              rw [this] at hh2
              simp [JN.fn, JN.hotB, JN.bs] at hh2
            · exact h
          obtain ⟨b, o, rfl, hb, hc⟩ : ∃ b o, aP = some ⟨b, o, none⟩ ∧ b < w.heap.size ∧ At cdP w b o s.jo.pg := by
            rcases HPc.out with h | h
            · rw [h] at hpos; simp at hpos
            · exact h
          have cp := fun W (f : Fr w W) (i : Nat) => pageAt_any _ s.jo.pg (i : Int) W (HS.out.fr f).2.1
          have cp2 : ∀ W (f : Fr w W) (i : Nat), Calls Try.prog 28 #[.slice (some ⟨b, o, none⟩) s.jo.pg.length cP, .int .i64 i] W fun e w' => e = .returned (.string (JN.fn s.jo.pg i)) ∧ w' = W := by
            intro W f i
            have := cp W f i
            rw [JN.pageAt, if_neg (by omega), Int.toNat_natCast] at this
            exact this
          have hcell := hc.pg 0 hpos
          have hp0 : JN.fn s.jo.pg 0 = s.jo.pg[0] := by rw [JN.fn, List.getD_eq_getElem?_getD, List.getElem?_eq_getElem hpos]; rfl
          rw [← hp0, Nat.add_zero] at hcell
          have hposZ : (0 : Int) < (s.jo.pg.length : Int) := by omega
          have hlenI : s.jo.pg.length ≤ 32 := hok.jo.len
          have CP := hideP cp2
          have HH := hideP hh2
          have HCe := hideP hcell
          clear cp cp2 hp0 hc hhr hh2 hh hok hcell
          generalize JN.fn s.jo.pg = fp at *
          go_enter Try.func40, Try.ntmps40
          go_wp2_with fail
          refine c.mono ?_
          rintro _ w1 ⟨rfl, f1⟩
          have HB1 := hideP (HB.out.fr f1)
          obtain ⟨k0, k1, k2, k3, _, _, _, _⟩ := HB1.out.four
          have F1 := hideP (((Fr.refl w).alloc _).trans f1)
          have cc := ch w1 F1.out
          clear c f1 ch
          go_wp2_with fail
          refine cc.mono ?_
          rintro _ w2 ⟨rfl, f2⟩
          have F2 := hideP (F1.out.trans f2)
          have HB2 := hideP (HB1.out.fr f2)
          clear k0 k1 k2 k3 cc f2 HB1 HB F1
          obtain ⟨k0, k1, k2, k3, _, _, _, _⟩ := HB2.out.four
          have hcell2 : w2.cell? ⟨b, o, none⟩ = some (.string (fp 0)) := (Below.cell F2.out hb).trans HCe.out
          by_cases hsz : (fp 0).size = 2
          · have hs1 : (1 : Int) < ((fp 0).size : Int) := by omega
            have hs1' : 1 < (fp 0).size := by omega
            have e1 := get_bs (fp 0) 1 hs1'
            have hcnt : JN.countB (fp 0) = (fp 0)[1].toNat := by unfold JN.countB; rw [e1]
            have hk : (fp 0)[1].toNat < 256 := (fp 0)[1].toNat_lt
            obtain ⟨n, hg⟩ : ∃ n, (fp 0)[1].toNat = n := ⟨_, rfl⟩
            rw [hg] at hcnt hk
            have HSZ := hideP hsz
            have HCN := hideP hcnt
            have hsz2 : ((fp 0).size : Int) = 2 := by omega
            have hsz3 : (((fp 0).size : Int) != 2) = false := by simp; omega
            clear hsz e1 hcnt
            by_cases hn : n ≤ 31
            · have hn1 : ¬ (31 : Int) < (n : Int) := by omega
              have hw : IntKind.i64.wrap (n : Int) = (n : Int) := by
                simp only [IntKind.wrap, IntKind.signed, IntKind.bits]
                simp
                omega
              replace HU := hideP (HU.out.trans (if_pos ⟨HSZ.out, by rw [HCN.out]; exact hn⟩))
              go_wp2_with fail
              obtain ⟨i0, hi0, hz0, hz1, hz2⟩ := info_parts Try.infoO
              have cE := fun W => endOps_any W
              clear k0 k1 k2 k3
              go_loopw [6, 7, 8] (fun ov iv _ wr => ∃ i : Nat, iv = .int .i64 ((i : Int) + 1) ∧ i ≤ n ∧ wr.ownsRow w.heap.size 84 3 ov i (flat cdO (JN.dataO ((JN.undoD fp).take i))) ∧ Fr w wr ∧ ∀ k, k < i → JN.okeB (fp (k + 1))) (fun _ iv _ _ => n + 1 - (intOf iv).toNat)
              case atStart => exact ⟨0, rfl, Nat.zero_le _, World.ownsRow_nil _ _ _ _, F2.out, fun k hk => absurd hk (Nat.not_lt_zero _)⟩
              case round =>
                obtain ⟨i, rfl, hi, hown, hfr, hall⟩ := hrel
                obtain ⟨ao, co, rfl⟩ := own_slice hown
                have HO := hideP hown
                have HFr := hideP hfr
                have HA := hideP hall
                have hcw : wr.cell? ⟨b, o, none⟩ = some (.string (fp 0)) := (Below.cell hfr hb).trans HCe.out
                clear hown hfr hall hcell2
                by_cases hlt : i < n
                · have hlt' : (i : Int) + 1 ≤ (n : Int) := by omega
                  have hc := CP.out wr HFr.out (i + 1)
                  have hcast : ((i + 1 : Nat) : Int) = (i : Int) + 1 := by omega
                  rw [hcast] at hc
                  have hdt := JN.data_take fp i (by rw [HCN.out]; exact hlt)
                  have hoke : ¬ JN.okeB (fp (i + 1)) → r = ([], 1) := fun h => HU.out.trans (if_neg (by rw [HCN.out, JN.all_oke fp n i hlt h]; simp))
                  generalize hpp : fp (i + 1) = pp at hc hdt hoke
                  have HPP := hideP hpp
                  clear hpp
                  have HDT := hideP hdt
                  have HOK := hideP hoke
                  clear hdt hoke hcast
                  go_wp2_with fail
                  refine hc.mono ?_
                  rintro _ wr ⟨rfl, rfl⟩
                  clear hc
                  by_cases p2 : pp.size < 2
                  · have p2' : (pp.size : Int) < 2 := by omega
                    go_wp2_with fail
                    go_ret2
                    rw [HOK.out (fun h => by have := h.1; omega)]
                    exact ⟨_, rfl, isL_nil _ _, HFr.out⟩
                  have p2' : ¬ (pp.size : Int) < 2 := by omega
                  have p20 : (0 : Int) < (pp.size : Int) := by omega
                  have p21 : (1 : Int) < (pp.size : Int) := by omega
                  have p22 : (2 : Int) ≤ (pp.size : Int) := by omega
                  have q0 := get_bs pp 0 (by omega)
                  have q1 := get_bs pp 1 (by omega)
                  have t0 : (pp[0]'(by omega)).toNat < 256 := (pp[0]'(by omega)).toNat_lt
                  have t1 : (pp[1]'(by omega)).toNat < 256 := (pp[1]'(by omega)).toNat_lt
                  obtain ⟨x0, e0⟩ : ∃ x0, (pp[0]'(by omega)).toNat = x0 := ⟨_, rfl⟩
                  obtain ⟨x1, e1⟩ : ∃ x1, (pp[1]'(by omega)).toNat = x1 := ⟨_, rfl⟩
                  rw [e0] at t0
                  rw [e1] at t1
                  have HQ0 : Hid (((JN.bs pp).getD 0 0).toNat = x0) := by unfold Hid; rw [← q0]; exact e0
                  have HQ1 : Hid (((JN.bs pp).getD 1 0).toNat = x1) := by unfold Hid; rw [← q1]; exact e1
                  clear q0 q1
                  by_cases g0 : 0 < x0
                  · have g0' : (0 : Int) < (x0 : Int) := by omega
                    go_wp2_with fail
                    go_ret2
                    rw [HOK.out (fun h => by have h1 := h.2.1; have h2 := HQ0.out; rw [h1] at h2; have h3 : (UInt8.toNat 0 : Nat) = 0 := rfl; omega)]
                    exact ⟨_, rfl, isL_nil _ _, HFr.out⟩
                  obtain rfl : x0 = 0 := by omega
                  by_cases g1 : 31 < x1
                  · have g1' : (31 : Int) < (x1 : Int) := by omega
                    go_wp2_with fail
                    go_ret2
                    rw [HOK.out (fun h => by have h1 := h.2.2; rw [HQ1.out] at h1; omega)]
                    exact ⟨_, rfl, isL_nil _ _, HFr.out⟩
                  have g1' : ¬ (31 : Int) < (x1 : Int) := by omega
                  have hw1 : IntKind.i64.wrap (x1 : Int) = (x1 : Int) := by
                    simp only [IntKind.wrap, IntKind.signed, IntKind.bits]
                    simp
                    omega
                  have HDe : Hid ((⟨1, ((JN.decB pp).1 : Int), (JN.decB pp).2⟩ : JN.O) = ⟨1, (x1 : Int), pp.extract 2 pp.size⟩) := by
                    unfold Hid JN.decB
                    rw [HQ1.out]
                  have HOke : Hid (JN.okeB pp) := by
                    refine ⟨by omega, ?_, by rw [HQ1.out]; omega⟩
                    exact UInt8.toNat_inj.1 (by rw [HQ0.out]; rfl)
                  clear HOK
                  go_upto_region 16 with fail
                  go_region_held3 (fun _ => True) (first | exact trivial | assumption) (first
                    | (refine step_append_L cdO rfl _ _ 47 84 i0 _ 32 rfl Try.underlying47 hi0 hz0 hz1 hz2 rfl w.heap.size _ i _ rfl (show (wr.alloc (.cells #[.int .i64 1, .int .i64 x1, .string (pp.extract 2 pp.size)] 84)).drew.ownsRow w.heap.size 84 3 _ i (flat cdO (JN.dataO ((JN.undoD fp).take i))) from own_fr HO.out (Fr.drew (Fr.alloc (Fr.refl wr) _))) (.slice (some ⟨wr.heap.size, 0, none⟩) 1 1) [⟨1, x1, pp.extract 2 pp.size⟩] rfl ((lit_one cdO wr ⟨1, x1, pp.extract 2 pp.size⟩ 84).fr (Fr.drew (Fr.refl _))) (by unfold maxLen; simp; omega) (by simp; omega) (by have := HFr.out.size; simp; omega) ?_; intro v2 wB own2 gr2; have hfB : Fr w wB := Below.grown (HFr.out.trans (Fr.drew (Fr.alloc (Fr.refl wr) _))) gr2 (by have := HFr.out.size; simp; omega) (own_base HO.out)))
                  all_goals (
                    have HO2 : Hid (wB.ownsRow w.heap.size 84 3 v2 (i + 1) (flat cdO (JN.dataO ((JN.undoD fp).take (i + 1))))) := by
                      unfold Hid
                      rw [HDT.out, HDe.out]
                      exact own2
                    clear own2 gr2
                    go_wp2_with fail
                    go_roundw
                    case rel =>
                      refine ⟨i + 1, by go_num, by omega, HO2.out, hfB, ?_⟩
                      intro k hk
                      rcases Nat.lt_or_ge k i with h | h
                      · exact HA.out k h
                      · obtain rfl : k = i := by omega
                        rw [HPP.out]
                        exact HOke.out
                    case measure => simp [intOf]; omega)
                · obtain rfl : i = n := by omega
                  have hlt' : ((i : Int) + 1 ≤ (i : Int)) = False := by simp; omega
                  have HR : Hid (r = (JN.dataO (JN.undoD fp) ++ JN.endsO, 0)) := by
                    unfold Hid
                    rw [HU.out, if_pos (by rw [HCN.out]; exact JN.oke_all fp i HA.out)]
                  have e9 : (JN.undoD fp).take i = JN.undoD fp := List.take_of_length_le (by rw [JN.undoD_len, HCN.out]; exact Nat.le_refl _)
                  rw [e9] at HO
                  clear e9
                  go_wp2_with fail
                  refine (cE _).mono ?_
                  rintro _ w3 ⟨v3, rfl, hl3, f3⟩
                  obtain ⟨a3, n3, c3, rfl⟩ := hl3.slice
                  have HL3 := hideP hl3
                  have F3 := hideP f3
                  clear hl3 f3
                  go_wp2_with (at_builtin; refine wpList_append_L cdO rfl _ _ 47 84 i0 _ 32 rfl Try.underlying47 hi0 hz0 hz1 hz2 rfl w.heap.size _ i _ rfl (own_fr HO.out F3.out) _ JN.endsO rfl HL3.out (by unfold maxLen; simp [JN.endsO]; omega) (by simp [JN.endsO]; omega) (by have := (HFr.out.trans F3.out).size; omega) ?_)
                  intro v4 w4 own4 gr4
                  have hfB : Fr w w4 := Below.grown (HFr.out.trans F3.out) gr4 ((HFr.out.trans F3.out).size) (own_base HO.out)
                  have hlen : i + JN.endsO.length = (JN.dataO (JN.undoD fp) ++ JN.endsO).length := by
                    rw [List.length_append]
                    simp [JN.dataO, JN.undoD_len, HCN.out]
                  have HO4 : Hid (IsL cdO w4 v4 (JN.dataO (JN.undoD fp) ++ JN.endsO)) := by
                    rw [hlen] at own4
                    exact isL_own (E := cdO) own4
                  clear own4 gr4 hlen
                  go_wp2_with fail
                  go_ret2
                  rw [HR.out]
                  exact ⟨_, rfl, HO4.out, hfB⟩
            · have hn1 : (31 : Int) < (n : Int) := by omega
              replace HU := hideP (HU.out.trans (if_neg (fun h => hn (by have := h.2; rw [HCN.out] at this; exact this))))
              go_wp2_with fail
              go_ret2
              rw [HU.out]
              exact ⟨_, rfl, isL_nil _ _, F2.out⟩
          · have hsz3 : (((fp 0).size : Int) != 2) = true := by simp; omega
            have hsz4 : ¬ (((fp 0).size : Int) = 2) := by omega
            replace HU := hideP (HU.out.trans (if_neg (fun h => hsz h.1)))
            go_wp2_with fail
            go_ret2
            rw [HU.out]
            exact ⟨_, rfl, isL_nil _ _, F2.out⟩
      · have hw3 : 0 < nQ := by
          rcases Nat.eq_zero_or_pos nQ with h | h
          · rw [h] at hnQ; exact absurd (List.length_eq_zero_iff.1 hnQ) hw2
          · exact h
        replace HU := hideP (HU.out.trans (if_pos (.inr hw2)))
        have hw4 : (0 : Int) < (nQ : Int) := by omega
        clear hnq hnQ hw2 hok h2 h4 HS HPc
        go_enter Try.func40, Try.ntmps40
        go_wp2_with fail
        refine c.mono ?_
        rintro _ w1 ⟨rfl, f1⟩
        obtain ⟨k0, k1, k2, k3, _, _, _, _⟩ := (HB.out.fr f1).four
        have F1 := hideP (((Fr.refl w).alloc _).trans f1)
        clear c f1
        go_wp2_with fail
        go_ret2
        rw [HU.out]
        exact ⟨_, rfl, isL_nil _ _, F1.out⟩
    · have hw3 : 0 < nq := by
        rcases Nat.eq_zero_or_pos nq with h | h
        · rw [h] at hnq; exact absurd (List.length_eq_zero_iff.1 hnq) hw1
        · exact h
      replace HU := hideP (HU.out.trans (if_pos (.inl hw1)))
      have hw4 : (0 : Int) < (nq : Int) := by omega
      clear hnq hnQ hw1 hok h2 h4 HS HPc
      go_enter Try.func40, Try.ntmps40
      go_wp2_with fail
      refine c.mono ?_
      rintro _ w1 ⟨rfl, f1⟩
      obtain ⟨k0, k1, k2, k3, _, _, _, _⟩ := (HB.out.fr f1).four
      have F1 := hideP (((Fr.refl w).alloc _).trans f1)
      clear c f1
      go_wp2_with fail
      go_ret2
      rw [HU.out]
      exact ⟨_, rfl, isL_nil _ _, F1.out⟩
  · replace HU := hideP (HU.out.trans (if_neg h0))
    generalize JN.schk s = x at c HU h0
    have hne : ((x : Int) != 0) = true := by simp; omega
    have hne2 : ¬ ((x : Int) = 0) := by omega
    have hne3 : ((x : Int) == 0) = false := by simp; omega
    clear hnq hnQ h2 h4 HS HPc
    go_enter Try.func40, Try.ntmps40
    go_wp2_with fail
    refine c.mono ?_
    rintro _ w1 ⟨rfl, f1⟩
    obtain ⟨k0, k1, k2, k3, _, _, _, _⟩ := (HB.out.fr f1).four
    have F1 := hideP (((Fr.refl w).alloc _).trans f1)
    clear c f1
    go_wp2_with fail
    go_ret2
    rw [HU.out]
    exact ⟨_, rfl, isL_nil _ _, F1.out⟩
end Go.Proofs.Ytklldfkaihpkiaa
