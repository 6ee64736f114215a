/-
  The document's PlayOf.
-/
import Derived.Test.YtklldfkaihpkiaaJdT
import Derived.Deep.DeepCutAuto
import Derived.Deep.CutRange
namespace Go.Proofs.Ytklldfkaihpkiaa
open Go.ChangeShapes Go.WideShapes Go.ChangeAt Go.RowKit
set_option linter.unusedVariables false
set_option linter.unusedSimpArgs false
set_option maxRecDepth 100000
set_option maxHeartbeats 4000000

theorem playOf_any (p q P Q v : Value) (s : JN.S) (ops : List JN.O) (w : World) (hr : IsS w p q P Q s) (hv : IsL cdO w v ops) (h1 : s.da.pg.length ≤ 9223372036854775806) (h2 : s.da.wt.length ≤ 9223372036854775806) (h3 : s.jo.pg.length ≤ 9223372036854775806) (h4 : s.jo.wt.length ≤ 9223372036854775806) (h5 : ops.length ≤ 9223372036854775806) :
    Calls Try.prog 36 #[.agg #[p, q, P, Q], v] w fun e w' => SIs (JN.playS s ops) w e w' := by
  have c := fun W (f : Fr w W) => storeCheck_any _ _ _ _ s W (hr.fr f) h1 h2 h3 h4
  obtain ⟨ap, np, cp, rfl⟩ := hr.1.1.slice
  obtain ⟨aq, nq, cq, rfl⟩ := hr.1.2.slice
  obtain ⟨aP, nP, cP, rfl⟩ := hr.2.1.slice
  obtain ⟨aQ, nQ, cQ, rfl⟩ := hr.2.2.slice
  obtain ⟨av, cv, rfl, hcv, hcs⟩ := hv
  have HC := hideP hcs
  obtain ⟨W0, hW0⟩ : ∃ W0, (w.alloc (.cells #[.slice ap np cp, .slice aq nq cq, .slice aP nP cP, .slice aQ nQ cQ] 46)).alloc (.cells #[.slice none 0 0, .slice none 0 0, .slice none 0 0, .slice none 0 0] 46) = W0 := ⟨_, rfl⟩
  have f0 : Fr w W0 := by rw [← hW0]; exact ((Fr.refl w).alloc _).alloc _
  have bd : Blk W0 w.heap.size #[.slice ap np cp, .slice aq nq cq, .slice aP nP cP, .slice aQ nQ cQ] 46 := by
    have := (Blk.new w #[.slice ap np cp, .slice aq nq cq, .slice aP nP cP, .slice aQ nQ cQ] 46).old (.cells #[.slice none 0 0, .slice none 0 0, .slice none 0 0, .slice none 0 0] 46)
    rw [hW0] at this
    exact this
  have br : Blk W0 (w.heap.size + 1) #[.slice none 0 0, .slice none 0 0, .slice none 0 0, .slice none 0 0] 46 := by
    have := Blk.new (w.alloc (.cells #[.slice ap np cp, .slice aq nq cq, .slice aP nP cP, .slice aQ nQ cQ] 46)) #[.slice none 0 0, .slice none 0 0, .slice none 0 0, .slice none 0 0] 46
    rw [World.size_alloc, hW0] at this
    exact this
  obtain ⟨k0, k1, k2, k3, _, _, _, _⟩ := bd.four
  have HB := hideP bd
  have HR := hideP br
  have HF0 := hideP f0
  have cc := c W0 f0
  have HP : Hid (JN.playS s ops = if JN.schk s = 0 then if 100 < ops.length then (JN.noneS, 2) else JN.playO s ops else (JN.noneS, JN.schk s)) := rfl
  obtain ⟨r, hr0⟩ : ∃ r, JN.playS s ops = r := ⟨_, rfl⟩
  rw [hr0] at HP ⊢
  clear c f0 bd br hcs hr0
  by_cases h0 : JN.schk s = 0
  · have hok := (JN.schk_ok s).1 h0
    rw [h0] at cc
    by_cases h6 : 100 < ops.length
    · have h6' : (100 : Int) < (ops.length : Int) := by omega
      have HP2 : Hid (r = (JN.noneS, 2)) := by unfold Hid; rw [HP.out, if_pos h0, if_pos h6]
      clear HP hok
      go_enter Try.func36, Try.ntmps36
      go_wp2_with fail
      refine cc.mono ?_
      rintro _ w1 ⟨rfl, f1⟩
      have HB1 := hideP (HB.out.fr f1)
      have HR1 := hideP (HR.out.fr f1)
      have HF1 := hideP (HF0.out.trans f1)
      have HS1 := hideP (hr.fr HF1.out)
      clear k0 k1 k2 k3 f1 cc hW0
      go_wp2_with fail
      go_loopw [6, 7] (fun ev iv wr => ∃ (i e : Nat) (p q P Q : Value) (st : JN.S), iv = .int .i64 i ∧ ev = .int .i64 e ∧ i ≤ ops.length ∧ Blk wr w.heap.size #[p, q, P, Q] 46 ∧ Blk wr (w.heap.size + 1) #[.slice none 0 0, .slice none 0 0, .slice none 0 0, .slice none 0 0] 46 ∧ IsS wr p q P Q st ∧ Fr w wr ∧ (e = 0 ∧ JN.OkS st ∧ r = JN.playO st (ops.drop i) ∨ e ≠ 0 ∧ r = (JN.noneS, e))) (fun _ iv _ => ops.length - (intOf iv).toNat)
      case atStart => exact ⟨0, 2, _, _, _, _, s, rfl, rfl, Nat.zero_le _, HB1.out, HR1.out, HS1.out, HF1.out, .inr ⟨by decide, HP2.out⟩⟩
      case round =>
        obtain ⟨i, e, p, q, P, Q, st, rfl, rfl, hi, hbs, hbr, hst, hfr, hrel⟩ := hrel
        obtain ⟨ap, np, cp, rfl⟩ := hst.1.1.slice
        obtain ⟨aq, nq, cq, rfl⟩ := hst.1.2.slice
        obtain ⟨aP, nP, cP, rfl⟩ := hst.2.1.slice
        obtain ⟨aQ, nQ, cQ, rfl⟩ := hst.2.2.slice
        have HBS := hideP hbs
        have HBR := hideP hbr
        have HST := hideP hst
        have HFr := hideP hfr
        clear hbs hbr hst hfr
        rcases hrel with ⟨rfl, hok, hre⟩ | ⟨hne, hre⟩
        · by_cases hlt : i < ops.length
          · have hlt' : (i : Int) < (ops.length : Int) := by omega
            obtain ⟨b, o, rfl, hb, hc⟩ : ∃ b o, av = some ⟨b, o, none⟩ ∧ b < w.heap.size ∧ At cdO w b o ops := by
              rcases HC.out with h | h
              · subst h; simp at hlt
              · exact h
            obtain ⟨c0, c1, c2⟩ := (hc.fr hb HFr.out).op i hlt
            have hl := hok.da.len
            have hl2 := hok.da.many
            have hl3 := hok.jo.len
            have hl4 := hok.jo.many
            have cc := opOf_any _ _ _ _ st ops[i] wr.drew (HST.out.fr (Fr.drew (Fr.refl wr))) (by omega) (by omega) (by omega) (by omega)
            have hstep : (JN.opS st ops[i]).2 = 0 → JN.OkS (JN.opS st ops[i]).1 := fun h => (JN.op_ok hok h).1
            have hre2 : r = if (JN.opS st ops[i]).2 = 0 then JN.playO (JN.opS st ops[i]).1 (ops.drop (i + 1)) else (JN.noneS, (JN.opS st ops[i]).2) := by
              rw [hre, List.drop_eq_getElem_cons hlt, JN.playO]
            generalize JN.opS st ops[i] = ro at cc hstep hre2
            generalize ops[i].kind = x0 at c0 cc
            generalize ops[i].no = x1 at c1 cc
            generalize ops[i].t = x2 at c2 cc
            obtain ⟨k0, k1, k2, k3, z0, z1, z2, z3⟩ := HBS.out.four
            have hb2 : b < wr.heap.size := Nat.lt_of_lt_of_le hb HFr.out.size
            have HRE := hideP hre2
            have HSTp := hideP hstep
            clear hre hre2 hstep hok hc hl hl2 hl3 hl4
            go_upto_region 7 with fail
            go_region_with (go_at_call 67; refine cc.mono ?_; rintro _ w5 ⟨p5, q5, P5, Q5, rfl, hs5, f5⟩; obtain ⟨b1, n1, d1, rfl⟩ := hs5.1.1.slice; obtain ⟨b2, n2, d2, rfl⟩ := hs5.1.2.slice; obtain ⟨b3, n3, d3, rfl⟩ := hs5.2.1.slice; obtain ⟨b4, n4, d4, rfl⟩ := hs5.2.2.slice; have HS5 := hideP hs5; have F5 := hideP (Fr.after f5 (Fr.drew (Fr.refl wr))); clear hs5 f5; obtain ⟨g0, g1, g2, g3, y0, y1, y2, y3⟩ := (HBS.out.fr F5.out).four)
            all_goals (
              go_wp2_with fail
              go_roundw
              case rel =>
                refine ⟨i + 1, ro.2, _, _, _, _, ro.1, by go_num, rfl, by omega, (HBS.out.fr F5.out).put4 (.slice b1 n1 d1) (.slice b2 n2 d2) (.slice b3 n3 d3) (.slice b4 n4 d4), (HBR.out.fr F5.out).oput4 (by omega) _ _ _ _, HS5.out.in4 (HBS.out.fr F5.out) _ _ _ _, (HFr.out.trans F5.out).put4 _ (Nat.le_refl _) _ _ _ _, ?_⟩
                by_cases h0 : ro.2 = 0
                · left
                  refine ⟨h0, HSTp.out h0, ?_⟩
                  rw [HRE.out, if_pos h0]
                · right
                  refine ⟨h0, ?_⟩
                  rw [HRE.out, if_neg h0]
              case measure => simp [intOf]; omega)
          · have hlt' : ¬ (i : Int) < (ops.length : Int) := by omega
            have hre2 : r = (st, 0) := by rw [hre, List.drop_of_length_le (by omega)]; rfl
            obtain ⟨k0, k1, k2, k3, z0, z1, z2, z3⟩ := HBS.out.four
            obtain ⟨l0, l1, l2, l3, y0, y1, y2, y3⟩ := HBR.out.four
            have HRE := hideP hre2
            clear hre hre2 hok
            go_wp2_with fail
            refine bodyPost_ret (v := .tuple #[.agg #[.slice ap np cp, .slice aq nq cq, .slice aP nP cP, .slice aQ nQ cQ], .int .i64 0]) ?_ rfl ?_
            · obtain ⟨q0, q1, q2, q3, _, _, _, _⟩ := (HBR.out.put4 (.slice ap np cp) (.slice aq nq cq) (.slice aP nP cP) (.slice aQ nQ cQ)).four
              change (results Try.f36 _).run Try.prog (pt4 wr _ _ _ _ _) = .ok _ (pt4 wr _ _ _ _ _)
              simp [results, Try.results36, go_sem, q0, q1, q2, q3]
            · rw [HRE.out]
              exact ⟨_, _, _, _, rfl, HST.out.in4 HBR.out _ _ _ _, HFr.out.put4 (w.heap.size + 1) (by omega) _ _ _ _⟩
        · have hne1 : ((e : Int) != 0) = true := by simp; omega
          have hne2 : ¬ ((e : Int) = 0) := by omega
          have hne3 : ((e : Int) == 0) = false := by simp; omega
          obtain ⟨l0, l1, l2, l3, y0, y1, y2, y3⟩ := HBR.out.four
          have HRE := hideP hre
          clear hre
          by_cases hlt : i < ops.length
          · have hlt' : (i : Int) < (ops.length : Int) := by omega
            go_wp2_with fail
            refine bodyPost_ret (v := .tuple #[.agg #[.slice none 0 0, .slice none 0 0, .slice none 0 0, .slice none 0 0], .int .i64 (e : Int)]) ?_ rfl ?_
            · obtain ⟨q0, q1, q2, q3, _, _, _, _⟩ := (HBR.out.put4 (.slice none 0 0) (.slice none 0 0) (.slice none 0 0) (.slice none 0 0)).four
              change (results Try.f36 _).run Try.prog (pt4 wr _ _ _ _ _) = .ok _ (pt4 wr _ _ _ _ _)
              simp [results, Try.results36, go_sem, q0, q1, q2, q3]
            · rw [HRE.out]
              exact ⟨_, _, _, _, rfl, isS_none _, HFr.out.put4 (w.heap.size + 1) (by omega) _ _ _ _⟩
          · have hlt' : ¬ (i : Int) < (ops.length : Int) := by omega
            go_wp2_with fail
            refine bodyPost_ret (v := .tuple #[.agg #[.slice none 0 0, .slice none 0 0, .slice none 0 0, .slice none 0 0], .int .i64 (e : Int)]) ?_ rfl ?_
            · obtain ⟨q0, q1, q2, q3, _, _, _, _⟩ := (HBR.out.put4 (.slice none 0 0) (.slice none 0 0) (.slice none 0 0) (.slice none 0 0)).four
              change (results Try.f36 _).run Try.prog (pt4 wr _ _ _ _ _) = .ok _ (pt4 wr _ _ _ _ _)
              simp [results, Try.results36, go_sem, q0, q1, q2, q3]
            · rw [HRE.out]
              exact ⟨_, _, _, _, rfl, isS_none _, HFr.out.put4 (w.heap.size + 1) (by omega) _ _ _ _⟩
    · have h6' : ¬ (100 : Int) < (ops.length : Int) := by omega
      have HP2 : Hid (r = JN.playO s ops) := by unfold Hid; rw [HP.out, if_pos h0, if_neg h6]
      have HOK := hideP hok
      clear HP hok
      go_enter Try.func36, Try.ntmps36
      go_wp2_with fail
      refine cc.mono ?_
      rintro _ w1 ⟨rfl, f1⟩
      have HB1 := hideP (HB.out.fr f1)
      have HR1 := hideP (HR.out.fr f1)
      have HF1 := hideP (HF0.out.trans f1)
      have HS1 := hideP (hr.fr HF1.out)
      clear k0 k1 k2 k3 f1 cc hW0
      go_wp2_with fail
      go_loopw [6, 7] (fun ev iv wr => ∃ (i e : Nat) (p q P Q : Value) (st : JN.S), iv = .int .i64 i ∧ ev = .int .i64 e ∧ i ≤ ops.length ∧ Blk wr w.heap.size #[p, q, P, Q] 46 ∧ Blk wr (w.heap.size + 1) #[.slice none 0 0, .slice none 0 0, .slice none 0 0, .slice none 0 0] 46 ∧ IsS wr p q P Q st ∧ Fr w wr ∧ (e = 0 ∧ JN.OkS st ∧ r = JN.playO st (ops.drop i) ∨ e ≠ 0 ∧ r = (JN.noneS, e))) (fun _ iv _ => ops.length - (intOf iv).toNat)
      case atStart => exact ⟨0, 0, _, _, _, _, s, rfl, rfl, Nat.zero_le _, HB1.out, HR1.out, HS1.out, HF1.out, .inl ⟨rfl, HOK.out, HP2.out⟩⟩
      case round =>
        obtain ⟨i, e, p, q, P, Q, st, rfl, rfl, hi, hbs, hbr, hst, hfr, hrel⟩ := hrel
        obtain ⟨ap, np, cp, rfl⟩ := hst.1.1.slice
        obtain ⟨aq, nq, cq, rfl⟩ := hst.1.2.slice
        obtain ⟨aP, nP, cP, rfl⟩ := hst.2.1.slice
        obtain ⟨aQ, nQ, cQ, rfl⟩ := hst.2.2.slice
        have HBS := hideP hbs
        have HBR := hideP hbr
        have HST := hideP hst
        have HFr := hideP hfr
        clear hbs hbr hst hfr
        rcases hrel with ⟨rfl, hok, hre⟩ | ⟨hne, hre⟩
        · by_cases hlt : i < ops.length
          · have hlt' : (i : Int) < (ops.length : Int) := by omega
            obtain ⟨b, o, rfl, hb, hc⟩ : ∃ b o, av = some ⟨b, o, none⟩ ∧ b < w.heap.size ∧ At cdO w b o ops := by
              rcases HC.out with h | h
              · subst h; simp at hlt
              · exact h
            obtain ⟨c0, c1, c2⟩ := (hc.fr hb HFr.out).op i hlt
            have hl := hok.da.len
            have hl2 := hok.da.many
            have hl3 := hok.jo.len
            have hl4 := hok.jo.many
            have cc := opOf_any _ _ _ _ st ops[i] wr.drew (HST.out.fr (Fr.drew (Fr.refl wr))) (by omega) (by omega) (by omega) (by omega)
            have hstep : (JN.opS st ops[i]).2 = 0 → JN.OkS (JN.opS st ops[i]).1 := fun h => (JN.op_ok hok h).1
            have hre2 : r = if (JN.opS st ops[i]).2 = 0 then JN.playO (JN.opS st ops[i]).1 (ops.drop (i + 1)) else (JN.noneS, (JN.opS st ops[i]).2) := by
              rw [hre, List.drop_eq_getElem_cons hlt, JN.playO]
            generalize JN.opS st ops[i] = ro at cc hstep hre2
            generalize ops[i].kind = x0 at c0 cc
            generalize ops[i].no = x1 at c1 cc
            generalize ops[i].t = x2 at c2 cc
            obtain ⟨k0, k1, k2, k3, z0, z1, z2, z3⟩ := HBS.out.four
            have hb2 : b < wr.heap.size := Nat.lt_of_lt_of_le hb HFr.out.size
            have HRE := hideP hre2
            have HSTp := hideP hstep
            clear hre hre2 hstep hok hc hl hl2 hl3 hl4
            go_upto_region 7 with fail
            go_region_with (go_at_call 67; refine cc.mono ?_; rintro _ w5 ⟨p5, q5, P5, Q5, rfl, hs5, f5⟩; obtain ⟨b1, n1, d1, rfl⟩ := hs5.1.1.slice; obtain ⟨b2, n2, d2, rfl⟩ := hs5.1.2.slice; obtain ⟨b3, n3, d3, rfl⟩ := hs5.2.1.slice; obtain ⟨b4, n4, d4, rfl⟩ := hs5.2.2.slice; have HS5 := hideP hs5; have F5 := hideP (Fr.after f5 (Fr.drew (Fr.refl wr))); clear hs5 f5; obtain ⟨g0, g1, g2, g3, y0, y1, y2, y3⟩ := (HBS.out.fr F5.out).four)
            all_goals (
              go_wp2_with fail
              go_roundw
              case rel =>
                refine ⟨i + 1, ro.2, _, _, _, _, ro.1, by go_num, rfl, by omega, (HBS.out.fr F5.out).put4 (.slice b1 n1 d1) (.slice b2 n2 d2) (.slice b3 n3 d3) (.slice b4 n4 d4), (HBR.out.fr F5.out).oput4 (by omega) _ _ _ _, HS5.out.in4 (HBS.out.fr F5.out) _ _ _ _, (HFr.out.trans F5.out).put4 _ (Nat.le_refl _) _ _ _ _, ?_⟩
                by_cases h0 : ro.2 = 0
                · left
                  refine ⟨h0, HSTp.out h0, ?_⟩
                  rw [HRE.out, if_pos h0]
                · right
                  refine ⟨h0, ?_⟩
                  rw [HRE.out, if_neg h0]
              case measure => simp [intOf]; omega)
          · have hlt' : ¬ (i : Int) < (ops.length : Int) := by omega
            have hre2 : r = (st, 0) := by rw [hre, List.drop_of_length_le (by omega)]; rfl
            obtain ⟨k0, k1, k2, k3, z0, z1, z2, z3⟩ := HBS.out.four
            obtain ⟨l0, l1, l2, l3, y0, y1, y2, y3⟩ := HBR.out.four
            have HRE := hideP hre2
            clear hre hre2 hok
            go_wp2_with fail
            refine bodyPost_ret (v := .tuple #[.agg #[.slice ap np cp, .slice aq nq cq, .slice aP nP cP, .slice aQ nQ cQ], .int .i64 0]) ?_ rfl ?_
            · obtain ⟨q0, q1, q2, q3, _, _, _, _⟩ := (HBR.out.put4 (.slice ap np cp) (.slice aq nq cq) (.slice aP nP cP) (.slice aQ nQ cQ)).four
              change (results Try.f36 _).run Try.prog (pt4 wr _ _ _ _ _) = .ok _ (pt4 wr _ _ _ _ _)
              simp [results, Try.results36, go_sem, q0, q1, q2, q3]
            · rw [HRE.out]
              exact ⟨_, _, _, _, rfl, HST.out.in4 HBR.out _ _ _ _, HFr.out.put4 (w.heap.size + 1) (by omega) _ _ _ _⟩
        · have hne1 : ((e : Int) != 0) = true := by simp; omega
          have hne2 : ¬ ((e : Int) = 0) := by omega
          have hne3 : ((e : Int) == 0) = false := by simp; omega
          obtain ⟨l0, l1, l2, l3, y0, y1, y2, y3⟩ := HBR.out.four
          have HRE := hideP hre
          clear hre
          by_cases hlt : i < ops.length
          · have hlt' : (i : Int) < (ops.length : Int) := by omega
            go_wp2_with fail
            refine bodyPost_ret (v := .tuple #[.agg #[.slice none 0 0, .slice none 0 0, .slice none 0 0, .slice none 0 0], .int .i64 (e : Int)]) ?_ rfl ?_
            · obtain ⟨q0, q1, q2, q3, _, _, _, _⟩ := (HBR.out.put4 (.slice none 0 0) (.slice none 0 0) (.slice none 0 0) (.slice none 0 0)).four
              change (results Try.f36 _).run Try.prog (pt4 wr _ _ _ _ _) = .ok _ (pt4 wr _ _ _ _ _)
              simp [results, Try.results36, go_sem, q0, q1, q2, q3]
            · rw [HRE.out]
              exact ⟨_, _, _, _, rfl, isS_none _, HFr.out.put4 (w.heap.size + 1) (by omega) _ _ _ _⟩
          · have hlt' : ¬ (i : Int) < (ops.length : Int) := by omega
            go_wp2_with fail
            refine bodyPost_ret (v := .tuple #[.agg #[.slice none 0 0, .slice none 0 0, .slice none 0 0, .slice none 0 0], .int .i64 (e : Int)]) ?_ rfl ?_
            · obtain ⟨q0, q1, q2, q3, _, _, _, _⟩ := (HBR.out.put4 (.slice none 0 0) (.slice none 0 0) (.slice none 0 0) (.slice none 0 0)).four
              change (results Try.f36 _).run Try.prog (pt4 wr _ _ _ _ _) = .ok _ (pt4 wr _ _ _ _ _)
              simp [results, Try.results36, go_sem, q0, q1, q2, q3]
            · rw [HRE.out]
              exact ⟨_, _, _, _, rfl, isS_none _, HFr.out.put4 (w.heap.size + 1) (by omega) _ _ _ _⟩
  · have HP2 : Hid (r = (JN.noneS, JN.schk s)) := by unfold Hid; rw [HP.out, if_neg h0]
    clear HP
    generalize JN.schk s = z at cc HP2 h0
    have HZ := hideP h0
    have hne3' : ((z : Int) == 0) = false := by simp; omega
    clear h0
    go_enter Try.func36, Try.ntmps36
    go_wp2_with fail
    refine cc.mono ?_
    rintro _ w1 ⟨rfl, f1⟩
    have HB1 := hideP (HB.out.fr f1)
    have HR1 := hideP (HR.out.fr f1)
    have HF1 := hideP (HF0.out.trans f1)
    have HS1 := hideP (hr.fr HF1.out)
    clear k0 k1 k2 k3 f1 cc hW0
    go_wp2_with fail
    go_loopw [6, 7] (fun ev iv wr => ∃ (i e : Nat) (p q P Q : Value) (st : JN.S), iv = .int .i64 i ∧ ev = .int .i64 e ∧ i ≤ ops.length ∧ Blk wr w.heap.size #[p, q, P, Q] 46 ∧ Blk wr (w.heap.size + 1) #[.slice none 0 0, .slice none 0 0, .slice none 0 0, .slice none 0 0] 46 ∧ IsS wr p q P Q st ∧ Fr w wr ∧ (e = 0 ∧ JN.OkS st ∧ r = JN.playO st (ops.drop i) ∨ e ≠ 0 ∧ r = (JN.noneS, e))) (fun _ iv _ => ops.length - (intOf iv).toNat)
    case atStart => exact ⟨0, z, _, _, _, _, s, rfl, rfl, Nat.zero_le _, HB1.out, HR1.out, HS1.out, HF1.out, .inr ⟨HZ.out, HP2.out⟩⟩
    case round =>
      obtain ⟨i, e, p, q, P, Q, st, rfl, rfl, hi, hbs, hbr, hst, hfr, hrel⟩ := hrel
      obtain ⟨ap, np, cp, rfl⟩ := hst.1.1.slice
      obtain ⟨aq, nq, cq, rfl⟩ := hst.1.2.slice
      obtain ⟨aP, nP, cP, rfl⟩ := hst.2.1.slice
      obtain ⟨aQ, nQ, cQ, rfl⟩ := hst.2.2.slice
      have HBS := hideP hbs
      have HBR := hideP hbr
      have HST := hideP hst
      have HFr := hideP hfr
      clear hbs hbr hst hfr
      rcases hrel with ⟨rfl, hok, hre⟩ | ⟨hne, hre⟩
      · by_cases hlt : i < ops.length
        · have hlt' : (i : Int) < (ops.length : Int) := by omega
          obtain ⟨b, o, rfl, hb, hc⟩ : ∃ b o, av = some ⟨b, o, none⟩ ∧ b < w.heap.size ∧ At cdO w b o ops := by
            rcases HC.out with h | h
            · subst h; simp at hlt
            · exact h
          obtain ⟨c0, c1, c2⟩ := (hc.fr hb HFr.out).op i hlt
          have hl := hok.da.len
          have hl2 := hok.da.many
          have hl3 := hok.jo.len
          have hl4 := hok.jo.many
          have cc := opOf_any _ _ _ _ st ops[i] wr.drew (HST.out.fr (Fr.drew (Fr.refl wr))) (by omega) (by omega) (by omega) (by omega)
          have hstep : (JN.opS st ops[i]).2 = 0 → JN.OkS (JN.opS st ops[i]).1 := fun h => (JN.op_ok hok h).1
          have hre2 : r = if (JN.opS st ops[i]).2 = 0 then JN.playO (JN.opS st ops[i]).1 (ops.drop (i + 1)) else (JN.noneS, (JN.opS st ops[i]).2) := by
            rw [hre, List.drop_eq_getElem_cons hlt, JN.playO]
          generalize JN.opS st ops[i] = ro at cc hstep hre2
          generalize ops[i].kind = x0 at c0 cc
          generalize ops[i].no = x1 at c1 cc
          generalize ops[i].t = x2 at c2 cc
          obtain ⟨k0, k1, k2, k3, z0, z1, z2, z3⟩ := HBS.out.four
          have hb2 : b < wr.heap.size := Nat.lt_of_lt_of_le hb HFr.out.size
          have HRE := hideP hre2
          have HSTp := hideP hstep
          clear hre hre2 hstep hok hc hl hl2 hl3 hl4
          go_upto_region 7 with fail
          go_region_with (go_at_call 67; refine cc.mono ?_; rintro _ w5 ⟨p5, q5, P5, Q5, rfl, hs5, f5⟩; obtain ⟨b1, n1, d1, rfl⟩ := hs5.1.1.slice; obtain ⟨b2, n2, d2, rfl⟩ := hs5.1.2.slice; obtain ⟨b3, n3, d3, rfl⟩ := hs5.2.1.slice; obtain ⟨b4, n4, d4, rfl⟩ := hs5.2.2.slice; have HS5 := hideP hs5; have F5 := hideP (Fr.after f5 (Fr.drew (Fr.refl wr))); clear hs5 f5; obtain ⟨g0, g1, g2, g3, y0, y1, y2, y3⟩ := (HBS.out.fr F5.out).four)
          all_goals (
            go_wp2_with fail
            go_roundw
            case rel =>
              refine ⟨i + 1, ro.2, _, _, _, _, ro.1, by go_num, rfl, by omega, (HBS.out.fr F5.out).put4 (.slice b1 n1 d1) (.slice b2 n2 d2) (.slice b3 n3 d3) (.slice b4 n4 d4), (HBR.out.fr F5.out).oput4 (by omega) _ _ _ _, HS5.out.in4 (HBS.out.fr F5.out) _ _ _ _, (HFr.out.trans F5.out).put4 _ (Nat.le_refl _) _ _ _ _, ?_⟩
              by_cases h0 : ro.2 = 0
              · left
                refine ⟨h0, HSTp.out h0, ?_⟩
                rw [HRE.out, if_pos h0]
              · right
                refine ⟨h0, ?_⟩
                rw [HRE.out, if_neg h0]
            case measure => simp [intOf]; omega)
        · have hlt' : ¬ (i : Int) < (ops.length : Int) := by omega
          have hre2 : r = (st, 0) := by rw [hre, List.drop_of_length_le (by omega)]; rfl
          obtain ⟨k0, k1, k2, k3, z0, z1, z2, z3⟩ := HBS.out.four
          obtain ⟨l0, l1, l2, l3, y0, y1, y2, y3⟩ := HBR.out.four
          have HRE := hideP hre2
          clear hre hre2 hok
          go_wp2_with fail
          refine bodyPost_ret (v := .tuple #[.agg #[.slice ap np cp, .slice aq nq cq, .slice aP nP cP, .slice aQ nQ cQ], .int .i64 0]) ?_ rfl ?_
          · obtain ⟨q0, q1, q2, q3, _, _, _, _⟩ := (HBR.out.put4 (.slice ap np cp) (.slice aq nq cq) (.slice aP nP cP) (.slice aQ nQ cQ)).four
            change (results Try.f36 _).run Try.prog (pt4 wr _ _ _ _ _) = .ok _ (pt4 wr _ _ _ _ _)
            simp [results, Try.results36, go_sem, q0, q1, q2, q3]
          · rw [HRE.out]
            exact ⟨_, _, _, _, rfl, HST.out.in4 HBR.out _ _ _ _, HFr.out.put4 (w.heap.size + 1) (by omega) _ _ _ _⟩
      · have hne1 : ((e : Int) != 0) = true := by simp; omega
        have hne2 : ¬ ((e : Int) = 0) := by omega
        have hne3 : ((e : Int) == 0) = false := by simp; omega
        obtain ⟨l0, l1, l2, l3, y0, y1, y2, y3⟩ := HBR.out.four
        have HRE := hideP hre
        clear hre
        by_cases hlt : i < ops.length
        · have hlt' : (i : Int) < (ops.length : Int) := by omega
          go_wp2_with fail
          refine bodyPost_ret (v := .tuple #[.agg #[.slice none 0 0, .slice none 0 0, .slice none 0 0, .slice none 0 0], .int .i64 (e : Int)]) ?_ rfl ?_
          · obtain ⟨q0, q1, q2, q3, _, _, _, _⟩ := (HBR.out.put4 (.slice none 0 0) (.slice none 0 0) (.slice none 0 0) (.slice none 0 0)).four
            change (results Try.f36 _).run Try.prog (pt4 wr _ _ _ _ _) = .ok _ (pt4 wr _ _ _ _ _)
            simp [results, Try.results36, go_sem, q0, q1, q2, q3]
          · rw [HRE.out]
            exact ⟨_, _, _, _, rfl, isS_none _, HFr.out.put4 (w.heap.size + 1) (by omega) _ _ _ _⟩
        · have hlt' : ¬ (i : Int) < (ops.length : Int) := by omega
          go_wp2_with fail
          refine bodyPost_ret (v := .tuple #[.agg #[.slice none 0 0, .slice none 0 0, .slice none 0 0, .slice none 0 0], .int .i64 (e : Int)]) ?_ rfl ?_
          · obtain ⟨q0, q1, q2, q3, _, _, _, _⟩ := (HBR.out.put4 (.slice none 0 0) (.slice none 0 0) (.slice none 0 0) (.slice none 0 0)).four
            change (results Try.f36 _).run Try.prog (pt4 wr _ _ _ _ _) = .ok _ (pt4 wr _ _ _ _ _)
            simp [results, Try.results36, go_sem, q0, q1, q2, q3]
          · rw [HRE.out]
            exact ⟨_, _, _, _, rfl, isS_none _, HFr.out.put4 (w.heap.size + 1) (by omega) _ _ _ _⟩
end Go.Proofs.Ytklldfkaihpkiaa
