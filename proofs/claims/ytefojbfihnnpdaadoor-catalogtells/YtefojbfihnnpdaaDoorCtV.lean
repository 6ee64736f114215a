/-
  What Of of package catalog answers, for every list of entries.
-/
import Derived.Test.YtefojbfihnnpdaaDoorCtU
namespace Go.Proofs.YtefojbfihnnpdaaDoor
open Go.ChangeShapes Go.WideShapes Go.ChangeAt Go.RowKit
set_option linter.unusedVariables false
set_option linter.unusedSimpArgs false
set_option maxRecDepth 100000
set_option maxHeartbeats 4000000

/-- what Of answers -/
def OfAns (B : Nat) (l : List LF.En) (e : Ending) (w' : World) : Prop :=
  (CT.ofE l = 0 ∧ ∃ v ps, e = .returned (.tuple #[v, .int .i64 0]) ∧ OSc B v ps w' ∧ ps.map (·.1) = l.map CT.tabA) ∨ (CT.ofE l ≠ 0 ∧ e = .returned (.tuple #[.slice none 0 0, .int .i64 (CT.ofE l)]))
def WE (l : List LF.En) : Prop := l.length ≤ 9223372036854775806 ∧ ∀ e ∈ l, (LF.wideE e ∧ e.2.length ≤ 9223372036854775807) ∧ ∀ x ∈ e.2, x.s.size ≤ 140737488355327
theorem of_bad (v : Value) (l : List LF.En) (w : World) (h : IsEnC w v l) (hw : WE l) (h0 : LF.chk l ≠ 0) :
    Calls Tryd.prog 9 #[v] w fun e w' => OfAns w.heap.size l e w' ∧ Fr w w' := by
  have cc := lcheck_any v l w h.en hw.1 (fun e he => (hw.2 e he).1)
  obtain ⟨a, cap, rfl, _⟩ := h
  have hz : CT.ofE l = LF.chk l := by unfold CT.ofE; rw [if_pos h0]
  have HZ : Hid (∀ w', OfAns w.heap.size l (.returned (.tuple #[.slice none 0 0, .int .i64 (LF.chk l)])) w') := by
    intro w'
    exact .inr ⟨by rw [hz]; exact h0, by rw [hz]⟩
  clear hz
  generalize LF.chk l = x at cc h0 HZ
  have e1 : ((x : Int) != 0) = true := by simp; omega
  have e2 : ¬ ((x : Int) = 0) := by omega
  go_enter Tryd.func9, Tryd.ntmps9
  go_wp2_with fail
  refine cc.mono ?_
  rintro _ w1 ⟨rfl, f1⟩
  go_wp2_with fail
  go_ret2
  exact ⟨HZ.out _, f1⟩
theorem of_good (v : Value) (l : List LF.En) (w : World) (h : IsEnC w v l) (hw : WE l) (h0 : LF.chk l = 0) :
    Calls Tryd.prog 9 #[v] w fun e w' => OfAns w.heap.size l e w' ∧ Fr w w' := by
  have cc := lcheck_any v l w h.en hw.1 (fun e he => (hw.2 e he).1)
  have hz : CT.ofE l = if l.all CT.tabB = true then CT.chk (l.map CT.tabA) else 1 := by unfold CT.ofE; rw [if_neg (by simp [h0])]
  rw [h0] at cc
  obtain ⟨hl40, hl8⟩ := CT.chk_short h0
  have hws : WS (l.map CT.tabA) := by
    intro s hs
    obtain ⟨e, he, rfl⟩ := List.mem_map.1 hs
    exact CT.tabA_wide e (hw.2 e he).2 (hl8 e he)
  obtain ⟨a, cap, rfl, hpc⟩ := h
  have HC := hideP hpc
  have HW := hideP hw
  have HZ := hideP hz
  have HL8 := hideP hl8
  have HWs := hideP hws
  clear hpc hw hz h0 hl8 hws
  obtain ⟨i0, hi0, hz0, hz1, hz2⟩ := info_parts Tryd.infoSc
  obtain ⟨mc, hmc⟩ : ∃ mc, madeCells (Value.agg #[.int .i64 0, .string ⟨#[]⟩, .slice none 0 0]).cells (l.length * 3) = mc := ⟨_, rfl⟩
  have hms : mc.size = l.length * 3 := by rw [← hmc]; exact size_madeCells _ _
  have hmk : ∀ W : World, (Instr.makeSlice 22 (.int .i64 0) (.int .i64 (l.length : Int))).run Tryd.prog W = .ok (.slice (some ⟨W.heap.size, 0, none⟩) 0 l.length) (W.alloc (.cells mc 39)) := by
    intro W
    have hr := run_make (P := Tryd.prog) W 22 39 i0 _ Tryd.underlying22 hi0 hz0 .i64 .i64 0 (l.length : Int) (by omega) (by omega) (by rw [hz2]; omega) (by omega)
    simp only [hz1] at hr
    rw [show (l.length : Int).toNat * 3 = l.length * 3 by omega, hmc] at hr
    exact hr
  go_enter Tryd.func9, Tryd.ntmps9
  go_wp2_with fail
  refine cc.mono ?_
  rintro _ w1 ⟨rfl, f1⟩
  have F1 : Hid (Fr w (w1.alloc (.cells mc 39))) := f1.alloc _
  have HO1 : Hid (OSc w.heap.size (.slice (some ⟨w1.heap.size, 0, none⟩) 0 l.length) [] (w1.alloc (.cells mc 39))) := ⟨World.ownsRow_made w1 mc l.length f1.size (by unfold maxLen; omega) hms, fun p hp => by simp at hp⟩
  clear cc f1 hms hmc
  go_wp2_with fail
  clear hmk
  go_loopw [5, 7, 8, 9, 21] (fun tv _ _ _ iv wr => ∃ (i : Nat) (ps : List (CT.Sc × Sl)), iv = .int .i64 i ∧ i ≤ l.length ∧ Fr w wr ∧ OSc w.heap.size tv ps wr ∧ ps.map (·.1) = (l.take i).map CT.tabA ∧ (l.take i).all CT.tabB = true) (fun _ _ _ _ iv _ => l.length - (intOf iv).toNat)
  case atStart => exact ⟨0, [], rfl, Nat.zero_le _, F1.out, HO1.out, rfl, rfl⟩
  case round =>
    obtain ⟨i, ps, rfl, hi, hfr, hos, hps, hall⟩ := hrel
    generalize wr = wo at *
    have hel : ps.length = i := by
      have := congrArg List.length hps
      rw [List.length_map, List.length_map, List.length_take] at this
      omega
    obtain ⟨av, ocap, rfl⟩ := own_slice hos.own
    have HFr := hideP hfr
    have HOs := hideP hos
    have HPs := hideP hps
    have HAl := hideP hall
    have HEl := hideP hel
    rw [hel]
    clear hfr hos hps hel hall
    by_cases hlt : i < l.length
    · have hlt' : (i : Int) < (l.length : Int) := by omega
      obtain ⟨b, o, rfl, hb, hc⟩ : ∃ b o, a = some ⟨b, o, none⟩ ∧ b < w.heap.size ∧ EnC w b o l := by
        rcases HC.out with h | h
        · rw [h] at hlt; simp at hlt
        · exact h
      obtain ⟨c0, ra, rc, c1, hrc, hrr⟩ := (hc.fr hb HFr.out) i hlt
      have hwe := HW.out.2 l[i] (List.getElem_mem hlt)
      have h8 := HL8.out l[i] (List.getElem_mem hlt)
      have htk : l.take (i + 1) = l.take i ++ [l[i]] := List.take_succ_eq_append_getElem hlt
      have hal2 : (l.take (i + 1)).all CT.tabB = CT.tabB l[i] := by rw [htk, List.all_append, HAl.out]; simp
      have hmp : (l.take (i + 1)).map CT.tabA = (l.take i).map CT.tabA ++ [CT.tabA l[i]] := by rw [htk, List.map_append]; rfl
      have hno : CT.tabB l[i] = false → l.all CT.tabB = false := fun h => by
        cases e : l.all CT.tabB with
        | false => rfl
        | true => rw [List.all_eq_true.1 e l[i] (List.getElem_mem hlt)] at h; cases h
      have ct := fun (W : World) (f : Fr wo W) => tableOf_any l[i] ra rc W hrc (by omega) hwe.2 (by
        rcases hrr with h | ⟨b', o', e, hb', hc'⟩
        · exact .inl h
        · exact .inr ⟨b', o', e, Nat.lt_of_lt_of_le hb' f.size, hc'.fr hb' f⟩)
      generalize l[i] = en at *
      have hct := ct (wo.alloc (.cells #[.int .i64 en.1, .slice ra en.2.length rc] 53)) ((Fr.refl wo).alloc _)
      obtain ⟨eid, er⟩ := en
      simp only at c0 c1 hct
      have HA2 := hideP hal2
      have HMp := hideP hmp
      have HNo := hideP hno
      clear hc hb hrc hrr hwe h8 htk hal2 hmp hno ct
      go_wp2_with fail
      refine hct.mono ?_
      rintro e3 w3 ⟨ha, f3⟩
      have F3 : Hid (Fr wo w3) := ((Fr.refl wo).alloc _).trans f3
      rcases ha with ⟨hB, vv, rfl, hown⟩ | ⟨hB, rfl⟩
      · rw [hB] at HA2
        obtain ⟨a2, m2, rfl⟩ := own_slice hown
        have hcl : w3.ownsRow w.heap.size 44 4 (.slice a2 (CT.tabA (eid, er)).c.length m2) (CT.tabA (eid, er)).c.length (flat cdC (CT.tabA (eid, er)).c) := own_low hown (by have := HFr.out.size; simp; omega)
        generalize CT.tabA (eid, er) = sc at *
        obtain ⟨sid, sn, scc⟩ := sc
        simp only at hcl
        obtain ⟨wL, hwL⟩ : ∃ wL, w3.alloc (.cells #[.int .i64 sid, .string sn, .slice a2 scc.length m2] 39) = wL := ⟨_, rfl⟩
        have b8 : Blk wL w3.heap.size #[.int .i64 sid, .string sn, .slice a2 scc.length m2] 39 := by rw [← hwL]; exact Blk.new w3 _ _
        have fL : Fr w3 wL := by rw [← hwL]; exact (Fr.refl w3).alloc _
        have z0 := b8.cell 0 rfl
        have z1 := b8.cell 1 rfl
        have z2 := b8.cell 2 rfl
        have HLit := hideP (lit_one cdS wL ((⟨sid, sn, scc⟩, (a2, scc.length, m2)) : CT.Sc × Sl) 39)
        have FL := fL.alloc (.cells #[.int .i64 sid, .string sn, .slice a2 scc.length m2] 39)
        have HCL := hideP (own_fr hcl FL)
        have HOL := hideP (HOs.out.fr (F3.out.trans FL))
        have hoL := HOL.out.own
        rw [HEl.out] at hoL
        have HOW := hideP hoL
        have hwl : w.heap.size ≤ wL.heap.size := (HFr.out.trans (F3.out.trans fL)).size
        have HFL := hideP (HFr.out.trans (F3.out.trans FL))
        clear b8 fL FL hcl hown hct f3 hoL c0 c1 hB
        go_wp2_with (at_builtin; refine wpList_append_L cdS rfl _ _ 22 39 i0 _ 48 rfl Tryd.underlying22 hi0 hz0 hz1 hz2 rfl w.heap.size _ i _ rfl HOW.out (.slice (some ⟨wL.heap.size, 0, none⟩) 1 1) [(⟨sid, sn, scc⟩, (a2, scc.length, m2))] rfl HLit.out ?c3 ?c4 ?c5 ?_)
        case c3 => unfold maxLen; simp; omega
        case c4 => simp; omega
        case c5 => simp; omega
        intro v2 wB own2 gr2
        have HN : Hid (OSc w.heap.size v2 (ps ++ [(⟨sid, sn, scc⟩, (a2, scc.length, m2))]) wB) := by
          have h := HOL.out
          rw [HEl.out] at h
          exact OSc.snoc h HCL.out (by rw [HEl.out]; exact own2) gr2
        have FB : Hid (Fr w wB) := Below.grown HFL.out gr2 (by simp; omega) (own_base HOW.out)
        have HP2 : Hid ((ps ++ [((⟨sid, sn, scc⟩, (a2, scc.length, m2)) : CT.Sc × Sl)]).map (·.1) = (l.take (i + 1)).map CT.tabA) := by
          unfold Hid
          rw [HMp.out, List.map_append, HPs.out]
          rfl
        clear own2 gr2 hwL z0 z1 z2
        go_wp2_with fail
        go_roundw
        case rel => exact ⟨i + 1, _, by go_num, by omega, FB.out, HN.out, HP2.out, HA2.out⟩
        case measure => simp [intOf]; omega
      · have hno := HNo.out hB
        have hz4 : CT.ofE l = 1 := by rw [HZ.out, hno]; rfl
        have HZ4 := hideP hz4
        clear hno hz4 hct c0 c1 hB
        go_wp2_with fail
        go_ret2
        exact ⟨.inr ⟨by rw [HZ4.out]; decide, by rw [HZ4.out]; rfl⟩, (HFr.out.trans F3.out).alloc _⟩
    · obtain rfl : i = l.length := by omega
      have hlt' : ((l.length : Int) < (l.length : Int)) = False := by simp
      have e9 : l.take l.length = l := List.take_length
      rw [e9] at HPs HAl
      clear e9
      have his := HOs.out.is
      rw [HPs.out] at his
      have ck := ccheck_any _ (l.map CT.tabA) wo his HWs.out
      rw [HEl.out] at ck
      have hz2' : CT.ofE l = CT.chk (l.map CT.tabA) := by rw [HZ.out, if_pos HAl.out]
      obtain ⟨z, hzz⟩ : ∃ z, CT.chk (l.map CT.tabA) = z := ⟨_, rfl⟩
      rw [hzz] at ck hz2'
      have HZ2 := hideP hz2'
      clear his hz2' hzz
      go_wp2_with fail
      refine ck.mono ?_
      rintro _ w3 ⟨rfl, f3⟩
      have F3 : Hid (Fr wo w3) := f3
      clear f3 ck
      by_cases hz3 : z = 0
      · subst hz3
        go_wp2_with fail
        go_ret2
        refine ⟨.inl ⟨HZ2.out, _, ps, rfl, ?_, HPs.out⟩, HFr.out.trans F3.out⟩
        have h := HOs.out.fr F3.out
        rw [HEl.out] at h
        exact h
      · have e1 : ((z : Int) != 0) = true := by simp; omega
        have e2 : ¬ ((z : Int) = 0) := by omega
        go_wp2_with fail
        go_ret2
        exact ⟨.inr ⟨by rw [HZ2.out]; exact hz3, by rw [HZ2.out]; rfl⟩, HFr.out.trans F3.out⟩
theorem of_any (v : Value) (l : List LF.En) (w : World) (h : IsEnC w v l) (hw : WE l) :
    Calls Tryd.prog 9 #[v] w fun e w' => OfAns w.heap.size l e w' ∧ Fr w w' := by
  by_cases h0 : LF.chk l = 0
  · exact of_good v l w h hw h0
  · exact of_bad v l w h hw h0
end Go.Proofs.YtefojbfihnnpdaaDoor
