/-
  The document's WriteOf.
-/
import Derived.Test.YtklldfkaihpkiaaJdR
import Derived.Test.YtklldfkaihpkiaaAppL
import Derived.Deep.RegionHeld3
namespace Go.Proofs.Ytklldfkaihpkiaa
open Go.ChangeShapes Go.WideShapes Go.ChangeAt Go.RowKit
set_option linter.unusedVariables false
set_option linter.unusedSimpArgs false
set_option maxRecDepth 100000
set_option maxHeartbeats 4000000

theorem own_more {w : World} {B n c : Nat} {T : TypeId} {a : Option Addr} {l : List JN.W} {x : JN.W} (h : w.ownsRow B T 2 (.slice a n c) n (flat cdW ([] ++ l ++ [x]))) (hn : n = l.length + 1) : IsL cdW w (.slice a (l.length + 1) c) (l ++ [x]) := by
  subst hn
  have e : l.length + 1 = (l ++ [x]).length := by simp
  rw [List.nil_append] at h
  rw [e] at h ⊢
  exact isL_own (E := cdW) h
theorem writeOf_any (p q : Value) (d : JN.D) (no : Int) (s : ByteArray) (w : World) (hr : IsD w p q d) (hb1 : d.pg.length ≤ 9223372036854775806) (hb2 : d.wt.length ≤ 9223372036854775806) :
    Calls Try.prog 21 #[.agg #[p, q], .int .i64 no, .string s] w fun e w' => DIs (JN.writeD d no s) w e w' := by
  have c := fun W (f : Fr w W) => diskCheck_any _ _ d W (hr.fr f) hb1 hb2
  obtain ⟨ap, np, cp, rfl⟩ := hr.1.slice
  obtain ⟨aq, cq, rfl, hcq0, hqc0⟩ := id hr.2
  clear hcq0 hqc0
  obtain ⟨W0, hW0⟩ : ∃ W0, (w.alloc (.cells #[.slice ap np cp, .slice aq d.wt.length cq] 25)).alloc (.cells #[.slice none 0 0, .slice none 0 0] 25) = W0 := ⟨_, rfl⟩
  have f0 : Fr w W0 := by rw [← hW0]; exact ((Fr.refl w).alloc _).alloc _
  have bd : Blk W0 w.heap.size #[.slice ap np cp, .slice aq d.wt.length cq] 25 := by
    have := (Blk.new w #[.slice ap np cp, .slice aq d.wt.length cq] 25).old (.cells #[.slice none 0 0, .slice none 0 0] 25)
    rw [hW0] at this
    exact this
  have br : Blk W0 (w.heap.size + 1) #[.slice none 0 0, .slice none 0 0] 25 := by
    have := Blk.new (w.alloc (.cells #[.slice ap np cp, .slice aq d.wt.length cq] 25)) #[.slice none 0 0, .slice none 0 0] 25
    rw [World.size_alloc, hW0] at this
    exact this
  obtain ⟨k0, k1, _, _⟩ := bd.two
  have HB := hideP bd
  have HR := hideP br
  have HF0 := hideP f0
  have HD := hideP hr
  have cc := c W0 f0
  clear c f0 bd br
  by_cases h0 : JN.dchk d = 0
  · rw [h0] at cc
    by_cases h1 : no < 0
    · rw [show JN.writeD d no s = (JN.none, 3) by rw [JN.writeD, if_pos h0, if_pos (.inl h1)]]
      clear h0
      clear hr
      go_enter Try.func21, Try.ntmps21
      go_wp2_with fail
      refine cc.mono ?_
      rintro _ w1 ⟨rfl, f1⟩
      have HB2 := hideP (HR.out.fr f1)
      obtain ⟨i0, i1, z0, z1⟩ := HB2.out.two
      obtain ⟨j0, j1, _, _⟩ := (HB.out.fr f1).two
      have HF := hideP (HF0.out.trans f1)
      clear k0 k1 f1 cc hW0
      go_wp2_with fail
      refine bodyPost_ret (v := .tuple #[.agg #[.slice none 0 0, .slice none 0 0], .int .i64 3]) ?_ rfl ?_
      · obtain ⟨q0, q1, _, _⟩ := HB2.out.put2 (.slice none 0 0) (.slice none 0 0)
        change (results Try.f21 _).run Try.prog (put2 w1 _ _ _) = .ok _ (put2 w1 _ _ _)
        simp [results, Try.results21, go_sem, q0, q1]
      · exact ⟨_, _, rfl, isD_none _, HF.out.set2 _ (by omega) _ _⟩
    by_cases h2 : 31 < no
    · rw [show JN.writeD d no s = (JN.none, 3) by rw [JN.writeD, if_pos h0, if_pos (.inr h2)]]
      clear h0
      clear hr
      go_enter Try.func21, Try.ntmps21
      go_wp2_with fail
      refine cc.mono ?_
      rintro _ w1 ⟨rfl, f1⟩
      have HB2 := hideP (HR.out.fr f1)
      obtain ⟨i0, i1, z0, z1⟩ := HB2.out.two
      obtain ⟨j0, j1, _, _⟩ := (HB.out.fr f1).two
      have HF := hideP (HF0.out.trans f1)
      clear k0 k1 f1 cc hW0
      go_wp2_with fail
      refine bodyPost_ret (v := .tuple #[.agg #[.slice none 0 0, .slice none 0 0], .int .i64 3]) ?_ rfl ?_
      · obtain ⟨q0, q1, _, _⟩ := HB2.out.put2 (.slice none 0 0) (.slice none 0 0)
        change (results Try.f21 _).run Try.prog (put2 w1 _ _ _) = .ok _ (put2 w1 _ _ _)
        simp [results, Try.results21, go_sem, q0, q1]
      · exact ⟨_, _, rfl, isD_none _, HF.out.set2 _ (by omega) _ _⟩
    by_cases h3 : 260 < s.size
    · rw [show JN.writeD d no s = (JN.none, 2) by rw [JN.writeD, if_pos h0, if_neg (by omega), if_pos (.inl h3)]]
      have h3' : (260 : Int) < (s.size : Int) := by omega
      clear h0
      clear hr
      go_enter Try.func21, Try.ntmps21
      go_wp2_with fail
      refine cc.mono ?_
      rintro _ w1 ⟨rfl, f1⟩
      have HB2 := hideP (HR.out.fr f1)
      obtain ⟨i0, i1, z0, z1⟩ := HB2.out.two
      obtain ⟨j0, j1, _, _⟩ := (HB.out.fr f1).two
      have HF := hideP (HF0.out.trans f1)
      clear k0 k1 f1 cc hW0
      go_wp2_with fail
      refine bodyPost_ret (v := .tuple #[.agg #[.slice none 0 0, .slice none 0 0], .int .i64 2]) ?_ rfl ?_
      · obtain ⟨q0, q1, _, _⟩ := HB2.out.put2 (.slice none 0 0) (.slice none 0 0)
        change (results Try.f21 _).run Try.prog (put2 w1 _ _ _) = .ok _ (put2 w1 _ _ _)
        simp [results, Try.results21, go_sem, q0, q1]
      · exact ⟨_, _, rfl, isD_none _, HF.out.set2 _ (by omega) _ _⟩
    by_cases h4 : d.wt.length = 48
    · rw [show JN.writeD d no s = (JN.none, 2) by rw [JN.writeD, if_pos h0, if_neg (by omega), if_pos (.inr h4)]]
      have h3' : ¬ (260 : Int) < (s.size : Int) := by omega
      have h4' : ((d.wt.length : Int) == 48) = true := by simp; omega
      have h4'' : (d.wt.length : Int) = 48 := by omega
      clear h0 h4
      clear hr
      go_enter Try.func21, Try.ntmps21
      go_wp2_with fail
      refine cc.mono ?_
      rintro _ w1 ⟨rfl, f1⟩
      have HB2 := hideP (HR.out.fr f1)
      obtain ⟨i0, i1, z0, z1⟩ := HB2.out.two
      obtain ⟨j0, j1, _, _⟩ := (HB.out.fr f1).two
      have HF := hideP (HF0.out.trans f1)
      clear k0 k1 f1 cc hW0
      go_wp2_with fail
      refine bodyPost_ret (v := .tuple #[.agg #[.slice none 0 0, .slice none 0 0], .int .i64 2]) ?_ rfl ?_
      · obtain ⟨q0, q1, _, _⟩ := HB2.out.put2 (.slice none 0 0) (.slice none 0 0)
        change (results Try.f21 _).run Try.prog (put2 w1 _ _ _) = .ok _ (put2 w1 _ _ _)
        simp [results, Try.results21, go_sem, q0, q1]
      · exact ⟨_, _, rfl, isD_none _, HF.out.set2 _ (by omega) _ _⟩
    have hm := ((JN.dchk_ok d).1 h0).many
    rw [JN.writeD, if_pos h0, if_neg (by omega), if_neg (by omega)]
    have g1 : ¬ no < 0 := by omega
    have g2 : ¬ 31 < no := by omega
    have g3 : ¬ (260 : Int) < (s.size : Int) := by omega
    have g4 : ¬ ((d.wt.length : Int) = 48) := by omega
    have g5 : ((d.wt.length : Int) == 48) = false := by simpa using g4
    obtain ⟨i0, hi0, hz0, hz1, hz2⟩ := info_parts Try.infoW
    clear hr h0 h1 h2
    go_enter Try.func21, Try.ntmps21
    go_wp2_with fail
    refine cc.mono ?_
    rintro _ w1 ⟨rfl, f1⟩
    clear k0 k1 cc hW0
    have HB1 := hideP (HB.out.fr f1)
    have HR1 := hideP (HR.out.fr f1)
    have F1 := hideP (HF0.out.trans f1)
    have HU1 := hideP ((HD.out.fr F1.out).2)
    obtain ⟨j0, j1, _, _⟩ := HB1.out.two
    have hlt1 : w.heap.size + 1 < w1.heap.size := HR1.out.lt
    have hz := Fr.drew (Fr.refl w1)
    have hyA := Fr.drew (Fr.alloc (Fr.refl w1) (.cells #[] 43))
    have hyB := Fr.drew (Fr.alloc (Fr.refl w1) (.cells #[.int .i64 no, .string s] 43))
    have hyAB := Fr.drew (Fr.alloc (Fr.alloc (Fr.refl w1) (.cells #[] 43)) (.cells #[.int .i64 no, .string s] 43))
    have hyBA := Fr.drew (Fr.alloc (Fr.alloc (Fr.refl w1) (.cells #[.int .i64 no, .string s] 43)) (.cells #[] 43))
    have HS3 := hideP (show w1.cell? ⟨w.heap.size, 0, none⟩ = some (.slice ap np cp) ∧ w1.cell? ⟨w.heap.size, 1, none⟩ = some (.slice aq d.wt.length cq) from ⟨j0, j1⟩)
    clear HB HR HF0 f1
    go_upto_region 8 with fail
    go_region_held3 (fun W => W.cell? ⟨w.heap.size, 0, none⟩ = some (.slice ap np cp) ∧ W.cell? ⟨w.heap.size, 1, none⟩ = some (.slice aq d.wt.length cq))
      (first | exact HS3.out | exact s2_after hz HS3.out | exact s2_after hyA HS3.out | exact s2_after hyB HS3.out | exact s2_after hyAB HS3.out | exact s2_after hyBA HS3.out | exact s2_after hfB HS3.out | exact s2_after hfA HS3.out | exact s2_after (Fr.alloc hfA _) HS3.out | exact s2_set2 (s2_after hfB HS3.out) (by omega))
      (first
      | (refine step_append_L cdW rfl _ _ 23 43 i0 _ 24 rfl Try.underlying23 hi0 hz0 hz1 hz2 rfl w1.heap.size (.slice (some ⟨w1.heap.size, 0, none⟩) 0 0) 0 [] rfl (show (w1.alloc (.cells #[] 43)).drew.ownsRow w1.heap.size 43 2 _ 0 (flat cdW []) from own_lit0 cdW w1 43 _ (Nat.le_refl _)) _ d.wt rfl (HU1.out.fr hyA) (by unfold maxLen; omega) (by omega) (by simp) ?_; intro v1 wA own1 gr1; have hfA : Fr w1 wA := Below.grown hyA gr1 (by simp) (fun k hk => by simp [Value.ownBlock] at hk; omega))
      | (refine step_append_L cdW rfl _ _ 23 43 i0 _ 24 rfl Try.underlying23 hi0 hz0 hz1 hz2 rfl w1.heap.size (.slice (some ⟨w1.heap.size, 0, none⟩) 0 0) 0 [] rfl (show ((w1.alloc (.cells #[] 43)).alloc (.cells #[.int .i64 no, .string s] 43)).drew.ownsRow w1.heap.size 43 2 _ 0 (flat cdW []) from (own_lit0 cdW w1 43 _ (Nat.le_refl _)).alloc _) _ d.wt rfl (HU1.out.fr hyAB) (by unfold maxLen; omega) (by omega) (by simp; omega) ?_; intro v1 wA own1 gr1; have hfA : Fr w1 wA := Below.grown hyAB gr1 (by simp; omega) (fun k hk => by simp [Value.ownBlock] at hk; omega); have hsrc : IsL cdW wA (.slice (some ⟨w1.heap.size + 1, 0, none⟩) 1 1) [⟨no, s⟩] := ((lit_one' cdW w1 (.cells #[] 43) ⟨no, s⟩ 43).fr (Fr.drew (Fr.refl _))).grown gr1 (by intro b n c o sp e; cases e; simp [Value.ownBlock]))
      | (refine step_append_L cdW rfl _ _ 23 43 i0 _ 24 rfl Try.underlying23 hi0 hz0 hz1 hz2 rfl w1.heap.size (.slice (some ⟨w1.heap.size + 1, 0, none⟩) 0 0) 0 [] rfl (show ((w1.alloc (.cells #[.int .i64 no, .string s] 43)).alloc (.cells #[] 43)).drew.ownsRow w1.heap.size 43 2 _ 0 (flat cdW []) from own_lit0' cdW w1 (.cells #[.int .i64 no, .string s] 43) 43 _ (Nat.le_refl _)) _ d.wt rfl (HU1.out.fr hyBA) (by unfold maxLen; omega) (by omega) (by simp; omega) ?_; intro v1 wA own1 gr1; have hfA : Fr w1 wA := Below.grown hyBA gr1 (by simp; omega) (fun k hk => by simp [Value.ownBlock] at hk; omega); have hsrc : IsL cdW wA (.slice (some ⟨w1.heap.size, 0, none⟩) 1 1) [⟨no, s⟩] := (((lit_one cdW w1 ⟨no, s⟩ 43).fr (Fr.alloc (Fr.refl _) _)).fr (Fr.drew (Fr.refl _))).grown gr1 (by intro b n c o sp e; cases e; simp [Value.ownBlock]))
      | (refine step_append_L cdW rfl _ _ 23 43 i0 _ 24 rfl Try.underlying23 hi0 hz0 hz1 hz2 rfl w1.heap.size v1 _ d.wt rfl (own1.alloc _) (.slice (some ⟨wA.heap.size, 0, none⟩) 1 1) [⟨no, s⟩] rfl (lit_one cdW wA ⟨no, s⟩ 43) (by unfold maxLen; simp; omega) (by simp; omega) (by have := Fr.size hfA; simp; omega) ?_; intro v2 wB own2 gr2; have hfB : Fr w1 wB := Below.grown (Fr.alloc hfA _) gr2 (by have := Fr.size hfA; simp; omega) (fun k hk => (own1.lt k hk).1); obtain ⟨a2, c2, rfl⟩ := own_slice own2; have HO2 := hideP own2; have HR2 := hideP (HR1.out.fr hfB); obtain ⟨r0, r1, y0, y1⟩ := HR2.out.two)
      | (refine step_append_L cdW rfl _ _ 23 43 i0 _ 24 rfl Try.underlying23 hi0 hz0 hz1 hz2 rfl w1.heap.size v1 _ d.wt rfl own1 _ [⟨no, s⟩] rfl hsrc (by unfold maxLen; simp; omega) (by simp; omega) (by have := Fr.size hfA; omega) ?_; intro v2 wB own2 gr2; have hfB : Fr w1 wB := Below.grown hfA gr2 (Fr.size hfA) (fun k hk => (own1.lt k hk).1); obtain ⟨a2, c2, rfl⟩ := own_slice own2; have HO2 := hideP own2; have HR2 := hideP (HR1.out.fr hfB); obtain ⟨r0, r1, y0, y1⟩ := HR2.out.two))
    all_goals (
      go_wp2_with fail
      refine bodyPost_ret (v := .tuple #[.agg #[.slice ap np cp, .slice a2 (d.wt.length + 1) c2], .int .i64 0]) ?_ rfl ?_
      · obtain ⟨q0, q1, _, _⟩ := HR2.out.put2 (.slice ap np cp) (.slice a2 (d.wt.length + 1) c2)
        change (results Try.f21 _).run Try.prog (put2 wB _ _ _) = .ok _ (put2 wB _ _ _)
        simp [results, Try.results21, go_sem, q0, q1]
      · refine ⟨_, _, rfl, ⟨(HD.out.1.fr (F1.out.trans hfB)).at2 noSl_P HR2.out _ _, (own_more HO2.out (by simp)).at2 noSl_W HR2.out _ _⟩, (F1.out.trans hfB).set2 _ (by omega) _ _⟩)
  · rw [show JN.writeD d no s = (JN.none, JN.dchk d) by rw [JN.writeD, if_neg h0]]
    generalize JN.dchk d = x at cc h0
    have hne : ((x : Int) != 0) = true := by simp; omega
    have hne2 : ¬ ((x : Int) = 0) := by omega
    have hne3 : ((x : Int) == 0) = false := by simp; omega
    clear hr
    go_enter Try.func21, Try.ntmps21
    go_wp2_with fail
    refine cc.mono ?_
    rintro _ w1 ⟨rfl, f1⟩
    have HB2 := hideP (HR.out.fr f1)
    obtain ⟨i0, i1, z0, z1⟩ := HB2.out.two
    obtain ⟨j0, j1, _, _⟩ := (HB.out.fr f1).two
    have HF := hideP (HF0.out.trans f1)
    clear k0 k1 f1 cc hW0
    go_wp2_with fail
    refine bodyPost_ret (v := .tuple #[.agg #[.slice none 0 0, .slice none 0 0], .int .i64 (x : Int)]) ?_ rfl ?_
    · obtain ⟨q0, q1, _, _⟩ := HB2.out.put2 (.slice none 0 0) (.slice none 0 0)
      change (results Try.f21 _).run Try.prog (put2 w1 _ _ _) = .ok _ (put2 w1 _ _ _)
      simp [results, Try.results21, go_sem, q0, q1]
    · exact ⟨_, _, rfl, isD_none _, HF.out.set2 _ (by omega) _ _⟩
end Go.Proofs.Ytklldfkaihpkiaa
