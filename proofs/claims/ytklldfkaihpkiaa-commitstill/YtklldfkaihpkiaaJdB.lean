/-
  What played of package journal answers, for every store and op.
-/
import Derived.Test.YtklldfkaihpkiaaJdA
namespace Go.Proofs.Ytklldfkaihpkiaa
open Go.ChangeShapes Go.WideShapes Go.ChangeAt Go.RowKit
set_option linter.unusedVariables false
set_option linter.unusedSimpArgs false
set_option maxRecDepth 100000

/-- a disk is the one that came in, or one that the call made -/
def Rs (B : Nat) (p q p' q' : Value) : Prop := (p' = p ∧ q' = q) ∨ NewD B p' q'
/-- what played answers -/
def PAns (r : JN.S × Nat) (w : World) (p q P Q : Value) (e : Ending) (w' : World) : Prop :=
  ∃ p' q' P' Q', e = .returned (.tuple #[.agg #[p', q', P', Q'], .int .i64 r.2]) ∧ IsS w' p' q' P' Q' r.1 ∧ Rs w.heap.size p q p' q' ∧ Rs w.heap.size P Q P' Q' ∧ Fr w w'
theorem Blk.aset2 {w : World} {b : Nat} {x y X Y : Value} {T : TypeId} (h : Blk w b #[x, y, X, Y] T) (x' y' : Value) : Blk ((w.setCell ⟨b, 0, none⟩ x').setCell ⟨b, 1, none⟩ y') b #[x', y', X, Y] T := by
  have := (h.set 0 x').set 1 y'
  simpa using this
theorem Blk.bset2 {w : World} {b : Nat} {x y X Y : Value} {T : TypeId} (h : Blk w b #[x, y, X, Y] T) (x' y' : Value) : Blk ((w.setCell ⟨b, 2, none⟩ x').setCell ⟨b, 3, none⟩ y') b #[x, y, x', y'] T := by
  have := (h.set 2 x').set 3 y'
  simpa using this

set_option maxHeartbeats 2000000 in
theorem playedD (p q P Q : Value) (s : JN.S) (no : Int) (t : ByteArray) (w : World) (hr : IsS w p q P Q s) (h1 : s.da.pg.length ≤ 9223372036854775806) (h2 : s.jo.pg.length ≤ 9223372036854775806) :
    Calls Try.prog 66 #[.agg #[p, q, P, Q], .agg #[.int .i64 1, .int .i64 no, .string t]] w fun e w' => PAns (JN.opS s ⟨1, no, t⟩) w p q P Q e w' := by
  have hE : JN.opS s ⟨1, no, t⟩ = (⟨(JN.writeD s.da no t).1, s.jo⟩, (JN.writeD s.da no t).2) := rfl
  rw [hE]
  clear hE
  obtain ⟨ap, np, cp, rfl⟩ := hr.1.1.slice
  obtain ⟨aq, nq, cq, rfl⟩ := hr.1.2.slice
  obtain ⟨aP, nP, cP, rfl⟩ := hr.2.1.slice
  obtain ⟨aQ, nQ, cQ, rfl⟩ := hr.2.2.slice
  obtain ⟨W0, hW0⟩ : ∃ W0, ((w.alloc (.cells #[.slice ap np cp, .slice aq nq cq, .slice aP nP cP, .slice aQ nQ cQ] 46)).alloc (.cells #[.int .i64 1, .int .i64 no, .string t] 84)).alloc (.cells #[.slice none 0 0, .slice none 0 0, .slice none 0 0, .slice none 0 0] 46) = W0 := ⟨_, rfl⟩
  have f0 : Fr w W0 := by rw [← hW0]; exact (((Fr.refl w).alloc _).alloc _).alloc _
  have b0 : Blk W0 w.heap.size #[.slice ap np cp, .slice aq nq cq, .slice aP nP cP, .slice aQ nQ cQ] 46 := by rw [← hW0]; exact ((Blk.new w _ _).old _).old _
  have b2 : Blk W0 (w.heap.size + 1 + 1) #[.slice none 0 0, .slice none 0 0, .slice none 0 0, .slice none 0 0] 46 := by
    have := Blk.new ((w.alloc (.cells #[.slice ap np cp, .slice aq nq cq, .slice aP nP cP, .slice aQ nQ cQ] 46)).alloc (.cells #[.int .i64 1, .int .i64 no, .string t] 84)) #[.slice none 0 0, .slice none 0 0, .slice none 0 0, .slice none 0 0] 46
    rw [World.size_alloc, World.size_alloc, hW0] at this; exact this
  have HF0 := hideP f0
  have HB0 := hideP b0
  have HB2 := hideP b2
  have HW := hideP hW0
  clear f0 b0 b2 hW0
  have c := write_any _ _ s.da no t W0 (hr.1.fr HF0.out) h1
  go_enter Try.func66, Try.ntmps66
  go_wp2_with fail
  rw [HW.out]
  refine c.mono ?_
  rintro _ w1 ⟨p1, q1, rfl, ho, f1⟩
  obtain ⟨a1, n1, c1, rfl⟩ := own_slice' ho.pg
  obtain ⟨a2, n2, c2, rfl⟩ := own_slice' ho.wt
  have HO := hideP ho
  have HF1 := hideP f1
  obtain ⟨k0, k1, k2, k3, z0, z1, z2, z3⟩ := (HB0.out.fr f1).four
  obtain ⟨l0, l1, l2, l3, y0, y1, y2, y3⟩ := (HB2.out.fr f1).four
  clear ho f1 c
  obtain ⟨wa, hwa⟩ : ∃ wa, (w1.setCell ⟨w.heap.size, 0, none⟩ (.slice a1 n1 c1)).setCell ⟨w.heap.size, 1, none⟩ (.slice a2 n2 c2) = wa := ⟨_, rfl⟩
  have ba : Blk wa w.heap.size #[.slice a1 n1 c1, .slice a2 n2 c2, .slice aP nP cP, .slice aQ nQ cQ] 46 := by rw [← hwa]; exact (HB0.out.fr HF1.out).aset2 _ _
  have bb : Blk wa (w.heap.size + 1 + 1) #[.slice none 0 0, .slice none 0 0, .slice none 0 0, .slice none 0 0] 46 := by
    rw [← hwa]; exact ((HB2.out.fr HF1.out).other (by omega) _ _).other (by omega) _ _
  have HFa : Hid (Fr w wa) := by rw [← hwa]; exact ((HF0.out.trans HF1.out).setCell _ _ _ (Nat.le_refl _)).setCell _ _ _ (Nat.le_refl _)
  have hda : IsD wa (.slice a1 n1 c1) (.slice a2 n2 c2) (JN.writeD s.da no t).1 := by
    rw [← hwa]
    have hoff : OffD w.heap.size (.slice a1 n1 c1) (.slice a2 n2 c2) := HO.out.new.off (by have := HB0.out.lt; omega)
    exact (HO.out.is.set _ hoff).set _ hoff
  have HD := hideP hda
  obtain ⟨u0, u1, u2, u3, _, _, _, _⟩ := ba.four
  obtain ⟨v0, v1, v2, v3, y0', y1', y2', y3'⟩ := bb.four
  have HBB := hideP bb
  clear ba bb hda
  go_wp2_with fail
  refine bodyPost_ret (v := .tuple #[.agg #[.slice a1 n1 c1, .slice a2 n2 c2, .slice aP nP cP, .slice aQ nQ cQ], .int .i64 ((JN.writeD s.da no t).2 : Int)]) ?_ rfl ?_
  · obtain ⟨q0, q1, q2, q3, _, _, _, _⟩ := (HBB.out.put4 (.slice a1 n1 c1) (.slice a2 n2 c2) (.slice aP nP cP) (.slice aQ nQ cQ)).four
    change (results Try.f66 _).run Try.prog (pt4 wa _ _ _ _ _) = .ok _ (pt4 wa _ _ _ _ _)
    simp [results, Try.results66, go_sem, q0, q1, q2, q3]
  · have hoffR : ∀ {x y : Value} {dd : JN.D}, IsD w x y dd → IsD (pt4 wa (w.heap.size + 1 + 1) (.slice a1 n1 c1) (.slice a2 n2 c2) (.slice aP nP cP) (.slice aQ nQ cQ)) x y dd := fun h => h.fr (HFa.out.put4 _ (by omega) _ _ _ _)
    have hnew : NewD W0.heap.size (.slice a1 n1 c1) (.slice a2 n2 c2) := HO.out.new
    have hdn := HD.out.put4 (hnew.off HB2.out.lt) (.slice a1 n1 c1) (.slice a2 n2 c2) (.slice aP nP cP) (.slice aQ nQ cQ)
    refine ⟨_, _, _, _, rfl, ?_, ?_, ?_, HFa.out.put4 _ (by omega) _ _ _ _⟩
    · exact ⟨hdn, hoffR hr.2⟩
    · exact .inr (hnew.low HF0.out.size)
    · exact .inl ⟨rfl, rfl⟩

set_option maxHeartbeats 2000000 in
theorem playedJ (p q P Q : Value) (s : JN.S) (no : Int) (t : ByteArray) (w : World) (hr : IsS w p q P Q s) (h1 : s.da.pg.length ≤ 9223372036854775806) (h2 : s.jo.pg.length ≤ 9223372036854775806) :
    Calls Try.prog 66 #[.agg #[p, q, P, Q], .agg #[.int .i64 2, .int .i64 no, .string t]] w fun e w' => PAns (JN.opS s ⟨2, no, t⟩) w p q P Q e w' := by
  have hE : JN.opS s ⟨2, no, t⟩ = (⟨s.da, (JN.writeD s.jo no t).1⟩, (JN.writeD s.jo no t).2) := rfl
  rw [hE]
  clear hE
  obtain ⟨ap, np, cp, rfl⟩ := hr.1.1.slice
  obtain ⟨aq, nq, cq, rfl⟩ := hr.1.2.slice
  obtain ⟨aP, nP, cP, rfl⟩ := hr.2.1.slice
  obtain ⟨aQ, nQ, cQ, rfl⟩ := hr.2.2.slice
  obtain ⟨W0, hW0⟩ : ∃ W0, ((w.alloc (.cells #[.slice ap np cp, .slice aq nq cq, .slice aP nP cP, .slice aQ nQ cQ] 46)).alloc (.cells #[.int .i64 2, .int .i64 no, .string t] 84)).alloc (.cells #[.slice none 0 0, .slice none 0 0, .slice none 0 0, .slice none 0 0] 46) = W0 := ⟨_, rfl⟩
  have f0 : Fr w W0 := by rw [← hW0]; exact (((Fr.refl w).alloc _).alloc _).alloc _
  have b0 : Blk W0 w.heap.size #[.slice ap np cp, .slice aq nq cq, .slice aP nP cP, .slice aQ nQ cQ] 46 := by rw [← hW0]; exact ((Blk.new w _ _).old _).old _
  have b2 : Blk W0 (w.heap.size + 1 + 1) #[.slice none 0 0, .slice none 0 0, .slice none 0 0, .slice none 0 0] 46 := by
    have := Blk.new ((w.alloc (.cells #[.slice ap np cp, .slice aq nq cq, .slice aP nP cP, .slice aQ nQ cQ] 46)).alloc (.cells #[.int .i64 2, .int .i64 no, .string t] 84)) #[.slice none 0 0, .slice none 0 0, .slice none 0 0, .slice none 0 0] 46
    rw [World.size_alloc, World.size_alloc, hW0] at this; exact this
  have HF0 := hideP f0
  have HB0 := hideP b0
  have HB2 := hideP b2
  have HW := hideP hW0
  clear f0 b0 b2 hW0
  have c := write_any _ _ s.jo no t W0 (hr.2.fr HF0.out) h2
  go_enter Try.func66, Try.ntmps66
  go_wp2_with fail
  rw [HW.out]
  refine c.mono ?_
  rintro _ w1 ⟨p1, q1, rfl, ho, f1⟩
  obtain ⟨a1, n1, c1, rfl⟩ := own_slice' ho.pg
  obtain ⟨a2, n2, c2, rfl⟩ := own_slice' ho.wt
  have HO := hideP ho
  have HF1 := hideP f1
  obtain ⟨k0, k1, k2, k3, z0, z1, z2, z3⟩ := (HB0.out.fr f1).four
  obtain ⟨l0, l1, l2, l3, y0, y1, y2, y3⟩ := (HB2.out.fr f1).four
  clear ho f1 c
  obtain ⟨wa, hwa⟩ : ∃ wa, (w1.setCell ⟨w.heap.size, 2, none⟩ (.slice a1 n1 c1)).setCell ⟨w.heap.size, 3, none⟩ (.slice a2 n2 c2) = wa := ⟨_, rfl⟩
  have ba : Blk wa w.heap.size #[.slice ap np cp, .slice aq nq cq, .slice a1 n1 c1, .slice a2 n2 c2] 46 := by rw [← hwa]; exact (HB0.out.fr HF1.out).bset2 _ _
  have bb : Blk wa (w.heap.size + 1 + 1) #[.slice none 0 0, .slice none 0 0, .slice none 0 0, .slice none 0 0] 46 := by
    rw [← hwa]; exact ((HB2.out.fr HF1.out).other (by omega) _ _).other (by omega) _ _
  have HFa : Hid (Fr w wa) := by rw [← hwa]; exact ((HF0.out.trans HF1.out).setCell _ _ _ (Nat.le_refl _)).setCell _ _ _ (Nat.le_refl _)
  have hda : IsD wa (.slice a1 n1 c1) (.slice a2 n2 c2) (JN.writeD s.jo no t).1 := by
    rw [← hwa]
    have hoff : OffD w.heap.size (.slice a1 n1 c1) (.slice a2 n2 c2) := HO.out.new.off (by have := HB0.out.lt; omega)
    exact (HO.out.is.set _ hoff).set _ hoff
  have HD := hideP hda
  obtain ⟨u0, u1, u2, u3, _, _, _, _⟩ := ba.four
  obtain ⟨v0, v1, v2, v3, y0', y1', y2', y3'⟩ := bb.four
  have HBB := hideP bb
  clear ba bb hda
  go_wp2_with fail
  refine bodyPost_ret (v := .tuple #[.agg #[.slice ap np cp, .slice aq nq cq, .slice a1 n1 c1, .slice a2 n2 c2], .int .i64 ((JN.writeD s.jo no t).2 : Int)]) ?_ rfl ?_
  · obtain ⟨q0, q1, q2, q3, _, _, _, _⟩ := (HBB.out.put4 (.slice ap np cp) (.slice aq nq cq) (.slice a1 n1 c1) (.slice a2 n2 c2)).four
    change (results Try.f66 _).run Try.prog (pt4 wa _ _ _ _ _) = .ok _ (pt4 wa _ _ _ _ _)
    simp [results, Try.results66, go_sem, q0, q1, q2, q3]
  · have hoffR : ∀ {x y : Value} {dd : JN.D}, IsD w x y dd → IsD (pt4 wa (w.heap.size + 1 + 1) (.slice ap np cp) (.slice aq nq cq) (.slice a1 n1 c1) (.slice a2 n2 c2)) x y dd := fun h => h.fr (HFa.out.put4 _ (by omega) _ _ _ _)
    have hnew : NewD W0.heap.size (.slice a1 n1 c1) (.slice a2 n2 c2) := HO.out.new
    have hdn := HD.out.put4 (hnew.off HB2.out.lt) (.slice ap np cp) (.slice aq nq cq) (.slice a1 n1 c1) (.slice a2 n2 c2)
    refine ⟨_, _, _, _, rfl, ?_, ?_, ?_, HFa.out.put4 _ (by omega) _ _ _ _⟩
    · exact ⟨hoffR hr.1, hdn⟩
    · exact .inl ⟨rfl, rfl⟩
    · exact .inr (hnew.low HF0.out.size)

set_option maxHeartbeats 2000000 in
theorem playedSD (p q P Q : Value) (s : JN.S) (no : Int) (t : ByteArray) (w : World) (hr : IsS w p q P Q s) (h1 : s.da.pg.length ≤ 9223372036854775806) (h2 : s.jo.pg.length ≤ 9223372036854775806) :
    Calls Try.prog 66 #[.agg #[p, q, P, Q], .agg #[.int .i64 3, .int .i64 no, .string t]] w fun e w' => PAns (JN.opS s ⟨3, no, t⟩) w p q P Q e w' := by
  have hE : JN.opS s ⟨3, no, t⟩ = (⟨(JN.crashD s.da JN.all).1, s.jo⟩, (JN.crashD s.da JN.all).2) := rfl
  rw [hE]
  clear hE
  obtain ⟨ap, np, cp, rfl⟩ := hr.1.1.slice
  obtain ⟨aq, nq, cq, rfl⟩ := hr.1.2.slice
  obtain ⟨aP, nP, cP, rfl⟩ := hr.2.1.slice
  obtain ⟨aQ, nQ, cQ, rfl⟩ := hr.2.2.slice
  obtain ⟨W0, hW0⟩ : ∃ W0, ((w.alloc (.cells #[.slice ap np cp, .slice aq nq cq, .slice aP nP cP, .slice aQ nQ cQ] 46)).alloc (.cells #[.int .i64 3, .int .i64 no, .string t] 84)).alloc (.cells #[.slice none 0 0, .slice none 0 0, .slice none 0 0, .slice none 0 0] 46) = W0 := ⟨_, rfl⟩
  have f0 : Fr w W0 := by rw [← hW0]; exact (((Fr.refl w).alloc _).alloc _).alloc _
  have b0 : Blk W0 w.heap.size #[.slice ap np cp, .slice aq nq cq, .slice aP nP cP, .slice aQ nQ cQ] 46 := by rw [← hW0]; exact ((Blk.new w _ _).old _).old _
  have b2 : Blk W0 (w.heap.size + 1 + 1) #[.slice none 0 0, .slice none 0 0, .slice none 0 0, .slice none 0 0] 46 := by
    have := Blk.new ((w.alloc (.cells #[.slice ap np cp, .slice aq nq cq, .slice aP nP cP, .slice aQ nQ cQ] 46)).alloc (.cells #[.int .i64 3, .int .i64 no, .string t] 84)) #[.slice none 0 0, .slice none 0 0, .slice none 0 0, .slice none 0 0] 46
    rw [World.size_alloc, World.size_alloc, hW0] at this; exact this
  have HF0 := hideP f0
  have HB0 := hideP b0
  have HB2 := hideP b2
  have HW := hideP hW0
  clear f0 b0 b2 hW0
  have c := sync_any _ _ s.da W0 (hr.1.fr HF0.out) h1
  go_enter Try.func66, Try.ntmps66
  go_wp2_with fail
  rw [HW.out]
  refine c.mono ?_
  rintro _ w1 ⟨p1, q1, rfl, ho, f1⟩
  obtain ⟨a1, n1, c1, rfl⟩ := own_slice' ho.pg
  obtain ⟨a2, n2, c2, rfl⟩ := own_slice' ho.wt
  have HO := hideP ho
  have HF1 := hideP f1
  obtain ⟨k0, k1, k2, k3, z0, z1, z2, z3⟩ := (HB0.out.fr f1).four
  obtain ⟨l0, l1, l2, l3, y0, y1, y2, y3⟩ := (HB2.out.fr f1).four
  clear ho f1 c
  obtain ⟨wa, hwa⟩ : ∃ wa, (w1.setCell ⟨w.heap.size, 0, none⟩ (.slice a1 n1 c1)).setCell ⟨w.heap.size, 1, none⟩ (.slice a2 n2 c2) = wa := ⟨_, rfl⟩
  have ba : Blk wa w.heap.size #[.slice a1 n1 c1, .slice a2 n2 c2, .slice aP nP cP, .slice aQ nQ cQ] 46 := by rw [← hwa]; exact (HB0.out.fr HF1.out).aset2 _ _
  have bb : Blk wa (w.heap.size + 1 + 1) #[.slice none 0 0, .slice none 0 0, .slice none 0 0, .slice none 0 0] 46 := by
    rw [← hwa]; exact ((HB2.out.fr HF1.out).other (by omega) _ _).other (by omega) _ _
  have HFa : Hid (Fr w wa) := by rw [← hwa]; exact ((HF0.out.trans HF1.out).setCell _ _ _ (Nat.le_refl _)).setCell _ _ _ (Nat.le_refl _)
  have hda : IsD wa (.slice a1 n1 c1) (.slice a2 n2 c2) (JN.crashD s.da JN.all).1 := by
    rw [← hwa]
    have hoff : OffD w.heap.size (.slice a1 n1 c1) (.slice a2 n2 c2) := HO.out.new.off (by have := HB0.out.lt; omega)
    exact (HO.out.is.set _ hoff).set _ hoff
  have HD := hideP hda
  obtain ⟨u0, u1, u2, u3, _, _, _, _⟩ := ba.four
  obtain ⟨v0, v1, v2, v3, y0', y1', y2', y3'⟩ := bb.four
  have HBB := hideP bb
  clear ba bb hda
  go_wp2_with fail
  refine bodyPost_ret (v := .tuple #[.agg #[.slice a1 n1 c1, .slice a2 n2 c2, .slice aP nP cP, .slice aQ nQ cQ], .int .i64 ((JN.crashD s.da JN.all).2 : Int)]) ?_ rfl ?_
  · obtain ⟨q0, q1, q2, q3, _, _, _, _⟩ := (HBB.out.put4 (.slice a1 n1 c1) (.slice a2 n2 c2) (.slice aP nP cP) (.slice aQ nQ cQ)).four
    change (results Try.f66 _).run Try.prog (pt4 wa _ _ _ _ _) = .ok _ (pt4 wa _ _ _ _ _)
    simp [results, Try.results66, go_sem, q0, q1, q2, q3]
  · have hoffR : ∀ {x y : Value} {dd : JN.D}, IsD w x y dd → IsD (pt4 wa (w.heap.size + 1 + 1) (.slice a1 n1 c1) (.slice a2 n2 c2) (.slice aP nP cP) (.slice aQ nQ cQ)) x y dd := fun h => h.fr (HFa.out.put4 _ (by omega) _ _ _ _)
    have hnew : NewD W0.heap.size (.slice a1 n1 c1) (.slice a2 n2 c2) := HO.out.new
    have hdn := HD.out.put4 (hnew.off HB2.out.lt) (.slice a1 n1 c1) (.slice a2 n2 c2) (.slice aP nP cP) (.slice aQ nQ cQ)
    refine ⟨_, _, _, _, rfl, ?_, ?_, ?_, HFa.out.put4 _ (by omega) _ _ _ _⟩
    · exact ⟨hdn, hoffR hr.2⟩
    · exact .inr (hnew.low HF0.out.size)
    · exact .inl ⟨rfl, rfl⟩

set_option maxHeartbeats 2000000 in
theorem playedSJ (p q P Q : Value) (s : JN.S) (no : Int) (t : ByteArray) (w : World) (hr : IsS w p q P Q s) (h1 : s.da.pg.length ≤ 9223372036854775806) (h2 : s.jo.pg.length ≤ 9223372036854775806) :
    Calls Try.prog 66 #[.agg #[p, q, P, Q], .agg #[.int .i64 4, .int .i64 no, .string t]] w fun e w' => PAns (JN.opS s ⟨4, no, t⟩) w p q P Q e w' := by
  have hE : JN.opS s ⟨4, no, t⟩ = (⟨s.da, (JN.crashD s.jo JN.all).1⟩, (JN.crashD s.jo JN.all).2) := rfl
  rw [hE]
  clear hE
  obtain ⟨ap, np, cp, rfl⟩ := hr.1.1.slice
  obtain ⟨aq, nq, cq, rfl⟩ := hr.1.2.slice
  obtain ⟨aP, nP, cP, rfl⟩ := hr.2.1.slice
  obtain ⟨aQ, nQ, cQ, rfl⟩ := hr.2.2.slice
  obtain ⟨W0, hW0⟩ : ∃ W0, ((w.alloc (.cells #[.slice ap np cp, .slice aq nq cq, .slice aP nP cP, .slice aQ nQ cQ] 46)).alloc (.cells #[.int .i64 4, .int .i64 no, .string t] 84)).alloc (.cells #[.slice none 0 0, .slice none 0 0, .slice none 0 0, .slice none 0 0] 46) = W0 := ⟨_, rfl⟩
  have f0 : Fr w W0 := by rw [← hW0]; exact (((Fr.refl w).alloc _).alloc _).alloc _
  have b0 : Blk W0 w.heap.size #[.slice ap np cp, .slice aq nq cq, .slice aP nP cP, .slice aQ nQ cQ] 46 := by rw [← hW0]; exact ((Blk.new w _ _).old _).old _
  have b2 : Blk W0 (w.heap.size + 1 + 1) #[.slice none 0 0, .slice none 0 0, .slice none 0 0, .slice none 0 0] 46 := by
    have := Blk.new ((w.alloc (.cells #[.slice ap np cp, .slice aq nq cq, .slice aP nP cP, .slice aQ nQ cQ] 46)).alloc (.cells #[.int .i64 4, .int .i64 no, .string t] 84)) #[.slice none 0 0, .slice none 0 0, .slice none 0 0, .slice none 0 0] 46
    rw [World.size_alloc, World.size_alloc, hW0] at this; exact this
  have HF0 := hideP f0
  have HB0 := hideP b0
  have HB2 := hideP b2
  have HW := hideP hW0
  clear f0 b0 b2 hW0
  have c := sync_any _ _ s.jo W0 (hr.2.fr HF0.out) h2
  go_enter Try.func66, Try.ntmps66
  go_wp2_with fail
  rw [HW.out]
  refine c.mono ?_
  rintro _ w1 ⟨p1, q1, rfl, ho, f1⟩
  obtain ⟨a1, n1, c1, rfl⟩ := own_slice' ho.pg
  obtain ⟨a2, n2, c2, rfl⟩ := own_slice' ho.wt
  have HO := hideP ho
  have HF1 := hideP f1
  obtain ⟨k0, k1, k2, k3, z0, z1, z2, z3⟩ := (HB0.out.fr f1).four
  obtain ⟨l0, l1, l2, l3, y0, y1, y2, y3⟩ := (HB2.out.fr f1).four
  clear ho f1 c
  obtain ⟨wa, hwa⟩ : ∃ wa, (w1.setCell ⟨w.heap.size, 2, none⟩ (.slice a1 n1 c1)).setCell ⟨w.heap.size, 3, none⟩ (.slice a2 n2 c2) = wa := ⟨_, rfl⟩
  have ba : Blk wa w.heap.size #[.slice ap np cp, .slice aq nq cq, .slice a1 n1 c1, .slice a2 n2 c2] 46 := by rw [← hwa]; exact (HB0.out.fr HF1.out).bset2 _ _
  have bb : Blk wa (w.heap.size + 1 + 1) #[.slice none 0 0, .slice none 0 0, .slice none 0 0, .slice none 0 0] 46 := by
    rw [← hwa]; exact ((HB2.out.fr HF1.out).other (by omega) _ _).other (by omega) _ _
  have HFa : Hid (Fr w wa) := by rw [← hwa]; exact ((HF0.out.trans HF1.out).setCell _ _ _ (Nat.le_refl _)).setCell _ _ _ (Nat.le_refl _)
  have hda : IsD wa (.slice a1 n1 c1) (.slice a2 n2 c2) (JN.crashD s.jo JN.all).1 := by
    rw [← hwa]
    have hoff : OffD w.heap.size (.slice a1 n1 c1) (.slice a2 n2 c2) := HO.out.new.off (by have := HB0.out.lt; omega)
    exact (HO.out.is.set _ hoff).set _ hoff
  have HD := hideP hda
  obtain ⟨u0, u1, u2, u3, _, _, _, _⟩ := ba.four
  obtain ⟨v0, v1, v2, v3, y0', y1', y2', y3'⟩ := bb.four
  have HBB := hideP bb
  clear ba bb hda
  go_wp2_with fail
  refine bodyPost_ret (v := .tuple #[.agg #[.slice ap np cp, .slice aq nq cq, .slice a1 n1 c1, .slice a2 n2 c2], .int .i64 ((JN.crashD s.jo JN.all).2 : Int)]) ?_ rfl ?_
  · obtain ⟨q0, q1, q2, q3, _, _, _, _⟩ := (HBB.out.put4 (.slice ap np cp) (.slice aq nq cq) (.slice a1 n1 c1) (.slice a2 n2 c2)).four
    change (results Try.f66 _).run Try.prog (pt4 wa _ _ _ _ _) = .ok _ (pt4 wa _ _ _ _ _)
    simp [results, Try.results66, go_sem, q0, q1, q2, q3]
  · have hoffR : ∀ {x y : Value} {dd : JN.D}, IsD w x y dd → IsD (pt4 wa (w.heap.size + 1 + 1) (.slice ap np cp) (.slice aq nq cq) (.slice a1 n1 c1) (.slice a2 n2 c2)) x y dd := fun h => h.fr (HFa.out.put4 _ (by omega) _ _ _ _)
    have hnew : NewD W0.heap.size (.slice a1 n1 c1) (.slice a2 n2 c2) := HO.out.new
    have hdn := HD.out.put4 (hnew.off HB2.out.lt) (.slice ap np cp) (.slice aq nq cq) (.slice a1 n1 c1) (.slice a2 n2 c2)
    refine ⟨_, _, _, _, rfl, ?_, ?_, ?_, HFa.out.put4 _ (by omega) _ _ _ _⟩
    · exact ⟨hoffR hr.1, hdn⟩
    · exact .inl ⟨rfl, rfl⟩
    · exact .inr (hnew.low HF0.out.size)
end Go.Proofs.Ytklldfkaihpkiaa
