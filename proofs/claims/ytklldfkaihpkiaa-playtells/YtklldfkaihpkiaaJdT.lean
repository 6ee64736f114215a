/-
  The document's OpOf.
-/
import Derived.Test.YtklldfkaihpkiaaJdS
namespace Go.Proofs.Ytklldfkaihpkiaa
open Go.ChangeShapes Go.WideShapes Go.ChangeAt Go.RowKit
set_option linter.unusedVariables false
set_option linter.unusedSimpArgs false
set_option maxRecDepth 100000
set_option maxHeartbeats 2000000

theorem IsL.set' {α : Type} {E : Cd α} {w : World} {v : Value} {l : List α} (h : IsL E w v l) {N i : Nat} (u : Value) (ho : l = [] ∨ Off N v) : IsL E (w.setCell ⟨N, i, none⟩ u) v l := by
  rcases ho with h0 | ho
  · obtain ⟨a, cap, e, hc, _⟩ := h
    exact ⟨a, cap, e, hc, .inl h0⟩
  · exact h.set u ho
theorem IsL.off4 {α : Type} {E : Cd α} (hE : NoSl E) {w : World} {v : Value} {l : List α} {N : Nat} {T : TypeId} {a1 a2 a3 a4 : Option Addr} {n1 c1 n2 c2 n3 c3 n4 c4 : Nat} (h : IsL E w v l) (hb : Blk w N #[.slice a1 n1 c1, .slice a2 n2 c2, .slice a3 n3 c3, .slice a4 n4 c4] T) : l = [] ∨ Off N v := by
  obtain ⟨a, cap, rfl, hc, h0 | ⟨b, o, rfl, hlt, hh⟩⟩ := h
  · exact .inl h0
  · cases l with
    | nil => exact .inl rfl
    | cons x l =>
      right
      intro a n c e
      cases e
      show b ≠ N
      intro e
      subst e
      obtain ⟨u, hu⟩ : ∃ u, (flat E (x :: l))[0]? = some u := by
        have : 0 < (flat E (x :: l)).length := by
          rw [flat_len]
          exact Nat.mul_pos (by simp) E.pos
        exact ⟨_, List.getElem?_eq_getElem this⟩
      have h1 := hh 0 u hu
      have h2 : u ∈ flat E (x :: l) := List.mem_of_getElem? hu
      obtain ⟨y, _, hy⟩ := List.mem_flatMap.1 h2
      have h3 := hE y u hy
      rw [Lib.cell_of_heap hb] at h1
      have h4 : u ∈ #[Value.slice a1 n1 c1, .slice a2 n2 c2, .slice a3 n3 c3, .slice a4 n4 c4] := Array.mem_of_getElem? h1
      simp at h4
      rcases h4 with h4 | h4 | h4 | h4
      · exact h3 _ _ _ h4
      · exact h3 _ _ _ h4
      · exact h3 _ _ _ h4
      · exact h3 _ _ _ h4
theorem IsD.in2 {w : World} {p q : Value} {d : JN.D} {N : Nat} {T : TypeId} {a1 a2 a3 a4 : Option Addr} {n1 c1 n2 c2 n3 c3 n4 c4 : Nat} (h : IsD w p q d) (hb : Blk w N #[.slice a1 n1 c1, .slice a2 n2 c2, .slice a3 n3 c3, .slice a4 n4 c4] T) (i j : Nat) (x y : Value) : IsD ((w.setCell ⟨N, i, none⟩ x).setCell ⟨N, j, none⟩ y) p q d :=
  ⟨(h.1.set' x (h.1.off4 noSl_P hb)).set' y (h.1.off4 noSl_P hb), (h.2.set' x (h.2.off4 noSl_W hb)).set' y (h.2.off4 noSl_W hb)⟩
theorem IsD.in4 {w : World} {p q : Value} {d : JN.D} {N : Nat} {T : TypeId} {a1 a2 a3 a4 : Option Addr} {n1 c1 n2 c2 n3 c3 n4 c4 : Nat} (h : IsD w p q d) (hb : Blk w N #[.slice a1 n1 c1, .slice a2 n2 c2, .slice a3 n3 c3, .slice a4 n4 c4] T) (x y X Y : Value) : IsD (pt4 w N x y X Y) p q d :=
  ⟨(((h.1.set' x (h.1.off4 noSl_P hb)).set' y (h.1.off4 noSl_P hb)).set' X (h.1.off4 noSl_P hb)).set' Y (h.1.off4 noSl_P hb), (((h.2.set' x (h.2.off4 noSl_W hb)).set' y (h.2.off4 noSl_W hb)).set' X (h.2.off4 noSl_W hb)).set' Y (h.2.off4 noSl_W hb)⟩
theorem IsS.in4 {w : World} {p q P Q : Value} {s : JN.S} {N : Nat} {T : TypeId} {a1 a2 a3 a4 : Option Addr} {n1 c1 n2 c2 n3 c3 n4 c4 : Nat} (h : IsS w p q P Q s) (hb : Blk w N #[.slice a1 n1 c1, .slice a2 n2 c2, .slice a3 n3 c3, .slice a4 n4 c4] T) (x y X Y : Value) : IsS (pt4 w N x y X Y) p q P Q s := ⟨h.1.in4 hb x y X Y, h.2.in4 hb x y X Y⟩
/-- what a call answers that answers a store that may share its rows -/
def SIs (r : JN.S × Nat) (w : World) (e : Ending) (w' : World) : Prop :=
  ∃ p q P Q, e = .returned (.tuple #[.agg #[p, q, P, Q], .int .i64 r.2]) ∧ IsS w' p q P Q r.1 ∧ Fr w w'
theorem all_bits (d : JN.D) : JN.crashD d (JN.bits 18446744073709551615) = JN.crashD d JN.all := by
  unfold JN.crashD
  by_cases h : JN.dchk d = 0
  · have hm := ((JN.dchk_ok d).1 h).many
    rw [if_pos h, if_pos h, JN.land_bits_all _ _ (by rw [List.length_map]; omega)]
  · rw [if_neg h, if_neg h]

theorem opOf1 (p q P Q : Value) (s : JN.S) (no : Int) (t : ByteArray) (w : World) (hr : IsS w p q P Q s) (h1 : s.da.pg.length ≤ 9223372036854775806) (h2 : s.da.wt.length ≤ 9223372036854775806) (h3 : s.jo.pg.length ≤ 9223372036854775806) (h4 : s.jo.wt.length ≤ 9223372036854775806) :
    Calls Try.prog 67 #[.agg #[p, q, P, Q], .agg #[.int .i64 1, .int .i64 no, .string t]] w fun e w' => SIs (JN.opS s ⟨1, no, t⟩) w e w' := by
  have hE : JN.opS s ⟨1, no, t⟩ = (⟨(JN.writeD s.da no t).1, s.jo⟩, (JN.writeD s.da no t).2) := rfl
  rw [hE]
  clear hE
  obtain ⟨ap, np, cp, rfl⟩ := hr.1.1.slice
  obtain ⟨aq, nq, cq, rfl⟩ := hr.1.2.slice
  obtain ⟨aP, nP, cP, rfl⟩ := hr.2.1.slice
  obtain ⟨aQ, nQ, cQ, rfl⟩ := hr.2.2.slice
  obtain ⟨W0, hW0⟩ : ∃ W0, ((w.alloc (.cells #[.slice ap np cp, .slice aq nq cq, .slice aP nP cP, .slice aQ nQ cQ] 46)).alloc (.cells #[.int .i64 1, .int .i64 no, .string t] 84)).alloc (.cells #[.slice none 0 0, .slice none 0 0, .slice none 0 0, .slice none 0 0] 46) = W0 := ⟨_, rfl⟩
  have f0 : Fr w W0 := by rw [← hW0]; exact (((Fr.refl w).alloc _).alloc _).alloc _
  have b0 : Blk W0 w.heap.size #[.slice ap np cp, .slice aq nq cq, .slice aP nP cP, .slice aQ nQ cQ] 46 := by rw [← hW0]; exact ((Blk.new w _ _).old _).old _
  have b2 : Blk W0 (w.heap.size + 1 + 1) #[.slice none 0 0, .slice none 0 0, .slice none 0 0, .slice none 0 0] 46 := by
    have := Blk.new ((w.alloc (.cells #[.slice ap np cp, .slice aq nq cq, .slice aP nP cP, .slice aQ nQ cQ] 46)).alloc (.cells #[.int .i64 1, .int .i64 no, .string t] 84)) #[.slice none 0 0, .slice none 0 0, .slice none 0 0, .slice none 0 0] 46
    rw [World.size_alloc, World.size_alloc, hW0] at this; exact this
  have HF0 := hideP f0
  have HB0 := hideP b0
  have HB2 := hideP b2
  have HW := hideP hW0
  clear f0 b0 b2 hW0
  have c := writeOf_any _ _ s.da no t W0 (hr.1.fr HF0.out) h1 h2
  
  obtain ⟨r, hr0⟩ : ∃ r, JN.writeD s.da no t = r := ⟨_, rfl⟩
  rw [hr0] at c ⊢
  clear hr0
  go_enter Try.func67, Try.ntmps67
  go_wp2_with fail
  rw [HW.out]
  refine c.mono ?_
  rintro _ w1 ⟨p1, q1, rfl, ho, f1⟩
  obtain ⟨a1, n1, c1, rfl⟩ := ho.1.slice
  obtain ⟨a2, n2, c2, rfl⟩ := ho.2.slice
  have HO := hideP ho
  have HF1 := hideP f1
  obtain ⟨k0, k1, k2, k3, z0, z1, z2, z3⟩ := (HB0.out.fr f1).four
  obtain ⟨l0, l1, l2, l3, y0, y1, y2, y3⟩ := (HB2.out.fr f1).four
  clear ho f1 c
  obtain ⟨wa, hwa⟩ : ∃ wa, (w1.setCell ⟨w.heap.size, 0, none⟩ (.slice a1 n1 c1)).setCell ⟨w.heap.size, 1, none⟩ (.slice a2 n2 c2) = wa := ⟨_, rfl⟩
  have ba : Blk wa w.heap.size #[.slice a1 n1 c1, .slice a2 n2 c2, .slice aP nP cP, .slice aQ nQ cQ] 46 := by rw [← hwa]; exact (HB0.out.fr HF1.out).aset2 _ _
  have bb : Blk wa (w.heap.size + 1 + 1) #[.slice none 0 0, .slice none 0 0, .slice none 0 0, .slice none 0 0] 46 := by
    rw [← hwa]; exact ((HB2.out.fr HF1.out).other (by omega) _ _).other (by omega) _ _
  have HFa : Hid (Fr w wa) := by rw [← hwa]; exact ((HF0.out.trans HF1.out).setCell _ _ _ (Nat.le_refl _)).setCell _ _ _ (Nat.le_refl _)
  have HD : Hid (IsD wa (.slice a1 n1 c1) (.slice a2 n2 c2) r.1) := by
    rw [← hwa]
    exact HO.out.in2 (HB0.out.fr HF1.out) _ _ _ _
  obtain ⟨u0, u1, u2, u3, _, _, _, _⟩ := ba.four
  obtain ⟨v0, v1, v2, v3, y0', y1', y2', y3'⟩ := bb.four
  have HBB := hideP bb
  clear ba bb
  go_wp2_with fail
  refine bodyPost_ret (v := .tuple #[.agg #[.slice a1 n1 c1, .slice a2 n2 c2, .slice aP nP cP, .slice aQ nQ cQ], .int .i64 (r.2 : Int)]) ?_ rfl ?_
  · obtain ⟨q0, q1, q2, q3, _, _, _, _⟩ := (HBB.out.put4 (.slice a1 n1 c1) (.slice a2 n2 c2) (.slice aP nP cP) (.slice aQ nQ cQ)).four
    change (results Try.f67 _).run Try.prog (pt4 wa _ _ _ _ _) = .ok _ (pt4 wa _ _ _ _ _)
    simp [results, Try.results67, go_sem, q0, q1, q2, q3]
  · have HN := hideP (HD.out.in4 HBB.out (.slice a1 n1 c1) (.slice a2 n2 c2) (.slice aP nP cP) (.slice aQ nQ cQ))
    have HF := hideP (HFa.out.put4 (w.heap.size + 1 + 1) (by omega) (.slice a1 n1 c1) (.slice a2 n2 c2) (.slice aP nP cP) (.slice aQ nQ cQ))
    exact ⟨_, _, _, _, rfl, ⟨HN.out, hr.2.fr HF.out⟩, HF.out⟩

theorem opOf2 (p q P Q : Value) (s : JN.S) (no : Int) (t : ByteArray) (w : World) (hr : IsS w p q P Q s) (h1 : s.da.pg.length ≤ 9223372036854775806) (h2 : s.da.wt.length ≤ 9223372036854775806) (h3 : s.jo.pg.length ≤ 9223372036854775806) (h4 : s.jo.wt.length ≤ 9223372036854775806) :
    Calls Try.prog 67 #[.agg #[p, q, P, Q], .agg #[.int .i64 2, .int .i64 no, .string t]] w fun e w' => SIs (JN.opS s ⟨2, no, t⟩) w e w' := by
  have hE : JN.opS s ⟨2, no, t⟩ = (⟨s.da, (JN.writeD s.jo no t).1⟩, (JN.writeD s.jo no t).2) := rfl
  rw [hE]
  clear hE
  obtain ⟨ap, np, cp, rfl⟩ := hr.1.1.slice
  obtain ⟨aq, nq, cq, rfl⟩ := hr.1.2.slice
  obtain ⟨aP, nP, cP, rfl⟩ := hr.2.1.slice
  obtain ⟨aQ, nQ, cQ, rfl⟩ := hr.2.2.slice
  obtain ⟨W0, hW0⟩ : ∃ W0, ((w.alloc (.cells #[.slice ap np cp, .slice aq nq cq, .slice aP nP cP, .slice aQ nQ cQ] 46)).alloc (.cells #[.int .i64 2, .int .i64 no, .string t] 84)).alloc (.cells #[.slice none 0 0, .slice none 0 0, .slice none 0 0, .slice none 0 0] 46) = W0 := ⟨_, rfl⟩
  have f0 : Fr w W0 := by rw [← hW0]; exact (((Fr.refl w).alloc _).alloc _).alloc _
  have b0 : Blk W0 w.heap.size #[.slice ap np cp, .slice aq nq cq, .slice aP nP cP, .slice aQ nQ cQ] 46 := by rw [← hW0]; exact ((Blk.new w _ _).old _).old _
  have b2 : Blk W0 (w.heap.size + 1 + 1) #[.slice none 0 0, .slice none 0 0, .slice none 0 0, .slice none 0 0] 46 := by
    have := Blk.new ((w.alloc (.cells #[.slice ap np cp, .slice aq nq cq, .slice aP nP cP, .slice aQ nQ cQ] 46)).alloc (.cells #[.int .i64 2, .int .i64 no, .string t] 84)) #[.slice none 0 0, .slice none 0 0, .slice none 0 0, .slice none 0 0] 46
    rw [World.size_alloc, World.size_alloc, hW0] at this; exact this
  have HF0 := hideP f0
  have HB0 := hideP b0
  have HB2 := hideP b2
  have HW := hideP hW0
  clear f0 b0 b2 hW0
  have c := writeOf_any _ _ s.jo no t W0 (hr.2.fr HF0.out) h3 h4
  
  obtain ⟨r, hr0⟩ : ∃ r, JN.writeD s.jo no t = r := ⟨_, rfl⟩
  rw [hr0] at c ⊢
  clear hr0
  go_enter Try.func67, Try.ntmps67
  go_wp2_with fail
  rw [HW.out]
  refine c.mono ?_
  rintro _ w1 ⟨p1, q1, rfl, ho, f1⟩
  obtain ⟨a1, n1, c1, rfl⟩ := ho.1.slice
  obtain ⟨a2, n2, c2, rfl⟩ := ho.2.slice
  have HO := hideP ho
  have HF1 := hideP f1
  obtain ⟨k0, k1, k2, k3, z0, z1, z2, z3⟩ := (HB0.out.fr f1).four
  obtain ⟨l0, l1, l2, l3, y0, y1, y2, y3⟩ := (HB2.out.fr f1).four
  clear ho f1 c
  obtain ⟨wa, hwa⟩ : ∃ wa, (w1.setCell ⟨w.heap.size, 2, none⟩ (.slice a1 n1 c1)).setCell ⟨w.heap.size, 3, none⟩ (.slice a2 n2 c2) = wa := ⟨_, rfl⟩
  have ba : Blk wa w.heap.size #[.slice ap np cp, .slice aq nq cq, .slice a1 n1 c1, .slice a2 n2 c2] 46 := by rw [← hwa]; exact (HB0.out.fr HF1.out).bset2 _ _
  have bb : Blk wa (w.heap.size + 1 + 1) #[.slice none 0 0, .slice none 0 0, .slice none 0 0, .slice none 0 0] 46 := by
    rw [← hwa]; exact ((HB2.out.fr HF1.out).other (by omega) _ _).other (by omega) _ _
  have HFa : Hid (Fr w wa) := by rw [← hwa]; exact ((HF0.out.trans HF1.out).setCell _ _ _ (Nat.le_refl _)).setCell _ _ _ (Nat.le_refl _)
  have HD : Hid (IsD wa (.slice a1 n1 c1) (.slice a2 n2 c2) r.1) := by
    rw [← hwa]
    exact HO.out.in2 (HB0.out.fr HF1.out) _ _ _ _
  obtain ⟨u0, u1, u2, u3, _, _, _, _⟩ := ba.four
  obtain ⟨v0, v1, v2, v3, y0', y1', y2', y3'⟩ := bb.four
  have HBB := hideP bb
  clear ba bb
  go_wp2_with fail
  refine bodyPost_ret (v := .tuple #[.agg #[.slice ap np cp, .slice aq nq cq, .slice a1 n1 c1, .slice a2 n2 c2], .int .i64 (r.2 : Int)]) ?_ rfl ?_
  · obtain ⟨q0, q1, q2, q3, _, _, _, _⟩ := (HBB.out.put4 (.slice ap np cp) (.slice aq nq cq) (.slice a1 n1 c1) (.slice a2 n2 c2)).four
    change (results Try.f67 _).run Try.prog (pt4 wa _ _ _ _ _) = .ok _ (pt4 wa _ _ _ _ _)
    simp [results, Try.results67, go_sem, q0, q1, q2, q3]
  · have HN := hideP (HD.out.in4 HBB.out (.slice ap np cp) (.slice aq nq cq) (.slice a1 n1 c1) (.slice a2 n2 c2))
    have HF := hideP (HFa.out.put4 (w.heap.size + 1 + 1) (by omega) (.slice ap np cp) (.slice aq nq cq) (.slice a1 n1 c1) (.slice a2 n2 c2))
    exact ⟨_, _, _, _, rfl, ⟨hr.1.fr HF.out, HN.out⟩, HF.out⟩

theorem opOf3 (p q P Q : Value) (s : JN.S) (no : Int) (t : ByteArray) (w : World) (hr : IsS w p q P Q s) (h1 : s.da.pg.length ≤ 9223372036854775806) (h2 : s.da.wt.length ≤ 9223372036854775806) (h3 : s.jo.pg.length ≤ 9223372036854775806) (h4 : s.jo.wt.length ≤ 9223372036854775806) :
    Calls Try.prog 67 #[.agg #[p, q, P, Q], .agg #[.int .i64 3, .int .i64 no, .string t]] w fun e w' => SIs (JN.opS s ⟨3, no, t⟩) w e w' := by
  have hE : JN.opS s ⟨3, no, t⟩ = (⟨(JN.crashD s.da JN.all).1, s.jo⟩, (JN.crashD s.da JN.all).2) := rfl
  rw [hE]
  clear hE
  obtain ⟨ap, np, cp, rfl⟩ := hr.1.1.slice
  obtain ⟨aq, nq, cq, rfl⟩ := hr.1.2.slice
  obtain ⟨aP, nP, cP, rfl⟩ := hr.2.1.slice
  obtain ⟨aQ, nQ, cQ, rfl⟩ := hr.2.2.slice
  obtain ⟨W0, hW0⟩ : ∃ W0, ((w.alloc (.cells #[.slice ap np cp, .slice aq nq cq, .slice aP nP cP, .slice aQ nQ cQ] 46)).alloc (.cells #[.int .i64 3, .int .i64 no, .string t] 84)).alloc (.cells #[.slice none 0 0, .slice none 0 0, .slice none 0 0, .slice none 0 0] 46) = W0 := ⟨_, rfl⟩
  have f0 : Fr w W0 := by rw [← hW0]; exact (((Fr.refl w).alloc _).alloc _).alloc _
  have b0 : Blk W0 w.heap.size #[.slice ap np cp, .slice aq nq cq, .slice aP nP cP, .slice aQ nQ cQ] 46 := by rw [← hW0]; exact ((Blk.new w _ _).old _).old _
  have b2 : Blk W0 (w.heap.size + 1 + 1) #[.slice none 0 0, .slice none 0 0, .slice none 0 0, .slice none 0 0] 46 := by
    have := Blk.new ((w.alloc (.cells #[.slice ap np cp, .slice aq nq cq, .slice aP nP cP, .slice aQ nQ cQ] 46)).alloc (.cells #[.int .i64 3, .int .i64 no, .string t] 84)) #[.slice none 0 0, .slice none 0 0, .slice none 0 0, .slice none 0 0] 46
    rw [World.size_alloc, World.size_alloc, hW0] at this; exact this
  have HF0 := hideP f0
  have HB0 := hideP b0
  have HB2 := hideP b2
  have HW := hideP hW0
  clear f0 b0 b2 hW0
  have c := crashOf_any _ _ s.da 18446744073709551615 W0 (hr.1.fr HF0.out) h1 h2 (by decide)
  rw [all_bits] at c
  obtain ⟨r, hr0⟩ : ∃ r, JN.crashD s.da JN.all = r := ⟨_, rfl⟩
  rw [hr0] at c ⊢
  clear hr0
  go_enter Try.func67, Try.ntmps67
  go_wp2_with fail
  rw [HW.out]
  refine c.mono ?_
  rintro _ w1 ⟨p1, q1, rfl, ho, f1⟩
  obtain ⟨a1, n1, c1, rfl⟩ := ho.1.slice
  obtain ⟨a2, n2, c2, rfl⟩ := ho.2.slice
  have HO := hideP ho
  have HF1 := hideP f1
  obtain ⟨k0, k1, k2, k3, z0, z1, z2, z3⟩ := (HB0.out.fr f1).four
  obtain ⟨l0, l1, l2, l3, y0, y1, y2, y3⟩ := (HB2.out.fr f1).four
  clear ho f1 c
  obtain ⟨wa, hwa⟩ : ∃ wa, (w1.setCell ⟨w.heap.size, 0, none⟩ (.slice a1 n1 c1)).setCell ⟨w.heap.size, 1, none⟩ (.slice a2 n2 c2) = wa := ⟨_, rfl⟩
  have ba : Blk wa w.heap.size #[.slice a1 n1 c1, .slice a2 n2 c2, .slice aP nP cP, .slice aQ nQ cQ] 46 := by rw [← hwa]; exact (HB0.out.fr HF1.out).aset2 _ _
  have bb : Blk wa (w.heap.size + 1 + 1) #[.slice none 0 0, .slice none 0 0, .slice none 0 0, .slice none 0 0] 46 := by
    rw [← hwa]; exact ((HB2.out.fr HF1.out).other (by omega) _ _).other (by omega) _ _
  have HFa : Hid (Fr w wa) := by rw [← hwa]; exact ((HF0.out.trans HF1.out).setCell _ _ _ (Nat.le_refl _)).setCell _ _ _ (Nat.le_refl _)
  have HD : Hid (IsD wa (.slice a1 n1 c1) (.slice a2 n2 c2) r.1) := by
    rw [← hwa]
    exact HO.out.in2 (HB0.out.fr HF1.out) _ _ _ _
  obtain ⟨u0, u1, u2, u3, _, _, _, _⟩ := ba.four
  obtain ⟨v0, v1, v2, v3, y0', y1', y2', y3'⟩ := bb.four
  have HBB := hideP bb
  clear ba bb
  go_wp2_with fail
  refine bodyPost_ret (v := .tuple #[.agg #[.slice a1 n1 c1, .slice a2 n2 c2, .slice aP nP cP, .slice aQ nQ cQ], .int .i64 (r.2 : Int)]) ?_ rfl ?_
  · obtain ⟨q0, q1, q2, q3, _, _, _, _⟩ := (HBB.out.put4 (.slice a1 n1 c1) (.slice a2 n2 c2) (.slice aP nP cP) (.slice aQ nQ cQ)).four
    change (results Try.f67 _).run Try.prog (pt4 wa _ _ _ _ _) = .ok _ (pt4 wa _ _ _ _ _)
    simp [results, Try.results67, go_sem, q0, q1, q2, q3]
  · have HN := hideP (HD.out.in4 HBB.out (.slice a1 n1 c1) (.slice a2 n2 c2) (.slice aP nP cP) (.slice aQ nQ cQ))
    have HF := hideP (HFa.out.put4 (w.heap.size + 1 + 1) (by omega) (.slice a1 n1 c1) (.slice a2 n2 c2) (.slice aP nP cP) (.slice aQ nQ cQ))
    exact ⟨_, _, _, _, rfl, ⟨HN.out, hr.2.fr HF.out⟩, HF.out⟩

theorem opOf4 (p q P Q : Value) (s : JN.S) (no : Int) (t : ByteArray) (w : World) (hr : IsS w p q P Q s) (h1 : s.da.pg.length ≤ 9223372036854775806) (h2 : s.da.wt.length ≤ 9223372036854775806) (h3 : s.jo.pg.length ≤ 9223372036854775806) (h4 : s.jo.wt.length ≤ 9223372036854775806) :
    Calls Try.prog 67 #[.agg #[p, q, P, Q], .agg #[.int .i64 4, .int .i64 no, .string t]] w fun e w' => SIs (JN.opS s ⟨4, no, t⟩) w e w' := by
  have hE : JN.opS s ⟨4, no, t⟩ = (⟨s.da, (JN.crashD s.jo JN.all).1⟩, (JN.crashD s.jo JN.all).2) := rfl
  rw [hE]
  clear hE
  obtain ⟨ap, np, cp, rfl⟩ := hr.1.1.slice
  obtain ⟨aq, nq, cq, rfl⟩ := hr.1.2.slice
  obtain ⟨aP, nP, cP, rfl⟩ := hr.2.1.slice
  obtain ⟨aQ, nQ, cQ, rfl⟩ := hr.2.2.slice
  obtain ⟨W0, hW0⟩ : ∃ W0, ((w.alloc (.cells #[.slice ap np cp, .slice aq nq cq, .slice aP nP cP, .slice aQ nQ cQ] 46)).alloc (.cells #[.int .i64 4, .int .i64 no, .string t] 84)).alloc (.cells #[.slice none 0 0, .slice none 0 0, .slice none 0 0, .slice none 0 0] 46) = W0 := ⟨_, rfl⟩
  have f0 : Fr w W0 := by rw [← hW0]; exact (((Fr.refl w).alloc _).alloc _).alloc _
  have b0 : Blk W0 w.heap.size #[.slice ap np cp, .slice aq nq cq, .slice aP nP cP, .slice aQ nQ cQ] 46 := by rw [← hW0]; exact ((Blk.new w _ _).old _).old _
  have b2 : Blk W0 (w.heap.size + 1 + 1) #[.slice none 0 0, .slice none 0 0, .slice none 0 0, .slice none 0 0] 46 := by
    have := Blk.new ((w.alloc (.cells #[.slice ap np cp, .slice aq nq cq, .slice aP nP cP, .slice aQ nQ cQ] 46)).alloc (.cells #[.int .i64 4, .int .i64 no, .string t] 84)) #[.slice none 0 0, .slice none 0 0, .slice none 0 0, .slice none 0 0] 46
    rw [World.size_alloc, World.size_alloc, hW0] at this; exact this
  have HF0 := hideP f0
  have HB0 := hideP b0
  have HB2 := hideP b2
  have HW := hideP hW0
  clear f0 b0 b2 hW0
  have c := crashOf_any _ _ s.jo 18446744073709551615 W0 (hr.2.fr HF0.out) h3 h4 (by decide)
  rw [all_bits] at c
  obtain ⟨r, hr0⟩ : ∃ r, JN.crashD s.jo JN.all = r := ⟨_, rfl⟩
  rw [hr0] at c ⊢
  clear hr0
  go_enter Try.func67, Try.ntmps67
  go_wp2_with fail
  rw [HW.out]
  refine c.mono ?_
  rintro _ w1 ⟨p1, q1, rfl, ho, f1⟩
  obtain ⟨a1, n1, c1, rfl⟩ := ho.1.slice
  obtain ⟨a2, n2, c2, rfl⟩ := ho.2.slice
  have HO := hideP ho
  have HF1 := hideP f1
  obtain ⟨k0, k1, k2, k3, z0, z1, z2, z3⟩ := (HB0.out.fr f1).four
  obtain ⟨l0, l1, l2, l3, y0, y1, y2, y3⟩ := (HB2.out.fr f1).four
  clear ho f1 c
  obtain ⟨wa, hwa⟩ : ∃ wa, (w1.setCell ⟨w.heap.size, 2, none⟩ (.slice a1 n1 c1)).setCell ⟨w.heap.size, 3, none⟩ (.slice a2 n2 c2) = wa := ⟨_, rfl⟩
  have ba : Blk wa w.heap.size #[.slice ap np cp, .slice aq nq cq, .slice a1 n1 c1, .slice a2 n2 c2] 46 := by rw [← hwa]; exact (HB0.out.fr HF1.out).bset2 _ _
  have bb : Blk wa (w.heap.size + 1 + 1) #[.slice none 0 0, .slice none 0 0, .slice none 0 0, .slice none 0 0] 46 := by
    rw [← hwa]; exact ((HB2.out.fr HF1.out).other (by omega) _ _).other (by omega) _ _
  have HFa : Hid (Fr w wa) := by rw [← hwa]; exact ((HF0.out.trans HF1.out).setCell _ _ _ (Nat.le_refl _)).setCell _ _ _ (Nat.le_refl _)
  have HD : Hid (IsD wa (.slice a1 n1 c1) (.slice a2 n2 c2) r.1) := by
    rw [← hwa]
    exact HO.out.in2 (HB0.out.fr HF1.out) _ _ _ _
  obtain ⟨u0, u1, u2, u3, _, _, _, _⟩ := ba.four
  obtain ⟨v0, v1, v2, v3, y0', y1', y2', y3'⟩ := bb.four
  have HBB := hideP bb
  clear ba bb
  go_wp2_with fail
  refine bodyPost_ret (v := .tuple #[.agg #[.slice ap np cp, .slice aq nq cq, .slice a1 n1 c1, .slice a2 n2 c2], .int .i64 (r.2 : Int)]) ?_ rfl ?_
  · obtain ⟨q0, q1, q2, q3, _, _, _, _⟩ := (HBB.out.put4 (.slice ap np cp) (.slice aq nq cq) (.slice a1 n1 c1) (.slice a2 n2 c2)).four
    change (results Try.f67 _).run Try.prog (pt4 wa _ _ _ _ _) = .ok _ (pt4 wa _ _ _ _ _)
    simp [results, Try.results67, go_sem, q0, q1, q2, q3]
  · have HN := hideP (HD.out.in4 HBB.out (.slice ap np cp) (.slice aq nq cq) (.slice a1 n1 c1) (.slice a2 n2 c2))
    have HF := hideP (HFa.out.put4 (w.heap.size + 1 + 1) (by omega) (.slice ap np cp) (.slice aq nq cq) (.slice a1 n1 c1) (.slice a2 n2 c2))
    exact ⟨_, _, _, _, rfl, ⟨hr.1.fr HF.out, HN.out⟩, HF.out⟩

theorem opOf5 (p q P Q : Value) (s : JN.S) (k no : Int) (t : ByteArray) (w : World) (hr : IsS w p q P Q s) (hk1 : k ≠ 1) (hk2 : k ≠ 2) (hk3 : k ≠ 3) (hk4 : k ≠ 4) :
    Calls Try.prog 67 #[.agg #[p, q, P, Q], .agg #[.int .i64 k, .int .i64 no, .string t]] w fun e w' => SIs (JN.opS s ⟨k, no, t⟩) w e w' := by
  have hE : JN.opS s ⟨k, no, t⟩ = (s, 7) := by unfold JN.opS; simp only; rw [if_neg hk1, if_neg hk2, if_neg hk3, if_neg hk4]
  rw [hE]
  clear hE
  obtain ⟨ap, np, cp, rfl⟩ := hr.1.1.slice
  obtain ⟨aq, nq, cq, rfl⟩ := hr.1.2.slice
  obtain ⟨aP, nP, cP, rfl⟩ := hr.2.1.slice
  obtain ⟨aQ, nQ, cQ, rfl⟩ := hr.2.2.slice
  obtain ⟨W0, hW0⟩ : ∃ W0, ((w.alloc (.cells #[.slice ap np cp, .slice aq nq cq, .slice aP nP cP, .slice aQ nQ cQ] 46)).alloc (.cells #[.int .i64 k, .int .i64 no, .string t] 84)).alloc (.cells #[.slice none 0 0, .slice none 0 0, .slice none 0 0, .slice none 0 0] 46) = W0 := ⟨_, rfl⟩
  have f0 : Fr w W0 := by rw [← hW0]; exact (((Fr.refl w).alloc _).alloc _).alloc _
  have b0 : Blk W0 w.heap.size #[.slice ap np cp, .slice aq nq cq, .slice aP nP cP, .slice aQ nQ cQ] 46 := by rw [← hW0]; exact ((Blk.new w _ _).old _).old _
  have b1 : Blk W0 (w.heap.size + 1) #[.int .i64 k, .int .i64 no, .string t] 84 := by
    have := (Blk.new (w.alloc (.cells #[.slice ap np cp, .slice aq nq cq, .slice aP nP cP, .slice aQ nQ cQ] 46)) #[.int .i64 k, .int .i64 no, .string t] 84).old (.cells #[.slice none 0 0, .slice none 0 0, .slice none 0 0, .slice none 0 0] 46)
    rw [World.size_alloc, hW0] at this; exact this
  have b2 : Blk W0 (w.heap.size + 1 + 1) #[.slice none 0 0, .slice none 0 0, .slice none 0 0, .slice none 0 0] 46 := by
    have := Blk.new ((w.alloc (.cells #[.slice ap np cp, .slice aq nq cq, .slice aP nP cP, .slice aQ nQ cQ] 46)).alloc (.cells #[.int .i64 k, .int .i64 no, .string t] 84)) #[.slice none 0 0, .slice none 0 0, .slice none 0 0, .slice none 0 0] 46
    rw [World.size_alloc, World.size_alloc, hW0] at this; exact this
  obtain ⟨u0, u1, u2, u3, _, _, _, _⟩ := b0.four
  obtain ⟨v0, v1, v2, v3, y0', y1', y2', y3'⟩ := b2.four
  have o0 := b1.cell 0 rfl
  have HBB := hideP b2
  have HF0 := hideP f0
  have e1 : (k == 1) = false := by simpa using hk1
  have e2 : (k == 2) = false := by simpa using hk2
  have e3 : (k == 3) = false := by simpa using hk3
  have e4 : (k == 4) = false := by simpa using hk4
  clear f0 b0 b1 b2
  go_enter Try.func67, Try.ntmps67
  go_wp2_with fail
  refine bodyPost_ret (v := .tuple #[.agg #[.slice ap np cp, .slice aq nq cq, .slice aP nP cP, .slice aQ nQ cQ], .int .i64 7]) ?_ rfl ?_
  · obtain ⟨q0, q1, q2, q3, _, _, _, _⟩ := (HBB.out.put4 (.slice ap np cp) (.slice aq nq cq) (.slice aP nP cP) (.slice aQ nQ cQ)).four
    change (results Try.f67 _).run Try.prog (pt4 W0 _ _ _ _ _) = .ok _ (pt4 W0 _ _ _ _ _)
    simp [results, Try.results67, go_sem, q0, q1, q2, q3]
  · have HF := hideP (HF0.out.put4 (w.heap.size + 1 + 1) (by omega) (.slice ap np cp) (.slice aq nq cq) (.slice aP nP cP) (.slice aQ nQ cQ))
    exact ⟨_, _, _, _, rfl, hr.fr HF.out, HF.out⟩
theorem opOf_any (p q P Q : Value) (s : JN.S) (o : JN.O) (w : World) (hr : IsS w p q P Q s) (h1 : s.da.pg.length ≤ 9223372036854775806) (h2 : s.da.wt.length ≤ 9223372036854775806) (h3 : s.jo.pg.length ≤ 9223372036854775806) (h4 : s.jo.wt.length ≤ 9223372036854775806) :
    Calls Try.prog 67 #[.agg #[p, q, P, Q], .agg #[.int .i64 o.kind, .int .i64 o.no, .string o.t]] w fun e w' => SIs (JN.opS s o) w e w' := by
  obtain ⟨k, no, t⟩ := o
  by_cases k1 : k = 1
  · subst k1; exact opOf1 p q P Q s no t w hr h1 h2 h3 h4
  by_cases k2 : k = 2
  · subst k2; exact opOf2 p q P Q s no t w hr h1 h2 h3 h4
  by_cases k3 : k = 3
  · subst k3; exact opOf3 p q P Q s no t w hr h1 h2 h3 h4
  by_cases k4 : k = 4
  · subst k4; exact opOf4 p q P Q s no t w hr h1 h2 h3 h4
  · exact opOf5 p q P Q s k no t w hr k1 k2 k3 k4
end Go.Proofs.Ytklldfkaihpkiaa
