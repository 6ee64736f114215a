/-
  What played and Play of package journal answer, for every store and ops.
-/
import Derived.Test.YtklldfkaihpkiaaJdB
import Derived.Deep.DeepCutAuto
import Derived.Deep.CutRange
namespace Go.Proofs.Ytklldfkaihpkiaa
open Go.ChangeShapes Go.WideShapes Go.ChangeAt Go.RowKit
set_option linter.unusedVariables false
set_option linter.unusedSimpArgs false
set_option maxRecDepth 100000

set_option maxHeartbeats 2000000 in
theorem playedX (p q P Q : Value) (s : JN.S) (k no : Int) (t : ByteArray) (w : World) (hr : IsS w p q P Q s) (n1 : k ≠ 1) (n2 : k ≠ 2) (n3 : k ≠ 3) (n4 : k ≠ 4) :
    Calls Try.prog 66 #[.agg #[p, q, P, Q], .agg #[.int .i64 k, .int .i64 no, .string t]] w fun e w' => PAns (s, 7) w p q P Q e w' := by
  have e1 : (k == 1) = false := by simpa using n1
  have e2 : (k == 2) = false := by simpa using n2
  have e3 : (k == 3) = false := by simpa using n3
  have e4 : (k == 4) = false := by simpa using n4
  obtain ⟨ap, np, cp, rfl⟩ := hr.1.1.slice
  obtain ⟨aq, nq, cq, rfl⟩ := hr.1.2.slice
  obtain ⟨aP, nP, cP, rfl⟩ := hr.2.1.slice
  obtain ⟨aQ, nQ, cQ, rfl⟩ := hr.2.2.slice
  have HR := hideP hr
  clear hr n1 n2 n3 n4
  go_enter Try.func66, Try.ntmps66
  go_wp2_with fail
  refine bodyPost_ret (v := .tuple #[.agg #[.slice ap np cp, .slice aq nq cq, .slice aP nP cP, .slice aQ nQ cQ], .int .i64 (7 : Int)]) ?_ rfl ?_
  · simp [results, Try.results66, go_sem]
  · have f : Fr w (((w.alloc (.cells #[.slice ap np cp, .slice aq nq cq, .slice aP nP cP, .slice aQ nQ cQ] 46)).alloc (.cells #[.int .i64 k, .int .i64 no, .string t] 84)).alloc (.cells #[.slice ap np cp, .slice aq nq cq, .slice aP nP cP, .slice aQ nQ cQ] 46)) := (((Fr.refl w).alloc _).alloc _).alloc _
    exact ⟨_, _, _, _, rfl, HR.out.fr f, .inl ⟨rfl, rfl⟩, .inl ⟨rfl, rfl⟩, f⟩
theorem played_any (p q P Q : Value) (s : JN.S) (o : JN.O) (w : World) (hr : IsS w p q P Q s) (h1 : s.da.pg.length ≤ 9223372036854775806) (h2 : s.jo.pg.length ≤ 9223372036854775806) :
    Calls Try.prog 66 #[.agg #[p, q, P, Q], .agg #[.int .i64 o.kind, .int .i64 o.no, .string o.t]] w fun e w' => PAns (JN.opS s o) w p q P Q e w' := by
  obtain ⟨k, no, t⟩ := o
  simp only
  by_cases e1 : k = 1
  · subst e1; exact playedD p q P Q s no t w hr h1 h2
  by_cases e2 : k = 2
  · subst e2; exact playedJ p q P Q s no t w hr h1 h2
  by_cases e3 : k = 3
  · subst e3; exact playedSD p q P Q s no t w hr h1 h2
  by_cases e4 : k = 4
  · subst e4; exact playedSJ p q P Q s no t w hr h1 h2
  · have : JN.opS s ⟨k, no, t⟩ = (s, 7) := by unfold JN.opS; simp [e1, e2, e3, e4]
    rw [this]
    exact playedX p q P Q s k no t w hr e1 e2 e3 e4
theorem own_off {B n sz N : Nat} {T T' : TypeId} {v : Value} {xs : List Value} {arr : Array Value} {w : World} (h : w.ownsRow B T sz v n xs) (hb : Blk w N arr T') (hne : T' ≠ T) : Off N v := by
  intro a m c e
  rcases h.2 with ⟨h1, _⟩ | ⟨g', cap, cur, h1, h2, h3, _⟩
  · rw [h1] at e; cases e
  · rw [h1] at e
    cases e
    intro e2
    have e2 : g' = N := e2
    subst e2
    have := hb.symm.trans h3
    simp only [Option.some.injEq, Obj.cells.injEq] at this
    exact hne this.2.1
theorem OwnD.off {B N : Nat} {w : World} {p q : Value} {d : JN.D} {arr : Array Value} (h : OwnD B w p q d) (hb : Blk w N arr 46) : OffD N p q := ⟨own_off h.pg hb (by decide), own_off h.wt hb (by decide)⟩
theorem s4_after {w w' : World} {a b c d : Addr} {u v x y : Value} (f : Fr w w') (h : w.cell? a = some u ∧ w.cell? b = some v ∧ w.cell? c = some x ∧ w.cell? d = some y) : w'.cell? a = some u ∧ w'.cell? b = some v ∧ w'.cell? c = some x ∧ w'.cell? d = some y :=
  ⟨(Below.cell f (World.block_lt_of_cell? _ _ h.1)).trans h.1, (Below.cell f (World.block_lt_of_cell? _ _ h.2.1)).trans h.2.1, (Below.cell f (World.block_lt_of_cell? _ _ h.2.2.1)).trans h.2.2.1, (Below.cell f (World.block_lt_of_cell? _ _ h.2.2.2)).trans h.2.2.2⟩
theorem s4_set4 {w w' : World} {A N : Nat} {u v x y X0 X1 X2 X3 : Value} (h : w.cell? ⟨A, 0, none⟩ = some u ∧ w.cell? ⟨A, 1, none⟩ = some v ∧ w.cell? ⟨A, 2, none⟩ = some x ∧ w.cell? ⟨A, 3, none⟩ = some y) (f : Fr w w') (hne : N ≠ A) :
    ((((w'.setCell ⟨N, 0, none⟩ X0).setCell ⟨N, 1, none⟩ X1).setCell ⟨N, 2, none⟩ X2).setCell ⟨N, 3, none⟩ X3).cell? ⟨A, 0, none⟩ = some u ∧ ((((w'.setCell ⟨N, 0, none⟩ X0).setCell ⟨N, 1, none⟩ X1).setCell ⟨N, 2, none⟩ X2).setCell ⟨N, 3, none⟩ X3).cell? ⟨A, 1, none⟩ = some v ∧ ((((w'.setCell ⟨N, 0, none⟩ X0).setCell ⟨N, 1, none⟩ X1).setCell ⟨N, 2, none⟩ X2).setCell ⟨N, 3, none⟩ X3).cell? ⟨A, 2, none⟩ = some x ∧ ((((w'.setCell ⟨N, 0, none⟩ X0).setCell ⟨N, 1, none⟩ X1).setCell ⟨N, 2, none⟩ X2).setCell ⟨N, 3, none⟩ X3).cell? ⟨A, 3, none⟩ = some y := by
  have e : ∀ (W : World) (i j : Nat) (z : Value), (W.setCell ⟨N, i, none⟩ z).cell? ⟨A, j, none⟩ = W.cell? ⟨A, j, none⟩ := fun W i j z => World.cell?_setCell_other (w := W) (a := ⟨N, i, none⟩) (b := ⟨A, j, none⟩) (v := z) (fun e => hne (by cases e; rfl))
  simp only [e]
  exact s4_after f h
/-- what Play and Recover answer -/
def SAns (r : JN.S × Nat) (w : World) (e : Ending) (w' : World) : Prop :=
  ∃ p' q' P' Q', e = .returned (.tuple #[.agg #[p', q', P', Q'], .int .i64 r.2]) ∧ IsS w' p' q' P' Q' r.1 ∧ NewD w.heap.size p' q' ∧ NewD w.heap.size P' Q' ∧ Fr w w'
/-- the variable now of Play -/
structure Nw (w : World) (N : Nat) (p q P Q : Value) (s : JN.S) (wr : World) : Prop where
  n : Blk wr N #[p, q, P, Q] 46
  r : Blk wr (w.heap.size + 1) #[.slice none 0 0, .slice none 0 0, .slice none 0 0, .slice none 0 0] 46
  s : IsS wr p q P Q s
  od : OffD N p q
  oj : OffD N P Q
  nd : NewD (w.heap.size + 1 + 1) p q
  nj : NewD (w.heap.size + 1 + 1) P Q
  f : Fr w wr
  ne : w.heap.size + 1 < N
theorem OwnD.low {A B : Nat} {w : World} {p q : Value} {d : JN.D} (h : OwnD B w p q d) (hA : A ≤ B) : OwnD A w p q d := ⟨own_low h.pg hA, own_low h.wt hA⟩
theorem newD_nil (B : Nat) : NewD B (.slice none 0 0) (.slice none 0 0) := ⟨new_nil _, new_nil _⟩

theorem nw_last {w w1 w2 w3 : World} {v1 v2 v3 v4 : Value} {s : JN.S} (hf : Fr w w1) (hb : Blk w1 (w.heap.size + 1) #[.slice none 0 0, .slice none 0 0, .slice none 0 0, .slice none 0 0] 46) (fa : Fr w1 w2) (fb : Fr w2 w3) (h1 : OwnD w1.heap.size w2 v1 v2 s.da) (h2 : OwnD w2.heap.size w3 v3 v4 s.jo) :
    Nw w w3.heap.size v1 v2 v3 v4 s (w3.alloc (.cells #[v1, v2, v3, v4] 46)) := by
  have fl := (Fr.refl w3).alloc (.cells #[v1, v2, v3, v4] 46)
  have hlt := hb.lt
  have s1 := fa.size
  have s2 := fb.size
  have bn := Blk.new w3 #[v1, v2, v3, v4] 46
  exact ⟨bn, (hb.fr (fa.trans fb)).old _, ⟨((h1.fr fb).fr fl).is, (h2.fr fl).is⟩, ((h1.fr fb).fr fl).off bn, (h2.fr fl).off bn, h1.new.low (by omega), h2.new.low (by omega), (hf.trans (fa.trans fb)).trans fl, by omega⟩
theorem nw_set {w w1 w2 w3 : World} {N : Nat} {v1 v2 v3 v4 : Value} {s : JN.S} (hf : Fr w w1) (hb : Blk w1 (w.heap.size + 1) #[.slice none 0 0, .slice none 0 0, .slice none 0 0, .slice none 0 0] 46) (fa : Fr w1 w2) (fb : Fr w2 w3) (h1 : OwnD w1.heap.size w2 v1 v2 s.da) (h2 : OwnD w2.heap.size w3 v3 v4 s.jo) (hn : Blk w3 N #[.slice none 0 0, .slice none 0 0, .slice none 0 0, .slice none 0 0] 46) (hN : w1.heap.size ≤ N) :
    Nw w N v1 v2 v3 v4 s (pt4 w3 N v1 v2 v3 v4) := by
  have hlt := hb.lt
  have s1 := fa.size
  have s2 := fb.size
  have o1 := (h1.fr fb).off hn
  have o2 := h2.off hn
  exact ⟨hn.put4 _ _ _ _, (hb.fr (fa.trans fb)).oput4 (by omega) _ _ _ _, ⟨(h1.fr fb).is.put4 o1 _ _ _ _, h2.is.put4 o2 _ _ _ _⟩, o1, o2, h1.new.low (by omega), h2.new.low (by omega), (hf.trans (fa.trans fb)).put4 _ (by have := hf.size; omega) _ _ _ _, by omega⟩

theorem nw_mid {w w1 w2 w3 : World} {v1 v2 v3 v4 : Value} {s : JN.S} (hf : Fr w w1) (hb : Blk w1 (w.heap.size + 1) #[.slice none 0 0, .slice none 0 0, .slice none 0 0, .slice none 0 0] 46) (fa : Fr w1 w2) (fb : Fr (w2.alloc (.cells #[.slice none 0 0, .slice none 0 0, .slice none 0 0, .slice none 0 0] 46)) w3) (h1 : OwnD w1.heap.size w2 v1 v2 s.da) (h2 : OwnD (w2.alloc (.cells #[.slice none 0 0, .slice none 0 0, .slice none 0 0, .slice none 0 0] 46)).heap.size w3 v3 v4 s.jo) (hn : Blk w3 w2.heap.size #[.slice none 0 0, .slice none 0 0, .slice none 0 0, .slice none 0 0] 46) :
    Nw w w2.heap.size v1 v2 v3 v4 s (pt4 w3 w2.heap.size v1 v2 v3 v4) :=
  nw_set hf hb fa (((Fr.refl w2).alloc _).trans fb) h1 (h2.low (by simp)) hn fa.size
set_option maxHeartbeats 20000000 in
theorem play_any (p q P Q v : Value) (s : JN.S) (ops : List JN.O) (w : World) (hr : IsS w p q P Q s) (hv : IsL cdO w v ops) (h1 : s.da.pg.length ≤ 9223372036854775806) (h2 : s.jo.pg.length ≤ 9223372036854775806) :
    Calls Try.prog 35 #[.agg #[p, q, P, Q], v] w fun e w' => SAns (JN.playS s ops) w e w' := by
  obtain ⟨ap, np, cp, rfl⟩ := hr.1.1.slice
  obtain ⟨aq, nq, cq, rfl⟩ := hr.1.2.slice
  obtain ⟨aP, nP, cP, rfl⟩ := hr.2.1.slice
  obtain ⟨aQ, nQ, cQ, rfl⟩ := hr.2.2.slice
  obtain ⟨av, cv, rfl, hcap, hcs⟩ := hv
  have HC := hideP hcs
  clear hcs
  have c := fun W (f : Fr w W) => jcheck_any _ _ _ _ s W (hr.fr f) h1 h2
  have hE : JN.playS s ops = if JN.schk s = 0 then if 100 < ops.length then (JN.noneS, 2) else JN.playO s ops else (JN.noneS, JN.schk s) := rfl
  have hok : JN.schk s = 0 → JN.OkS s := (JN.schk_ok s).1
  generalize hy : JN.schk s = y at c hE hok
  clear hy
  obtain ⟨W0, hW0⟩ : ∃ W0, (w.alloc (.cells #[.slice ap np cp, .slice aq nq cq, .slice aP nP cP, .slice aQ nQ cQ] 46)).alloc (.cells #[.slice none 0 0, .slice none 0 0, .slice none 0 0, .slice none 0 0] 46) = W0 := ⟨_, rfl⟩
  have f0 : Fr w W0 := by rw [← hW0]; exact ((Fr.refl w).alloc _).alloc _
  have b0 : Blk W0 w.heap.size #[.slice ap np cp, .slice aq nq cq, .slice aP nP cP, .slice aQ nQ cQ] 46 := by rw [← hW0]; exact (Blk.new w _ _).old _
  have b2 : Blk W0 (w.heap.size + 1) #[.slice none 0 0, .slice none 0 0, .slice none 0 0, .slice none 0 0] 46 := by
    have := Blk.new (w.alloc (.cells #[.slice ap np cp, .slice aq nq cq, .slice aP nP cP, .slice aQ nQ cQ] 46)) #[.slice none 0 0, .slice none 0 0, .slice none 0 0, .slice none 0 0] 46
    rw [World.size_alloc, hW0] at this; exact this
  have c0 := c W0 f0
  have HW := hideP hW0
  have HB0 := hideP b0
  have HB2 := hideP b2
  have HF0 := hideP f0
  clear c hW0 f0 b0 b2
  by_cases h0 : y = 0
  · subst h0
    rw [if_pos rfl] at hE
    have hs := hok rfl
    clear hok
    by_cases h100 : 100 < ops.length
    · rw [if_pos h100] at hE
      rw [hE]
      have h1' : (100 : Int) < (ops.length : Int) := by omega
      clear hE
      go_enter Try.func35, Try.ntmps35
      go_wp2_with fail
      rw [HW.out]
      refine c0.mono ?_
      rintro _ w1 ⟨rfl, f1⟩
      obtain ⟨k0, k1, k2, k3, z0, z1, z2, z3⟩ := (HB2.out.fr f1).four
      have HB := hideP (HB2.out.fr f1)
      have HF : Hid (Fr w w1) := HF0.out.trans f1
      clear f1 c0
      go_wp2_with fail
      refine bodyPost_ret (v := .tuple #[.agg #[.slice none 0 0, .slice none 0 0, .slice none 0 0, .slice none 0 0], .int .i64 (2 : Int)]) ?_ rfl ?_
      · obtain ⟨q0, q1, q2, q3, _, _, _, _⟩ := (HB.out.put4 (.slice none 0 0) (.slice none 0 0) (.slice none 0 0) (.slice none 0 0)).four
        change (results Try.f35 _).run Try.prog (pt4 w1 _ _ _ _ _) = .ok _ (pt4 w1 _ _ _ _ _)
        simp [results, Try.results35, go_sem, q0, q1, q2, q3]
      · exact ⟨_, _, _, _, rfl, isS_none _, newD_nil _, newD_nil _, HF.out.put4 _ (by omega) _ _ _ _⟩
    · rw [if_neg h100] at hE
      have h1' : ¬ (100 : Int) < (ops.length : Int) := by omega
      have hda := hs.da.len
      have hdb := hs.da.many
      have hja := hs.jo.len
      have hjb := hs.jo.many
      have cd := fun W (f : Fr w W) => copied_any _ _ s.da W (hr.1.fr f) (by omega) (by omega)
      have cj := fun W (f : Fr w W) => copied_any _ _ s.jo W (hr.2.fr f) (by omega) (by omega)
      have HS := hideP hs
      have HE := hideP hE
      rw [hE]
      clear hE hs hr
      go_enter Try.func35, Try.ntmps35
      go_wp2_with fail
      rw [HW.out]
      refine c0.mono ?_
      rintro _ w1 ⟨rfl, f1⟩
      have hS : w1.cell? ⟨w.heap.size, 0, none⟩ = some (.slice ap np cp) ∧ w1.cell? ⟨w.heap.size, 1, none⟩ = some (.slice aq nq cq) ∧ w1.cell? ⟨w.heap.size, 2, none⟩ = some (.slice aP nP cP) ∧ w1.cell? ⟨w.heap.size, 3, none⟩ = some (.slice aQ nQ cQ) := by
        obtain ⟨k0, k1, k2, k3, _, _, _, _⟩ := (HB0.out.fr f1).four
        exact ⟨k0, k1, k2, k3⟩
      have HSS := hideP hS
      have HB := hideP (HB2.out.fr f1)
      have HF : Hid (Fr w w1) := HF0.out.trans f1
      clear f1 c0 hS
      go_upto_region 6 with fail
      go_cut [7] from 22 to 28 (fun s7 wx => ∃ N p' q' P' Q', s7 = .pointer (some ⟨N, 0, none⟩) ∧ Nw w N p' q' P' Q' s wx)
      case first =>
        have hz := Fr.drew (Fr.refl w1)
        have hlt1 : w.heap.size + 1 < w1.heap.size := HB.out.lt
        go_region_held3 (fun W => W.cell? ⟨w.heap.size, 0, none⟩ = some (.slice ap np cp) ∧ W.cell? ⟨w.heap.size, 1, none⟩ = some (.slice aq nq cq) ∧ W.cell? ⟨w.heap.size, 2, none⟩ = some (.slice aP nP cP) ∧ W.cell? ⟨w.heap.size, 3, none⟩ = some (.slice aQ nQ cQ)) (first | exact HSS.out | assumption | exact s4_after hz HSS.out | exact s4_after (Fr.alloc hz _) HSS.out | exact s4_after (Fr.drew (Fr.alloc (Fr.refl w1) _)) HSS.out | exact s4_after (Fr.after f2 (Fr.drew (Fr.alloc (Fr.refl w1) _))) HSS.out | exact s4_after (Fr.after f3 (Fr.after f2 (Fr.drew (Fr.alloc (Fr.refl w1) _)))) HSS.out | exact s4_after (Fr.after f2 hz) HSS.out | exact s4_after (Fr.after f2 (Fr.alloc hz _)) HSS.out | exact s4_after (Fr.alloc (Fr.after f2 hz) _) HSS.out | exact s4_after (Fr.after f3 (Fr.after f2 hz)) HSS.out | exact s4_after (Fr.after f3 (Fr.after f2 (Fr.alloc hz _))) HSS.out | exact s4_after (Fr.after f3 (Fr.alloc (Fr.after f2 hz) _)) HSS.out | exact s4_after (Fr.alloc (Fr.after f3 (Fr.after f2 hz)) _) HSS.out | exact s4_set4 HSS.out (Fr.after f3 (Fr.after f2 (Fr.alloc hz _))) (by omega) | exact s4_set4 HSS.out (Fr.after f3 (Fr.after f2 (Fr.drew (Fr.alloc (Fr.refl w1) _)))) (by omega) | exact s4_set4 HSS.out (Fr.after f3 (Fr.alloc (Fr.after f2 hz) _)) (by omega)) (first
          | (go_at_call 65; refine (cd _ (by first | exact Fr.drew HF.out | exact Fr.alloc (Fr.drew HF.out) _ | exact Fr.drew (Fr.alloc HF.out _))).mono ?_; clear cd; rintro _ w2 ⟨v1, v2, rfl, ho1, f2⟩; obtain ⟨a1, n1, c1, rfl⟩ := own_slice' ho1.pg; obtain ⟨a2, n2, c2, rfl⟩ := own_slice' ho1.wt; have HO1 := hideP ho1; clear ho1; have hlt2 : w.heap.size + 1 < w2.heap.size := (by have hh := f2.size; simp at hh; omega); (first | (have HN1 : Hid (Blk w2 w1.heap.size #[.slice none 0 0, .slice none 0 0, .slice none 0 0, .slice none 0 0] 46) := (Blk.new w1.drew #[.slice none 0 0, .slice none 0 0, .slice none 0 0, .slice none 0 0] 46).fr f2) | (have HN1 : Hid (Blk w2 w1.heap.size #[.slice none 0 0, .slice none 0 0, .slice none 0 0, .slice none 0 0] 46) := ((Blk.new w1 #[.slice none 0 0, .slice none 0 0, .slice none 0 0, .slice none 0 0] 46).fr (Fr.drew (Fr.refl _))).fr f2) | skip))
          | (go_at_call 65; refine (cj _ (by first | exact Fr.after f2 (Fr.drew HF.out) | exact Fr.after f2 (Fr.alloc (Fr.drew HF.out) _) | exact Fr.after f2 (Fr.drew (Fr.alloc HF.out _)) | exact Fr.alloc (Fr.after f2 (Fr.drew HF.out)) _)).mono ?_; clear cj; rintro _ w3 ⟨v3, v4, rfl, ho2, f3⟩; obtain ⟨a3, n3, c3, rfl⟩ := own_slice' ho2.pg; obtain ⟨a4, n4, c4, rfl⟩ := own_slice' ho2.wt; have HO2 := hideP ho2; clear ho2; (first | (have HN2 := hideP (HN1.out.fr f3)) | (have HN2 := hideP ((Blk.new w2 #[.slice none 0 0, .slice none 0 0, .slice none 0 0, .slice none 0 0] 46).fr f3)) | skip); (first | (obtain ⟨g0, g1, g2, g3, y0, y1, y2, y3⟩ := HN2.out.four) | skip)))
        all_goals (go_wp2_with fail; go_meet)
        all_goals first
          | exact ⟨_, _, _, _, _, rfl, nw_last HF.out HB.out (Fr.after f2 hz) f3 HO1.out HO2.out⟩
          | exact ⟨_, _, _, _, _, rfl, nw_mid HF.out HB.out (Fr.after f2 hz) f3 HO1.out HO2.out HN2.out⟩
          | exact ⟨_, _, _, _, _, rfl, nw_set HF.out HB.out (Fr.after f2 (Fr.alloc hz _)) f3 (OwnD.low HO1.out (Fr.size (Fr.alloc hz _))) HO2.out HN2.out (Nat.le_refl _)⟩
          | exact ⟨_, _, _, _, _, rfl, nw_set HF.out HB.out (Fr.after f2 (Fr.drew (Fr.alloc (Fr.refl w1) _))) f3 (OwnD.low HO1.out (Fr.size (Fr.drew (Fr.alloc (Fr.refl w1) _)))) HO2.out HN2.out (Nat.le_refl _)⟩
      case rest =>
        obtain ⟨N, p', q', P', Q', rfl, hnw⟩ := hcut
        have HNW := hideP hnw
        generalize hfin : JN.playO s ops = fin
        have HFin := hideP hfin
        clear hnw hfin HSS
        go_wp2_with fail
        go_loopw [9, 10, 11, 31] (fun _ _ _ iv wr => ∃ (i : Nat) (p' q' P' Q' : Value) (t : JN.S), iv = .int .i64 i ∧ i ≤ ops.length ∧ JN.OkS t ∧ fin = JN.playO t (ops.drop i) ∧ Nw w N p' q' P' Q' t wr) (fun _ _ _ iv _ => ops.length - (intOf iv).toNat)
        case atStart => exact ⟨0, p', q', P', Q', s, rfl, Nat.zero_le _, HS.out, HFin.out.symm, HNW.out⟩
        case round =>
          clear HNW
          obtain ⟨i, p', q', P', Q', t, rfl, hi, hok, hall, hnw⟩ := hrel
          obtain ⟨ap', np', cp', rfl⟩ := hnw.s.1.1.slice
          obtain ⟨aq', nq', cq', rfl⟩ := hnw.s.1.2.slice
          obtain ⟨aP', nP', cP', rfl⟩ := hnw.s.2.1.slice
          obtain ⟨aQ', nQ', cQ', rfl⟩ := hnw.s.2.2.slice
          by_cases hlt : i < ops.length
          · obtain ⟨b, ofs, rfl, hb, hc⟩ : ∃ b o, av = some ⟨b, o, none⟩ ∧ b < w.heap.size ∧ At cdO w b o ops := by
              rcases HC.out with h | h
              · subst h; simp at hlt
              · exact h
            obtain ⟨c0, c1, c2⟩ := (hc.fr hb hnw.f).op i hlt
            rw [List.drop_eq_getElem_cons hlt, JN.playO] at hall
            generalize hx : ops[i] = x at c0 c1 c2 hall
            have hcall := fun W (f : Fr wr W) => played_any _ _ _ _ t x W (hnw.s.fr f) (by have := hok.da.len; omega) (by have := hok.jo.len; omega)
            have hop := fun h => JN.op_ok (o := x) hok h
            obtain ⟨k, no, tx⟩ := x
            simp only at c0 c1 c2 hcall
            have bN := hnw.n.old (.cells #[.int .i64 k, .int .i64 no, .string tx] 84)
            obtain ⟨k0, k1, k2, k3, _, _, _, _⟩ := bN.four
            have hc2 := hcall _ ((Fr.refl wr).alloc (.cells #[.int .i64 k, .int .i64 no, .string tx] 84))
            generalize hr2 : JN.opS t ⟨k, no, tx⟩ = r2 at hc2 hall hop
            have HA := hideP hall
            have HNW := hideP hnw
            have HOp := hideP hop
            clear hall hnw hop hcall hc hx bN hr2 hok
            go_wp2_with fail
            refine hc2.mono ?_
            rintro _ w2 ⟨p2, q2, P2, Q2, rfl, hs2, r1, r3, f2⟩
            obtain ⟨a1, n1, c1', rfl⟩ := hs2.1.1.slice
            obtain ⟨a2, n2, c2', rfl⟩ := hs2.1.2.slice
            obtain ⟨a3, n3, c3', rfl⟩ := hs2.2.1.slice
            obtain ⟨a4, n4, c4', rfl⟩ := hs2.2.2.slice
            have fw : Fr wr w2 := ((Fr.refl wr).alloc _).trans f2
            have hNl : N < wr.heap.size := HNW.out.n.lt
            have bn2 : Blk (w2.alloc (.cells #[.slice a1 n1 c1', .slice a2 n2 c2', .slice a3 n3 c3', .slice a4 n4 c4'] 46)) N #[.slice ap' np' cp', .slice aq' nq' cq', .slice aP' nP' cP', .slice aQ' nQ' cQ'] 46 := (HNW.out.n.fr fw).old _
            have br2 : Blk (w2.alloc (.cells #[.slice a1 n1 c1', .slice a2 n2 c2', .slice a3 n3 c3', .slice a4 n4 c4'] 46)) (w.heap.size + 1) #[.slice none 0 0, .slice none 0 0, .slice none 0 0, .slice none 0 0] 46 := (HNW.out.r.fr fw).old _
            have fw2 : Fr w (w2.alloc (.cells #[.slice a1 n1 c1', .slice a2 n2 c2', .slice a3 n3 c3', .slice a4 n4 c4'] 46)) := (HNW.out.f.trans fw).alloc _
            have hs3 := hs2.fr ((Fr.refl w2).alloc (.cells #[.slice a1 n1 c1', .slice a2 n2 c2', .slice a3 n3 c3', .slice a4 n4 c4'] 46))
            have o1 : OffD N (.slice a1 n1 c1') (.slice a2 n2 c2') := by
              rcases r1 with ⟨e1, e2⟩ | h
              · rw [e1, e2]; exact HNW.out.od
              · exact h.off (by simp; omega)
            have o2 : OffD N (.slice a3 n3 c3') (.slice a4 n4 c4') := by
              rcases r3 with ⟨e1, e2⟩ | h
              · rw [e1, e2]; exact HNW.out.oj
              · exact h.off (by simp; omega)
            have m1 : NewD (w.heap.size + 1 + 1) (.slice a1 n1 c1') (.slice a2 n2 c2') := by
              rcases r1 with ⟨e1, e2⟩ | h
              · rw [e1, e2]; exact HNW.out.nd
              · exact h.low (by have := HNW.out.r.lt; simp; omega)
            have m2 : NewD (w.heap.size + 1 + 1) (.slice a3 n3 c3') (.slice a4 n4 c4') := by
              rcases r3 with ⟨e1, e2⟩ | h
              · rw [e1, e2]; exact HNW.out.nj
              · exact h.low (by have := HNW.out.r.lt; simp; omega)
            have HAll : Hid (_ ∧ _ ∧ _ ∧ _ ∧ _) := ⟨hs3, o1, o2, m1, m2⟩
            have HBn := hideP bn2
            have HBr := hideP br2
            have HFw := hideP fw2
            have hNe := HNW.out.ne
            obtain ⟨j0, j1, j2, j3, x0, x1, x2, x3⟩ := bn2.four
            obtain ⟨l0, l1, l2, l3, y0, y1, y2, y3⟩ := br2.four
            clear hs2 hs3 r1 r3 f2 fw o1 o2 m1 m2 bn2 br2 fw2 hc2 k0 k1 k2 k3 HNW
            by_cases he : r2.2 = 0
            · have HA' := hideP (HA.out.trans (if_pos he))
              have HOk := hideP (HOp.out he).1
              rw [he]
              go_wp2_with fail
              go_roundw
              case rel => exact ⟨i + 1, _, _, _, _, r2.1, by go_num, by omega, HOk.out, HA'.out, ⟨HBn.out.put4 _ _ _ _, HBr.out.oput4 (by omega) _ _ _ _, ⟨HAll.out.1.1.put4 HAll.out.2.1 _ _ _ _, HAll.out.1.2.put4 HAll.out.2.2.1 _ _ _ _⟩, HAll.out.2.1, HAll.out.2.2.1, HAll.out.2.2.2.1, HAll.out.2.2.2.2, HFw.out.put4 _ (by omega) _ _ _ _, hNe⟩⟩
              case measure => simp [intOf]; omega
            · have HA' := hideP (HA.out.trans (if_neg he))
              have hne : ((r2.2 : Int) != 0) = true := by simp; omega
              have hne2 : ¬ ((r2.2 : Int) = 0) := by omega
              generalize r2.2 = y at hne hne2 HA' ⊢
              go_wp2_with fail
              refine bodyPost_ret (v := .tuple #[.agg #[.slice none 0 0, .slice none 0 0, .slice none 0 0, .slice none 0 0], .int .i64 (y : Int)]) ?_ rfl ?_
              · obtain ⟨q0, q1, q2, q3, _, _, _, _⟩ := (HBr.out.put4 (.slice none 0 0) (.slice none 0 0) (.slice none 0 0) (.slice none 0 0)).four
                change (results Try.f35 _).run Try.prog (pt4 (w2.alloc _) _ _ _ _ _) = .ok _ (pt4 (w2.alloc _) _ _ _ _ _)
                simp [results, Try.results35, go_sem, q0, q1, q2, q3]
              · rw [HFin.out, HA'.out]
                exact ⟨_, _, _, _, rfl, isS_none _, newD_nil _, newD_nil _, HFw.out.put4 _ (by omega) _ _ _ _⟩
          · have hfin2 : fin = (t, 0) := by rw [hall, List.drop_of_length_le (by omega)]; rfl
            obtain ⟨k0, k1, k2, k3, _, _, _, _⟩ := hnw.n.four
            obtain ⟨l0, l1, l2, l3, y0, y1, y2, y3⟩ := hnw.r.four
            have HNW := hideP hnw
            have HFn := hideP hfin2
            clear hall hnw hfin2 hok
            go_wp2_with fail
            refine bodyPost_ret (v := .tuple #[.agg #[.slice ap' np' cp', .slice aq' nq' cq', .slice aP' nP' cP', .slice aQ' nQ' cQ'], .int .i64 (0 : Int)]) ?_ rfl ?_
            · obtain ⟨q0, q1, q2, q3, _, _, _, _⟩ := (HNW.out.r.put4 (.slice ap' np' cp') (.slice aq' nq' cq') (.slice aP' nP' cP') (.slice aQ' nQ' cQ')).four
              change (results Try.f35 _).run Try.prog (pt4 wr _ _ _ _ _) = .ok _ (pt4 wr _ _ _ _ _)
              simp [results, Try.results35, go_sem, q0, q1, q2, q3]
            · rw [HFin.out, HFn.out]
              exact ⟨_, _, _, _, rfl, ⟨HNW.out.s.1.put4 (HNW.out.nd.off (by omega)) _ _ _ _, HNW.out.s.2.put4 (HNW.out.nj.off (by omega)) _ _ _ _⟩, HNW.out.nd.low (by omega), HNW.out.nj.low (by omega), HNW.out.f.put4 _ (by omega) _ _ _ _⟩
  · rw [if_neg h0] at hE
    rw [hE]
    have hne : ((y : Int) != 0) = true := by simp; omega
    have hne2 : ¬ ((y : Int) = 0) := by omega
    clear hE hok
    go_enter Try.func35, Try.ntmps35
    go_wp2_with fail
    rw [HW.out]
    refine c0.mono ?_
    rintro _ w1 ⟨rfl, f1⟩
    obtain ⟨k0, k1, k2, k3, z0, z1, z2, z3⟩ := (HB2.out.fr f1).four
    have HB := hideP (HB2.out.fr f1)
    have HF : Hid (Fr w w1) := HF0.out.trans f1
    clear f1 c0
    go_wp2_with fail
    refine bodyPost_ret (v := .tuple #[.agg #[.slice none 0 0, .slice none 0 0, .slice none 0 0, .slice none 0 0], .int .i64 (y : Int)]) ?_ rfl ?_
    · obtain ⟨q0, q1, q2, q3, _, _, _, _⟩ := (HB.out.put4 (.slice none 0 0) (.slice none 0 0) (.slice none 0 0) (.slice none 0 0)).four
      change (results Try.f35 _).run Try.prog (pt4 w1 _ _ _ _ _) = .ok _ (pt4 w1 _ _ _ _ _)
      simp [results, Try.results35, go_sem, q0, q1, q2, q3]
    · exact ⟨_, _, _, _, rfl, isS_none _, newD_nil _, newD_nil _, HF.out.put4 _ (by omega) _ _ _ _⟩
end Go.Proofs.Ytklldfkaihpkiaa
