/-
  What isText, truthOf, told and truthIf of package eval answer.
-/
import Derived.Test.YtbcfdhimngoplaaGreatDoorExP
import Derived.Test.YtbcfdhimngoplaaGreatDoorGpB
namespace Go.Proofs.YtbcfdhimngoplaaGreatDoor
open Go.ChangeShapes Go.WideShapes Go.ChangeAt Go.RowKit
set_option linter.unusedVariables false
set_option linter.unusedSimpArgs false
set_option maxRecDepth 100000
set_option maxHeartbeats 2000000
def put3 (w : World) (b : Nat) (x y z : Value) : World := ((w.setCell ⟨b, 0, none⟩ x).setCell ⟨b, 1, none⟩ y).setCell ⟨b, 2, none⟩ z
theorem Blk.put3 {w : World} {b : Nat} {x y z : Value} {T : TypeId} (h : Blk w b #[x, y, z] T) (x' y' z' : Value) : Blk (put3 w b x' y' z') b #[x', y', z'] T := by
 have := ((h.set 0 x').set 1 y').set 2 z'
 simpa [Go.Proofs.YtbcfdhimngoplaaGreatDoor.put3] using this
theorem Fr.setC {a b : World} (h : Fr a b) (p : Nat) (i : Nat) (u : Value) (hp : a.heap.size ≤ p) : Fr a (b.setCell ⟨p, i, none⟩ u) := Below.setCell h hp _
theorem Fr.put3 {a w : World} (h : Fr a w) (b : Nat) (hb : a.heap.size ≤ b) (x y z : Value) : Fr a (put3 w b x y z) := ((h.setC b 0 x hb).setC b 1 y hb).setC b 2 z hb
namespace EV
open VM
def isT (v : Vl) : Bool := decide (v.k = 2) || decide (v.k = 3)
def tr (v : Vl) : Except Nat Int := if isT v = true then .error 7 else if v.k = 0 then .ok 1 else if v.n = 0 then .ok 0 else .ok 2
def vt (t : Int) : Vl := if t = 2 then ⟨1, 1, ⟨#[]⟩⟩ else if t = 0 then ⟨1, 0, ⟨#[]⟩⟩ else EX.nul
end EV
def vlV (v : VM.Vl) : Value := .agg #[.int .i64 v.k, .int .i64 v.n, .string v.s]
def exT (e : Except Nat Int) : Value := match e with
 | .ok x => .tuple #[.int .i64 x, .int .i64 0]
 | .error c => .tuple #[.int .i64 0, .int .i64 (c : Int)]
def exV (e : Except Nat VM.Vl) : Value := match e with
 | .ok x => .tuple #[vlV x, .int .i64 0]
 | .error c => .tuple #[vlV EX.nul, .int .i64 (c : Int)]
theorem isText_any (v : VM.Vl) (w : World) : Calls Tryz.prog 85 #[vlV v] w fun e w' => e = .returned (.bool (EV.isT v)) ∧ Fr w w' := by
 obtain ⟨k, n, s⟩ := v
 unfold EV.isT vlV
 simp only
 by_cases h2 : k = 2
 ·
  subst h2
  go_enter Tryz.func85, Tryz.ntmps85
  go_wp2_with fail
  go_ret
  exact ⟨rfl, (Fr.refl w).alloc _⟩
 ·
  have e2 : (k == 2) = false := by simpa using h2
  by_cases h3 : k = 3
  ·
   subst h3
   clear h2 e2
   go_enter Tryz.func85, Tryz.ntmps85
   go_wp2_with fail
   go_ret
   exact ⟨rfl, (Fr.refl w).alloc _⟩
  ·
   have e3 : (k == 3) = false := by simpa using h3
   rw [decide_eq_false h2, decide_eq_false h3]
   go_enter Tryz.func85, Tryz.ntmps85
   go_wp2_with fail
   go_ret
   exact ⟨rfl, (Fr.refl w).alloc _⟩
theorem truthOf_any (v : VM.Vl) (w : World) : Calls Tryz.prog 64 #[vlV v] w fun e w' => e = .returned (exT (EV.tr v)) ∧ Fr w w' := by
 have ci := fun W => isText_any v W
 have HT : Hid (EV.tr v = if EV.isT v = true then .error 7 else if v.k = 0 then .ok 1 else if v.n = 0 then .ok 0 else .ok 2) := rfl
 generalize EV.tr v = R at *
 generalize EV.isT v = it at *
 obtain ⟨k, n, s⟩ := v
 simp only [vlV] at *
 have HB := hideP (Blk.new w #[.int .i64 k, .int .i64 n, .string s] 56)
 have F0 := hideP ((Fr.refl w).alloc (.cells #[.int .i64 k, .int .i64 n, .string s] 56))
 cases it with
 | true =>
  replace HT := hideP (HT.out.trans (if_pos rfl))
  rw [HT.out]
  go_enter Tryz.func64, Tryz.ntmps64
  go_wp2_with fail
  refine (ci _).mono ?_
  rintro _ w1 ⟨rfl, f1⟩
  go_wp2_with fail
  go_ret2
  exact ⟨rfl, F0.out.trans f1⟩
 | false =>
  replace HT := hideP (HT.out.trans (if_neg (by decide)))
  by_cases h0 : k = 0
  ·
   replace HT := hideP (HT.out.trans (if_pos h0))
   rw [HT.out]
   subst h0
   go_enter Tryz.func64, Tryz.ntmps64
   go_wp2_with fail
   refine (ci _).mono ?_
   rintro _ w1 ⟨rfl, f1⟩
   have q0 := (HB.out.fr f1).cell 0 rfl
   go_wp2_with fail
   go_ret2
   exact ⟨rfl, F0.out.trans f1⟩
  ·
   have e0 : (k == 0) = false := by simpa using h0
   replace HT := hideP (HT.out.trans (if_neg h0))
   by_cases h1 : n = 0
   ·
    replace HT := hideP (HT.out.trans (if_pos h1))
    rw [HT.out]
    subst h1
    go_enter Tryz.func64, Tryz.ntmps64
    go_wp2_with fail
    refine (ci _).mono ?_
    rintro _ w1 ⟨rfl, f1⟩
    have q0 := (HB.out.fr f1).cell 0 rfl
    have q1 := (HB.out.fr f1).cell 1 rfl
    go_wp2_with fail
    go_ret2
    exact ⟨rfl, F0.out.trans f1⟩
   ·
    have e1 : (n == 0) = false := by simpa using h1
    replace HT := hideP (HT.out.trans (if_neg h1))
    rw [HT.out]
    go_enter Tryz.func64, Tryz.ntmps64
    go_wp2_with fail
    refine (ci _).mono ?_
    rintro _ w1 ⟨rfl, f1⟩
    have q0 := (HB.out.fr f1).cell 0 rfl
    have q1 := (HB.out.fr f1).cell 1 rfl
    go_wp2_with fail
    go_ret2
    exact ⟨rfl, F0.out.trans f1⟩
theorem truthIf_any (b : Bool) (w : World) : Calls Tryz.prog 117 #[.bool b] w fun e w' => e = .returned (.int .i64 (if b = true then 2 else 0)) ∧ w' = w := by
 cases b
 all_goals (
  go_enter Tryz.func117, Tryz.ntmps117
  go_wp2_with fail
  go_ret
  exact ⟨rfl, rfl⟩)
theorem told_err (t : Int) (c : Nat) (hc : c ≠ 0) (w : World) : Calls Tryz.prog 97 #[.int .i64 t, .int .i64 (c : Int)] w fun e w' => e = .returned (.tuple #[.agg #[.int .i64 0, .int .i64 0, .string ⟨#[]⟩], .int .i64 (c : Int)]) ∧ Fr w w' := by
 obtain ⟨W0, hW0⟩ : ∃ W0, w.alloc (.cells #[.int .i64 0, .int .i64 0, .string ⟨#[]⟩] 56) = W0 := ⟨_, rfl⟩
 have b1 : Blk W0 w.heap.size #[.int .i64 0, .int .i64 0, .string ⟨#[]⟩] 56 := by rw [← hW0]; exact Blk.new w _ _
 have f0 : Fr w W0 := by rw [← hW0]; exact (Fr.refl w).alloc _
 have v0 := b1.cell 0 rfl
 have v1 := b1.cell 1 rfl
 have v2 := b1.cell 2 rfl
 have y0 := b1.frozen 0
 have y1 := b1.frozen 1
 have y2 := b1.frozen 2
 have HB1 := hideP b1
 have HF0 := hideP f0
 clear b1 f0
 have e1 : ((c : Int) != 0) = true := by simp; omega
 have e2 : ¬ ((c : Int) = 0) := by omega
 go_enter Tryz.func97, Tryz.ntmps97
 go_wp2_with fail
 refine bodyPost_ret (v := .tuple #[.agg #[.int .i64 0, .int .i64 0, .string ⟨#[]⟩], .int .i64 (c : Int)]) ?_ rfl ⟨rfl, HF0.out.put3 w.heap.size (Nat.le_refl _) _ _ _⟩
 obtain ⟨r0, r1, r2⟩ : (put3 W0 w.heap.size (.int .i64 0) (.int .i64 0) (.string ⟨#[]⟩)).cell? ⟨w.heap.size, 0, none⟩ = _ ∧ (put3 W0 w.heap.size (.int .i64 0) (.int .i64 0) (.string ⟨#[]⟩)).cell? ⟨w.heap.size, 1, none⟩ = _ ∧ (put3 W0 w.heap.size (.int .i64 0) (.int .i64 0) (.string ⟨#[]⟩)).cell? ⟨w.heap.size, 2, none⟩ = _ := ⟨(HB1.out.put3 _ _ _).cell 0 rfl, (HB1.out.put3 _ _ _).cell 1 rfl, (HB1.out.put3 _ _ _).cell 2 rfl⟩
 change (results Tryz.f97 _).run Tryz.prog (put3 W0 _ _ _ _) = .ok _ (put3 W0 _ _ _ _)
 simp [results, Tryz.results97, go_sem, r0, r1, r2]
theorem told_two (w : World) : Calls Tryz.prog 97 #[.int .i64 2, .int .i64 0] w fun e w' => e = .returned (.tuple #[.agg #[.int .i64 1, .int .i64 1, .string ⟨#[]⟩], .int .i64 0]) ∧ Fr w w' := by
 obtain ⟨W0, hW0⟩ : ∃ W0, w.alloc (.cells #[.int .i64 0, .int .i64 0, .string ⟨#[]⟩] 56) = W0 := ⟨_, rfl⟩
 have b1 : Blk W0 w.heap.size #[.int .i64 0, .int .i64 0, .string ⟨#[]⟩] 56 := by rw [← hW0]; exact Blk.new w _ _
 have f0 : Fr w W0 := by rw [← hW0]; exact (Fr.refl w).alloc _
 have v0 := b1.cell 0 rfl
 have v1 := b1.cell 1 rfl
 have v2 := b1.cell 2 rfl
 have y0 := b1.frozen 0
 have y1 := b1.frozen 1
 have y2 := b1.frozen 2
 have HB1 := hideP b1
 have HF0 := hideP f0
 clear b1 f0
 go_enter Tryz.func97, Tryz.ntmps97
 go_wp2_with fail
 refine bodyPost_ret (v := .tuple #[.agg #[.int .i64 1, .int .i64 1, .string ⟨#[]⟩], .int .i64 0]) ?_ rfl ⟨rfl, HF0.out.put3 w.heap.size (Nat.le_refl _) _ _ _⟩
 obtain ⟨r0, r1, r2⟩ : (put3 W0 w.heap.size (.int .i64 1) (.int .i64 1) (.string ⟨#[]⟩)).cell? ⟨w.heap.size, 0, none⟩ = _ ∧ (put3 W0 w.heap.size (.int .i64 1) (.int .i64 1) (.string ⟨#[]⟩)).cell? ⟨w.heap.size, 1, none⟩ = _ ∧ (put3 W0 w.heap.size (.int .i64 1) (.int .i64 1) (.string ⟨#[]⟩)).cell? ⟨w.heap.size, 2, none⟩ = _ := ⟨(HB1.out.put3 _ _ _).cell 0 rfl, (HB1.out.put3 _ _ _).cell 1 rfl, (HB1.out.put3 _ _ _).cell 2 rfl⟩
 change (results Tryz.f97 _).run Tryz.prog (put3 W0 _ _ _ _) = .ok _ (put3 W0 _ _ _ _)
 simp [results, Tryz.results97, go_sem, r0, r1, r2]
theorem told_zero (w : World) : Calls Tryz.prog 97 #[.int .i64 0, .int .i64 0] w fun e w' => e = .returned (.tuple #[.agg #[.int .i64 1, .int .i64 0, .string ⟨#[]⟩], .int .i64 0]) ∧ Fr w w' := by
 obtain ⟨W0, hW0⟩ : ∃ W0, w.alloc (.cells #[.int .i64 0, .int .i64 0, .string ⟨#[]⟩] 56) = W0 := ⟨_, rfl⟩
 have b1 : Blk W0 w.heap.size #[.int .i64 0, .int .i64 0, .string ⟨#[]⟩] 56 := by rw [← hW0]; exact Blk.new w _ _
 have f0 : Fr w W0 := by rw [← hW0]; exact (Fr.refl w).alloc _
 have v0 := b1.cell 0 rfl
 have v1 := b1.cell 1 rfl
 have v2 := b1.cell 2 rfl
 have y0 := b1.frozen 0
 have y1 := b1.frozen 1
 have y2 := b1.frozen 2
 have HB1 := hideP b1
 have HF0 := hideP f0
 clear b1 f0
 go_enter Tryz.func97, Tryz.ntmps97
 go_wp2_with fail
 refine bodyPost_ret (v := .tuple #[.agg #[.int .i64 1, .int .i64 0, .string ⟨#[]⟩], .int .i64 0]) ?_ rfl ⟨rfl, HF0.out.put3 w.heap.size (Nat.le_refl _) _ _ _⟩
 obtain ⟨r0, r1, r2⟩ : (put3 W0 w.heap.size (.int .i64 1) (.int .i64 0) (.string ⟨#[]⟩)).cell? ⟨w.heap.size, 0, none⟩ = _ ∧ (put3 W0 w.heap.size (.int .i64 1) (.int .i64 0) (.string ⟨#[]⟩)).cell? ⟨w.heap.size, 1, none⟩ = _ ∧ (put3 W0 w.heap.size (.int .i64 1) (.int .i64 0) (.string ⟨#[]⟩)).cell? ⟨w.heap.size, 2, none⟩ = _ := ⟨(HB1.out.put3 _ _ _).cell 0 rfl, (HB1.out.put3 _ _ _).cell 1 rfl, (HB1.out.put3 _ _ _).cell 2 rfl⟩
 change (results Tryz.f97 _).run Tryz.prog (put3 W0 _ _ _ _) = .ok _ (put3 W0 _ _ _ _)
 simp [results, Tryz.results97, go_sem, r0, r1, r2]
theorem told_one (t : Int) (h2 : t ≠ 2) (h0 : t ≠ 0) (w : World) : Calls Tryz.prog 97 #[.int .i64 t, .int .i64 0] w fun e w' => e = .returned (.tuple #[.agg #[.int .i64 0, .int .i64 0, .string ⟨#[]⟩], .int .i64 0]) ∧ Fr w w' := by
 obtain ⟨W0, hW0⟩ : ∃ W0, w.alloc (.cells #[.int .i64 0, .int .i64 0, .string ⟨#[]⟩] 56) = W0 := ⟨_, rfl⟩
 have b1 : Blk W0 w.heap.size #[.int .i64 0, .int .i64 0, .string ⟨#[]⟩] 56 := by rw [← hW0]; exact Blk.new w _ _
 have f0 : Fr w W0 := by rw [← hW0]; exact (Fr.refl w).alloc _
 have v0 := b1.cell 0 rfl
 have v1 := b1.cell 1 rfl
 have v2 := b1.cell 2 rfl
 have y0 := b1.frozen 0
 have y1 := b1.frozen 1
 have y2 := b1.frozen 2
 have HB1 := hideP b1
 have HF0 := hideP f0
 clear b1 f0
 have e1 : (t == 2) = false := by simpa using h2
 have e2 : (t == 0) = false := by simpa using h0
 go_enter Tryz.func97, Tryz.ntmps97
 go_wp2_with fail
 refine bodyPost_ret (v := .tuple #[.agg #[.int .i64 0, .int .i64 0, .string ⟨#[]⟩], .int .i64 0]) ?_ rfl ⟨rfl, HF0.out.put3 w.heap.size (Nat.le_refl _) _ _ _⟩
 obtain ⟨r0, r1, r2⟩ : (put3 W0 w.heap.size (.int .i64 0) (.int .i64 0) (.string ⟨#[]⟩)).cell? ⟨w.heap.size, 0, none⟩ = _ ∧ (put3 W0 w.heap.size (.int .i64 0) (.int .i64 0) (.string ⟨#[]⟩)).cell? ⟨w.heap.size, 1, none⟩ = _ ∧ (put3 W0 w.heap.size (.int .i64 0) (.int .i64 0) (.string ⟨#[]⟩)).cell? ⟨w.heap.size, 2, none⟩ = _ := ⟨(HB1.out.put3 _ _ _).cell 0 rfl, (HB1.out.put3 _ _ _).cell 1 rfl, (HB1.out.put3 _ _ _).cell 2 rfl⟩
 change (results Tryz.f97 _).run Tryz.prog (put3 W0 _ _ _ _) = .ok _ (put3 W0 _ _ _ _)
 simp [results, Tryz.results97, go_sem, r0, r1, r2]
theorem told_any (t : Int) (c : Nat) (w : World) : Calls Tryz.prog 97 #[.int .i64 t, .int .i64 (c : Int)] w fun e w' => e = .returned (exV (if c ≠ 0 then .error c else .ok (EV.vt t))) ∧ Fr w w' := by
 by_cases h : c = 0
 ·
  subst h
  rw [if_neg (by simp)]
  by_cases h2 : t = 2
  · subst h2; exact told_two w
  ·
   by_cases h0 : t = 0
   · subst h0; exact told_zero w
   ·
    have e : EV.vt t = EX.nul := by unfold EV.vt; rw [if_neg h2, if_neg h0]
    rw [e]
    exact told_one t h2 h0 w
 ·
  rw [if_pos h]
  exact told_err t c h w
end Go.Proofs.YtbcfdhimngoplaaGreatDoor
