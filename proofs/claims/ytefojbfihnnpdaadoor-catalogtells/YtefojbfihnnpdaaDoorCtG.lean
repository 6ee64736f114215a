/-
  What markOf and marksOf of package catalog answer.
-/
import Derived.Test.YtefojbfihnnpdaaDoorCtF
import Derived.Test.YtefojbfihnnpdaaDoorCtO
namespace Go.Proofs.YtefojbfihnnpdaaDoor
open Go.ChangeShapes Go.WideShapes Go.ChangeAt Go.RowKit
set_option linter.unusedVariables false
set_option linter.unusedSimpArgs false
set_option maxRecDepth 100000
set_option maxHeartbeats 2000000

theorem markOf_any (so : Bool) (m : Nat) (w : World) : Calls Tryd.prog 40 #[.bool so, .int .u8 m] w fun e w' => e = .returned (.int .u8 (CT.mk so m)) ∧ w' = w := by
  cases so
  · go_enter Tryd.func40, Tryd.ntmps40
    go_wp2_with fail
    go_ret
    exact ⟨rfl, by first | rfl | trivial⟩
  · go_enter Tryd.func40, Tryd.ntmps40
    go_wp2_with fail
    go_ret
    exact ⟨rfl, by first | rfl | trivial⟩
def put3 (w : World) (b : Nat) (x y z : Value) : World := ((w.setCell ⟨b, 0, none⟩ x).setCell ⟨b, 1, none⟩ y).setCell ⟨b, 2, none⟩ z
theorem Blk.put3 {w : World} {b : Nat} {x y z : Value} {T : TypeId} (h : Blk w b #[x, y, z] T) (x' y' z' : Value) : Blk (put3 w b x' y' z') b #[x', y', z'] T := by
  have := ((h.set 0 x').set 1 y').set 2 z'
  simpa [Go.Proofs.YtefojbfihnnpdaaDoor.put3] using this
theorem Fr.setC {a b : World} (h : Fr a b) (p : Nat) (i : Nat) (u : Value) (hp : a.heap.size ≤ p) : Fr a (b.setCell ⟨p, i, none⟩ u) := Below.setCell h hp _
theorem Fr.put3 {a w : World} (h : Fr a w) (b : Nat) (hb : a.heap.size ≤ b) (x y z : Value) : Fr a (put3 w b x y z) := ((h.setC b 0 x hb).setC b 1 y hb).setC b 2 z hb
theorem s3_after {w w' : World} {a b c : Addr} {u v x : Value} (f : Fr w w') (h : w.cell? a = some u ∧ w.cell? b = some v ∧ w.cell? c = some x) : w'.cell? a = some u ∧ w'.cell? b = some v ∧ w'.cell? c = some x :=
  ⟨(Below.cell f (World.block_lt_of_cell? _ _ h.1)).trans h.1, (Below.cell f (World.block_lt_of_cell? _ _ h.2.1)).trans h.2.1, (Below.cell f (World.block_lt_of_cell? _ _ h.2.2)).trans h.2.2⟩
theorem s3_put3 {w : World} {A N i j k : Nat} {u v x p q r : Value} (h : w.cell? ⟨A, i, none⟩ = some u ∧ w.cell? ⟨A, j, none⟩ = some v ∧ w.cell? ⟨A, k, none⟩ = some x) (hne : N ≠ A) :
    (put3 w N p q r).cell? ⟨A, i, none⟩ = some u ∧ (put3 w N p q r).cell? ⟨A, j, none⟩ = some v ∧ (put3 w N p q r).cell? ⟨A, k, none⟩ = some x := by
  have e : ∀ (W : World) (i j : Nat) (z : Value), (W.setCell ⟨N, i, none⟩ z).cell? ⟨A, j, none⟩ = W.cell? ⟨A, j, none⟩ := fun W i j z => World.cell?_setCell_other (w := W) (a := ⟨N, i, none⟩) (b := ⟨A, j, none⟩) (v := z) (fun e => hne (by cases e; rfl))
  simp only [put3, e]
  exact h
theorem marksOf_any (n : ByteArray) (k : Nat) (nn u : Bool) (w : World) (hk : k ≤ 3) :
    Calls Tryd.prog 19 #[.agg #[.string n, .int .i64 k, .bool nn, .bool u]] w fun e w' => e = .returned (.agg #[.int .u8 ((48 + k : Nat) : Int), .int .u8 (CT.mk nn 110), .int .u8 (CT.mk u 117)]) ∧ Fr w w' := by
  have c1 := fun W => markOf_any nn 110 W
  have c2 := fun W => markOf_any u 117 W
  obtain ⟨m1, hm1⟩ : ∃ m1, CT.mk nn 110 = m1 := ⟨_, rfl⟩
  obtain ⟨m2, hm2⟩ : ∃ m2, CT.mk u 117 = m2 := ⟨_, rfl⟩
  rw [hm1] at c1 ⊢
  rw [hm2] at c2 ⊢
  have CM : Hid (∀ W (b : Bool) (m : Int), (b = nn ∧ m = 110 ∨ b = u ∧ m = 117) → Calls Tryd.prog 40 #[.bool b, .int .u8 m] W fun e w' => e = .returned (.int .u8 (CT.mk b m.toNat)) ∧ w' = W) := by
    rintro W b m (⟨rfl, rfl⟩ | ⟨rfl, rfl⟩)
    · exact markOf_any b 110 W
    · exact markOf_any b 117 W
  obtain ⟨W0, hW0⟩ : ∃ W0, (w.alloc (.cells #[.string n, .int .i64 k, .bool nn, .bool u] 44)).alloc (.cells #[.int .u8 0, .int .u8 0, .int .u8 0] 49) = W0 := ⟨_, rfl⟩
  have f0 : Fr w W0 := by rw [← hW0]; exact ((Fr.refl w).alloc _).alloc _
  have b0 : Blk W0 w.heap.size #[.string n, .int .i64 k, .bool nn, .bool u] 44 := by rw [← hW0]; exact (Blk.new w _ _).old _
  have b1 : Blk W0 (w.heap.size + 1) #[.int .u8 0, .int .u8 0, .int .u8 0] 49 := by
    have := Blk.new (w.alloc (.cells #[.string n, .int .i64 k, .bool nn, .bool u] 44)) #[.int .u8 0, .int .u8 0, .int .u8 0] 49
    rw [World.size_alloc, hW0] at this; exact this
  have HF0 := hideP f0
  have HB1 := hideP b1
  have HW := hideP hW0
  have HS3 := hideP (show W0.cell? ⟨w.heap.size, 1, none⟩ = some (.int .i64 k) ∧ W0.cell? ⟨w.heap.size, 2, none⟩ = some (.bool nn) ∧ W0.cell? ⟨w.heap.size, 3, none⟩ = some (.bool u) from ⟨b0.cell 1 rfl, b0.cell 2 rfl, b0.cell 3 rfl⟩)
  have y0 := b1.frozen 0
  have y1 := b1.frozen 1
  have y2 := b1.frozen 2
  have v0 := b1.cell 0 rfl
  have v1 := b1.cell 1 rfl
  have v2 := b1.cell 2 rfl
  have e1 : IntKind.u8.wrap (k : Int) = (k : Int) := by
    simp only [IntKind.wrap, IntKind.signed, IntKind.bits]
    simp
    omega
  have e2 : IntKind.u8.wrap (48 + (k : Int)) = 48 + (k : Int) := by
    simp only [IntKind.wrap, IntKind.signed, IntKind.bits]
    simp
    omega
  have hz := Fr.drew (Fr.refl W0)
  clear f0 b0 b1 c1 c2 hW0
  go_enter Tryd.func19, Tryd.ntmps19
  go_upto_region 1 with fail
  rw [HW.out]
  go_region_held3 (fun W => W.cell? ⟨w.heap.size, 1, none⟩ = some (.int .i64 k) ∧ W.cell? ⟨w.heap.size, 2, none⟩ = some (.bool nn) ∧ W.cell? ⟨w.heap.size, 3, none⟩ = some (.bool u)) (first | exact HS3.out | exact s3_after hz HS3.out | exact s3_put3 HS3.out (by omega)) (first
    | (go_at_call 40; refine (CM.out _ _ _ (by first | exact .inl ⟨rfl, rfl⟩ | exact .inr ⟨rfl, rfl⟩)).mono ?_; rintro _ w5 ⟨rfl, rfl⟩))
  all_goals (
    go_wp2_with fail
    refine bodyPost_ret (v := .agg #[.int .u8 (48 + (k : Int)), .int .u8 m1, .int .u8 m2]) ?_ rfl ?_
    · have bb := HB1.out.put3 (.int .u8 (48 + (k : Int))) (.int .u8 m1) (.int .u8 m2)
      have r0 := bb.cell 0 rfl
      have r1 := bb.cell 1 rfl
      have r2 := bb.cell 2 rfl
      change (results Tryd.f19 _).run Tryd.prog (put3 W0 _ _ _ _).drew = .ok _ (put3 W0 _ _ _ _).drew
      simp [results, Tryd.results19, go_sem, r0, r1, r2]
    · exact ⟨by rw [Int.natCast_add]; rfl, Fr.drew (HF0.out.put3 _ (by omega) _ _ _)⟩)
end Go.Proofs.YtefojbfihnnpdaaDoor
