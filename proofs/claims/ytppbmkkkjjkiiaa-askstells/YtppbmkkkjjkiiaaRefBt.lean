/-
  What the document's own BetweenOf answers.
-/
import Derived.Test.YtppbmkkkjjkiiaaRefIn
namespace Go.Proofs.Ytppbmkkkjjkiiaa
open Go.ChangeShapes Go.WideShapes Go.ChangeAt Go.RowKit
set_option linter.unusedVariables false
set_option linter.unusedSimpArgs false

theorem lit_ints2 (W : World) (x y : Int) : IsInts (W.alloc (.cells #[.int .i64 x, .int .i64 y] 3)) (.slice (some ⟨W.heap.size, 0, none⟩) 2 2) [x, y] := by
  refine ⟨_, _, rfl, Nat.le_refl _, Or.inr ⟨W.heap.size, 0, rfl, by simp, ?_⟩⟩
  intro i hi
  match i, hi with
  | 0, _ => simp [go_sem]
  | 1, _ => simp [go_sem]
theorem all_two (x y : Int) : LG.all [x, y] = LG.and x y := by
  show LG.and x (LG.and y 2) = _
  rw [LG.and_two]
  show min (LG.kn x) (LG.kn (LG.kn y)) = _
  rw [LG.kn_kn]
  rfl

/-- three values in memory, one behind the other -/
def Box3 (W : World) (g : Nat) (ak an bk bn ck cn : Int) (sa sb sc : ByteArray) : Prop :=
  W.cell? ⟨g, 0, none⟩ = some (.int .i64 ak) ∧ W.cell? ⟨g, 1, none⟩ = some (.int .i64 an) ∧ W.cell? ⟨g, 2, none⟩ = some (.string sa) ∧ W.cell? ⟨g + 1, 0, none⟩ = some (.int .i64 bk) ∧ W.cell? ⟨g + 1, 1, none⟩ = some (.int .i64 bn) ∧ W.cell? ⟨g + 1, 2, none⟩ = some (.string sb) ∧ W.cell? ⟨g + 1 + 1, 0, none⟩ = some (.int .i64 ck) ∧ W.cell? ⟨g + 1 + 1, 1, none⟩ = some (.int .i64 cn) ∧ W.cell? ⟨g + 1 + 1, 2, none⟩ = some (.string sc)
theorem Box3.fr {W W' : World} {g : Nat} {ak an bk bn ck cn : Int} {sa sb sc : ByteArray} (h : Box3 W g ak an bk bn ck cn sa sb sc) (f : Fr W W') : Box3 W' g ak an bk bn ck cn sa sb sc :=
  ⟨cell_fr f h.1, cell_fr f h.2.1, cell_fr f h.2.2.1, cell_fr f h.2.2.2.1, cell_fr f h.2.2.2.2.1, cell_fr f h.2.2.2.2.2.1, cell_fr f h.2.2.2.2.2.2.1, cell_fr f h.2.2.2.2.2.2.2.1, cell_fr f h.2.2.2.2.2.2.2.2⟩

theorem Box3.al {W : World} {g : Nat} {ak an bk bn ck cn : Int} {sa sb sc : ByteArray} (h : Box3 W g ak an bk bn ck cn sa sb sc) (o : Obj) : Box3 (W.alloc o) g ak an bk bn ck cn sa sb sc :=
  h.fr ((Fr.refl W).alloc o)

theorem lessOf_f (ak an bk bn : Int) (sa sb : ByteArray) (w : World) (ha : sa.size ≤ maxLen) (hb : sb.size ≤ maxLen) :
    Calls Try.prog 27 #[.agg #[.int .i64 ak, .int .i64 an, .string sa], .agg #[.int .i64 bk, .int .i64 bn, .string sb]] w fun e w' => e = .returned (.int .i64 (LG.lto ⟨ak, an, sa⟩ ⟨bk, bn, sb⟩)) ∧ Fr w w' := lessOf_any ⟨ak, an, sa⟩ ⟨bk, bn, sb⟩ w ha hb
theorem all_lit (x y : Int) (W : World) : Calls Try.prog 18 #[.slice (some ⟨W.heap.size, 0, none⟩) 2 2] (W.alloc (.cells #[.int .i64 x, .int .i64 y] 3)) fun e w' => e = .returned (.int .i64 (LG.and x y)) ∧ w' = W.alloc (.cells #[.int .i64 x, .int .i64 y] 3) := by
  have h := truthAll_any _ _ _ (lit_ints2 W x y) (by simp)
  rw [all_two] at h
  exact h

set_option maxRecDepth 100000 in
set_option maxHeartbeats 2000000 in
theorem betweenOf_any (a b c : VM.Vl) (w : World) (ha : a.s.size ≤ maxLen) (hb : b.s.size ≤ maxLen) (hc : c.s.size ≤ maxLen) :
    Calls Try.prog 30 #[a.val, b.val, c.val] w fun e w' => e = .returned (.int .i64 (LG.and (LG.not (LG.lto a b)) (LG.not (LG.lto c a)))) ∧ Fr w w' := by
  obtain ⟨ak, an, sa⟩ := a
  obtain ⟨bk, bn, sb⟩ := b
  obtain ⟨ck, cn, sc⟩ := c
  unfold VM.Vl.val at *
  simp only at ha hb hc ⊢
  have HF0 : Hid (Fr w (((w.alloc (.cells #[.int .i64 ak, .int .i64 an, .string sa] 32)).alloc (.cells #[.int .i64 bk, .int .i64 bn, .string sb] 32)).alloc (.cells #[.int .i64 ck, .int .i64 cn, .string sc] 32))) := (((Fr.refl w).alloc _).alloc _).alloc _
  have a0 : (((w.alloc (.cells #[.int .i64 ak, .int .i64 an, .string sa] 32)).alloc (.cells #[.int .i64 bk, .int .i64 bn, .string sb] 32)).alloc (.cells #[.int .i64 ck, .int .i64 cn, .string sc] 32)).cell? ⟨w.heap.size, 0, none⟩ = some (.int .i64 ak) := by simp [go_sem]
  have a1 : (((w.alloc (.cells #[.int .i64 ak, .int .i64 an, .string sa] 32)).alloc (.cells #[.int .i64 bk, .int .i64 bn, .string sb] 32)).alloc (.cells #[.int .i64 ck, .int .i64 cn, .string sc] 32)).cell? ⟨w.heap.size, 1, none⟩ = some (.int .i64 an) := by simp [go_sem]
  have a2 : (((w.alloc (.cells #[.int .i64 ak, .int .i64 an, .string sa] 32)).alloc (.cells #[.int .i64 bk, .int .i64 bn, .string sb] 32)).alloc (.cells #[.int .i64 ck, .int .i64 cn, .string sc] 32)).cell? ⟨w.heap.size, 2, none⟩ = some (.string sa) := by simp [go_sem]
  have b0 : (((w.alloc (.cells #[.int .i64 ak, .int .i64 an, .string sa] 32)).alloc (.cells #[.int .i64 bk, .int .i64 bn, .string sb] 32)).alloc (.cells #[.int .i64 ck, .int .i64 cn, .string sc] 32)).cell? ⟨w.heap.size + 1, 0, none⟩ = some (.int .i64 bk) := by simp [go_sem]
  have b1 : (((w.alloc (.cells #[.int .i64 ak, .int .i64 an, .string sa] 32)).alloc (.cells #[.int .i64 bk, .int .i64 bn, .string sb] 32)).alloc (.cells #[.int .i64 ck, .int .i64 cn, .string sc] 32)).cell? ⟨w.heap.size + 1, 1, none⟩ = some (.int .i64 bn) := by simp [go_sem]
  have b2 : (((w.alloc (.cells #[.int .i64 ak, .int .i64 an, .string sa] 32)).alloc (.cells #[.int .i64 bk, .int .i64 bn, .string sb] 32)).alloc (.cells #[.int .i64 ck, .int .i64 cn, .string sc] 32)).cell? ⟨w.heap.size + 1, 2, none⟩ = some (.string sb) := by simp [go_sem]
  have c0 : (((w.alloc (.cells #[.int .i64 ak, .int .i64 an, .string sa] 32)).alloc (.cells #[.int .i64 bk, .int .i64 bn, .string sb] 32)).alloc (.cells #[.int .i64 ck, .int .i64 cn, .string sc] 32)).cell? ⟨w.heap.size + 1 + 1, 0, none⟩ = some (.int .i64 ck) := by simp [go_sem]
  have c1 : (((w.alloc (.cells #[.int .i64 ak, .int .i64 an, .string sa] 32)).alloc (.cells #[.int .i64 bk, .int .i64 bn, .string sb] 32)).alloc (.cells #[.int .i64 ck, .int .i64 cn, .string sc] 32)).cell? ⟨w.heap.size + 1 + 1, 1, none⟩ = some (.int .i64 cn) := by simp [go_sem]
  have c2 : (((w.alloc (.cells #[.int .i64 ak, .int .i64 an, .string sa] 32)).alloc (.cells #[.int .i64 bk, .int .i64 bn, .string sb] 32)).alloc (.cells #[.int .i64 ck, .int .i64 cn, .string sc] 32)).cell? ⟨w.heap.size + 1 + 1, 2, none⟩ = some (.string sc) := by simp [go_sem]
  go_enter Try.func30, Try.ntmps30
  go_wp2_with fail
  generalize ((w.alloc (.cells #[.int .i64 ak, .int .i64 an, .string sa] 32)).alloc (.cells #[.int .i64 bk, .int .i64 bn, .string sb] 32)).alloc (.cells #[.int .i64 ck, .int .i64 cn, .string sc] 32) = w1 at *
  have B1 : Box3 w1 w.heap.size ak an bk bn ck cn sa sb sc := ⟨a0, a1, a2, b0, b1, b2, c0, c1, c2⟩
  have HB : Hid (Box3 w1.drew w.heap.size ak an bk bn ck cn sa sb sc) := B1
  clear B1
  go_region_held3 (fun W' => W'.cell? ⟨w.heap.size, 0, none⟩ = some (.int .i64 ak) ∧ W'.cell? ⟨w.heap.size, 1, none⟩ = some (.int .i64 an) ∧ W'.cell? ⟨w.heap.size, 2, none⟩ = some (.string sa) ∧ W'.cell? ⟨w.heap.size + 1, 0, none⟩ = some (.int .i64 bk) ∧ W'.cell? ⟨w.heap.size + 1, 1, none⟩ = some (.int .i64 bn) ∧ W'.cell? ⟨w.heap.size + 1, 2, none⟩ = some (.string sb) ∧ W'.cell? ⟨w.heap.size + 1 + 1, 0, none⟩ = some (.int .i64 ck) ∧ W'.cell? ⟨w.heap.size + 1 + 1, 1, none⟩ = some (.int .i64 cn) ∧ W'.cell? ⟨w.heap.size + 1 + 1, 2, none⟩ = some (.string sc)) (first | exact HB.out | exact Box3.fr HB.out (by assumption) | exact Box3.fr (Box3.fr HB.out (by assumption)) (by assumption) | exact Box3.al (Box3.fr (Box3.fr HB.out (by assumption)) (by assumption)) _) (first
    | (go_at_call 27; refine (lessOf_f _ _ _ _ _ _ _ (by assumption) (by assumption)).mono ?_; rintro e w2 ⟨rfl, hf2⟩)
    | (go_at_call 16; refine (truthNot_any _ _).mono ?_; rintro e w4 ⟨rfl, rfl⟩)
    | (go_at_call 18; refine (all_lit _ _ _).mono ?_; rintro e w6 ⟨rfl, rfl⟩))
  all_goals
    go_wp2_with fail
    go_ret
    exact ⟨rfl, Fr.alloc (by repeat (first | exact Fr.refl _ | assumption | exact HF0.out | exact Fr.drew HF0.out | refine Fr.trans ?_ (by assumption))) _⟩
end Go.Proofs.Ytppbmkkkjjkiiaa
