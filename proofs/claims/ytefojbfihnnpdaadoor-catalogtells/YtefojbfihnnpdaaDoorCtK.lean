/-
  What columnOf of package catalog answers, for every value.
-/
import Derived.Test.YtefojbfihnnpdaaDoorCtL
namespace Go.Proofs.YtefojbfihnnpdaaDoor
open Go.ChangeShapes Go.WideShapes Go.ChangeAt Go.RowKit
set_option linter.unusedVariables false
set_option linter.unusedSimpArgs false
set_option maxRecDepth 100000
set_option maxHeartbeats 4000000

def colV (c : CT.Cl) : Value := .agg #[.string c.n, .int .i64 c.k, .bool c.nn, .bool c.u]
def put4 (w : World) (b : Nat) (x y z u : Value) : World := (((w.setCell ⟨b, 0, none⟩ x).setCell ⟨b, 1, none⟩ y).setCell ⟨b, 2, none⟩ z).setCell ⟨b, 3, none⟩ u
theorem Blk.put4 {w : World} {b : Nat} {x y z u : Value} {T : TypeId} (h : Blk w b #[x, y, z, u] T) (x' y' z' u' : Value) : Blk (put4 w b x' y' z' u') b #[x', y', z', u'] T := by
  have := (((h.set 0 x').set 1 y').set 2 z').set 3 u'
  simpa [Go.Proofs.YtefojbfihnnpdaaDoor.put4] using this
theorem Fr.put4 {a w : World} (h : Fr a w) (b : Nat) (hb : a.heap.size ≤ b) (x y z u : Value) : Fr a (put4 w b x y z u) := (((h.setC b 0 x hb).setC b 1 y hb).setC b 2 z hb).setC b 3 u hb
theorem columnOf_bad1 (xk xn : Int) (xs : ByteArray) (w : World) (h2 : xk ≠ 2) :
    Calls Tryd.prog 42 #[.agg #[.int .i64 xk, .int .i64 xn, .string xs]] w fun e w' => e = .returned (.tuple #[.agg #[.string ⟨#[]⟩, .int .i64 0, .bool false, .bool false], .bool false]) ∧ Fr w w' := by
  obtain ⟨W0, hW0⟩ : ∃ W0, ((w.alloc (.cells #[.int .i64 xk, .int .i64 xn, .string xs] 46)).alloc (.cells #[.string ⟨#[]⟩, .int .i64 0, .bool false, .bool false] 44)).alloc (.cells #[.int .u8 0, .int .u8 0, .int .u8 0] 49) = W0 := ⟨_, rfl⟩
  have f0 : Fr w W0 := by rw [← hW0]; exact (((Fr.refl w).alloc _).alloc _).alloc _
  have b0 : Blk W0 w.heap.size #[.int .i64 xk, .int .i64 xn, .string xs] 46 := by rw [← hW0]; exact ((Blk.new w _ _).old _).old _
  have b1 : Blk W0 (w.heap.size + 1) #[.string ⟨#[]⟩, .int .i64 0, .bool false, .bool false] 44 := by
    have := (Blk.new (w.alloc (.cells #[.int .i64 xk, .int .i64 xn, .string xs] 46)) #[.string ⟨#[]⟩, .int .i64 0, .bool false, .bool false] 44).old (.cells #[.int .u8 0, .int .u8 0, .int .u8 0] 49)
    rw [World.size_alloc, hW0] at this; exact this
  have k0 := b0.cell 0 rfl
  have k2 := b0.cell 2 rfl
  have v0 := b1.cell 0 rfl
  have v1 := b1.cell 1 rfl
  have v2 := b1.cell 2 rfl
  have v3 := b1.cell 3 rfl
  have y0 := b1.frozen 0
  have y1 := b1.frozen 1
  have y2 := b1.frozen 2
  have y3 := b1.frozen 3
  have HB1 := hideP b1
  have HF0 := hideP f0
  clear f0 b0 b1
  have e1 : (xk != 2) = true := by simpa using h2
  go_enter Tryd.func42, Tryd.ntmps42
  go_wp2_with fail
  refine bodyPost_ret (v := .tuple #[.agg #[.string ⟨#[]⟩, .int .i64 0, .bool false, .bool false], .bool false]) ?_ rfl ⟨rfl, HF0.out.put4 (w.heap.size + 1) (by omega) _ _ _ _⟩
  have bb := HB1.out.put4 (.string ⟨#[]⟩) (.int .i64 0) (.bool false) (.bool false)
  have r0 := bb.cell 0 rfl
  have r1 := bb.cell 1 rfl
  have r2 := bb.cell 2 rfl
  have r3 := bb.cell 3 rfl
  change (results Tryd.f42 _).run Tryd.prog (put4 W0 _ _ _ _ _) = .ok _ (put4 W0 _ _ _ _ _)
  simp [results, Tryd.results42, go_sem, r0, r1, r2, r3]
theorem columnOf_bad2 (xn : Int) (xs : ByteArray) (w : World) (hx : xs.size < 3) :
    Calls Tryd.prog 42 #[.agg #[.int .i64 2, .int .i64 xn, .string xs]] w fun e w' => e = .returned (.tuple #[.agg #[.string ⟨#[]⟩, .int .i64 0, .bool false, .bool false], .bool false]) ∧ Fr w w' := by
  obtain ⟨W0, hW0⟩ : ∃ W0, ((w.alloc (.cells #[.int .i64 2, .int .i64 xn, .string xs] 46)).alloc (.cells #[.string ⟨#[]⟩, .int .i64 0, .bool false, .bool false] 44)).alloc (.cells #[.int .u8 0, .int .u8 0, .int .u8 0] 49) = W0 := ⟨_, rfl⟩
  have f0 : Fr w W0 := by rw [← hW0]; exact (((Fr.refl w).alloc _).alloc _).alloc _
  have b0 : Blk W0 w.heap.size #[.int .i64 2, .int .i64 xn, .string xs] 46 := by rw [← hW0]; exact ((Blk.new w _ _).old _).old _
  have b1 : Blk W0 (w.heap.size + 1) #[.string ⟨#[]⟩, .int .i64 0, .bool false, .bool false] 44 := by
    have := (Blk.new (w.alloc (.cells #[.int .i64 2, .int .i64 xn, .string xs] 46)) #[.string ⟨#[]⟩, .int .i64 0, .bool false, .bool false] 44).old (.cells #[.int .u8 0, .int .u8 0, .int .u8 0] 49)
    rw [World.size_alloc, hW0] at this; exact this
  have k0 := b0.cell 0 rfl
  have k2 := b0.cell 2 rfl
  have v0 := b1.cell 0 rfl
  have v1 := b1.cell 1 rfl
  have v2 := b1.cell 2 rfl
  have v3 := b1.cell 3 rfl
  have y0 := b1.frozen 0
  have y1 := b1.frozen 1
  have y2 := b1.frozen 2
  have y3 := b1.frozen 3
  have HB1 := hideP b1
  have HF0 := hideP f0
  clear f0 b0 b1
  have h3 : (xs.size : Int) < 3 := by omega
  go_enter Tryd.func42, Tryd.ntmps42
  go_wp2_with fail
  refine bodyPost_ret (v := .tuple #[.agg #[.string ⟨#[]⟩, .int .i64 0, .bool false, .bool false], .bool false]) ?_ rfl ⟨rfl, HF0.out.put4 (w.heap.size + 1) (by omega) _ _ _ _⟩
  have bb := HB1.out.put4 (.string ⟨#[]⟩) (.int .i64 0) (.bool false) (.bool false)
  have r0 := bb.cell 0 rfl
  have r1 := bb.cell 1 rfl
  have r2 := bb.cell 2 rfl
  have r3 := bb.cell 3 rfl
  change (results Tryd.f42 _).run Tryd.prog (put4 W0 _ _ _ _ _) = .ok _ (put4 W0 _ _ _ _ _)
  simp [results, Tryd.results42, go_sem, r0, r1, r2, r3]
theorem columnOf_bad (x : VM.Vl) (w : World) (hx : x.k ≠ 2 ∨ x.s.size < 3) :
    Calls Tryd.prog 42 #[.agg #[.int .i64 x.k, .int .i64 x.n, .string x.s]] w fun e w' => e = .returned (.tuple #[colV (CT.colA x), .bool (CT.colB x)]) ∧ Fr w w' := by
  have hA : CT.colA x = ⟨⟨#[]⟩, 0, false, false⟩ := by unfold CT.colA; rw [if_neg (by omega)]
  have hB : CT.colB x = false := by
    unfold CT.colB
    rcases hx with h | h
    · rw [decide_eq_false h]; rfl
    · rw [decide_eq_false (show ¬ 3 ≤ x.s.size by omega), Bool.false_and, Bool.and_false]
  rw [hA, hB]
  by_cases h2 : x.k = 2
  · rw [h2]
    exact columnOf_bad2 x.n x.s w (by omega)
  · exact columnOf_bad1 x.k x.n x.s w h2
theorem s4_after {w w' : World} {a b c d : Addr} {u v x y : Value} (f : Fr w w') (h : w.cell? a = some u ∧ w.cell? b = some v ∧ w.cell? c = some x ∧ w.cell? d = some y) : w'.cell? a = some u ∧ w'.cell? b = some v ∧ w'.cell? c = some x ∧ w'.cell? d = some y :=
  ⟨(Below.cell f (World.block_lt_of_cell? _ _ h.1)).trans h.1, (Below.cell f (World.block_lt_of_cell? _ _ h.2.1)).trans h.2.1, (Below.cell f (World.block_lt_of_cell? _ _ h.2.2.1)).trans h.2.2.1, (Below.cell f (World.block_lt_of_cell? _ _ h.2.2.2)).trans h.2.2.2⟩
theorem Fr.after' {a b c : World} (h : Fr b c) (k : Fr a b) : Fr a c := k.trans h
theorem s7_after {w w' : World} {a0 a1 a2 a3 a4 a5 a6 : Addr} {v0 v1 v2 v3 v4 v5 v6 : Value} (f : Fr w w') (h : w.cell? a0 = some v0 ∧ w.cell? a1 = some v1 ∧ w.cell? a2 = some v2 ∧ w.cell? a3 = some v3 ∧ w.cell? a4 = some v4 ∧ w.cell? a5 = some v5 ∧ w.cell? a6 = some v6) : w'.cell? a0 = some v0 ∧ w'.cell? a1 = some v1 ∧ w'.cell? a2 = some v2 ∧ w'.cell? a3 = some v3 ∧ w'.cell? a4 = some v4 ∧ w'.cell? a5 = some v5 ∧ w'.cell? a6 = some v6 :=
  ⟨(Below.cell f (World.block_lt_of_cell? _ _ h.1)).trans h.1, (Below.cell f (World.block_lt_of_cell? _ _ h.2.1)).trans h.2.1, (Below.cell f (World.block_lt_of_cell? _ _ h.2.2.1)).trans h.2.2.1, (Below.cell f (World.block_lt_of_cell? _ _ h.2.2.2.1)).trans h.2.2.2.1, (Below.cell f (World.block_lt_of_cell? _ _ h.2.2.2.2.1)).trans h.2.2.2.2.1, (Below.cell f (World.block_lt_of_cell? _ _ h.2.2.2.2.2.1)).trans h.2.2.2.2.2.1, (Below.cell f (World.block_lt_of_cell? _ _ h.2.2.2.2.2.2)).trans h.2.2.2.2.2.2⟩
theorem s7_put4 {w : World} {N : Nat} {p q r s : Value} {a0 a1 a2 a3 a4 a5 a6 : Addr} {v0 v1 v2 v3 v4 v5 v6 : Value} (h : w.cell? a0 = some v0 ∧ w.cell? a1 = some v1 ∧ w.cell? a2 = some v2 ∧ w.cell? a3 = some v3 ∧ w.cell? a4 = some v4 ∧ w.cell? a5 = some v5 ∧ w.cell? a6 = some v6) (n0 : a0.block ≠ N) (n1 : a1.block ≠ N) (n2 : a2.block ≠ N) (n3 : a3.block ≠ N) (n4 : a4.block ≠ N) (n5 : a5.block ≠ N) (n6 : a6.block ≠ N) : (put4 w N p q r s).cell? a0 = some v0 ∧ (put4 w N p q r s).cell? a1 = some v1 ∧ (put4 w N p q r s).cell? a2 = some v2 ∧ (put4 w N p q r s).cell? a3 = some v3 ∧ (put4 w N p q r s).cell? a4 = some v4 ∧ (put4 w N p q r s).cell? a5 = some v5 ∧ (put4 w N p q r s).cell? a6 = some v6 := by
  have e : ∀ (a : Addr), a.block ≠ N → (put4 w N p q r s).cell? a = w.cell? a := by
    intro a ha
    have k : ∀ (W : World) (i : Nat) (z : Value), (W.setCell ⟨N, i, none⟩ z).cell? a = W.cell? a := fun W i z => World.cell?_setCell_other (w := W) (a := ⟨N, i, none⟩) (b := a) (v := z) (fun e => ha (by rw [← e]))
    simp only [put4, k]
  exact ⟨(e _ n0).trans h.1, (e _ n1).trans h.2.1, (e _ n2).trans h.2.2.1, (e _ n3).trans h.2.2.2.1, (e _ n4).trans h.2.2.2.2.1, (e _ n5).trans h.2.2.2.2.2.1, (e _ n6).trans h.2.2.2.2.2.2⟩
theorem columnOf_good (xn : Int) (xs : ByteArray) (w : World) (hx : 3 ≤ xs.size) (hs : xs.size ≤ 140737488355327) :
    Calls Tryd.prog 42 #[.agg #[.int .i64 2, .int .i64 xn, .string xs]] w fun e w' => e = .returned (.tuple #[colV (CT.colA ⟨2, xn, xs⟩), .bool (CT.colB ⟨2, xn, xs⟩)]) ∧ Fr w w' := by
  have hA : CT.colA ⟨2, xn, xs⟩ = ⟨xs.extract 3 xs.size, (CT.b_ xs 0 : Int) - 48, decide (CT.b_ xs 1 = 110), decide (CT.b_ xs 2 = 117)⟩ := by unfold CT.colA; rw [if_pos ⟨rfl, hx⟩]
  have hB : CT.colB ⟨2, xn, xs⟩ = (decide (48 ≤ CT.b_ xs 0 ∧ CT.b_ xs 0 ≤ 51) && (decide (CT.b_ xs 1 = 110 ∨ CT.b_ xs 1 = 45) && decide (CT.b_ xs 2 = 117 ∨ CT.b_ xs 2 = 45))) := by
    unfold CT.colB
    rw [decide_eq_true hx]
    rfl
  rw [hA, hB]
  have h3 := bs_three xs hx
  have n0l := b_lt xs 0
  have n1l := b_lt xs 1
  have n2l := b_lt xs 2
  generalize CT.b_ xs 0 = n0 at *
  generalize CT.b_ xs 1 = n1 at *
  generalize CT.b_ xs 2 = n2 at *
  clear hA hB
  obtain ⟨W0, hW0⟩ : ∃ W0, ((w.alloc (.cells #[.int .i64 2, .int .i64 xn, .string xs] 46)).alloc (.cells #[.string ⟨#[]⟩, .int .i64 0, .bool false, .bool false] 44)).alloc (.cells #[.int .u8 0, .int .u8 0, .int .u8 0] 49) = W0 := ⟨_, rfl⟩
  have f0 : Fr w W0 := by rw [← hW0]; exact (((Fr.refl w).alloc _).alloc _).alloc _
  have b0 : Blk W0 w.heap.size #[.int .i64 2, .int .i64 xn, .string xs] 46 := by rw [← hW0]; exact ((Blk.new w _ _).old _).old _
  have b1 : Blk W0 (w.heap.size + 1) #[.string ⟨#[]⟩, .int .i64 0, .bool false, .bool false] 44 := by
    have := (Blk.new (w.alloc (.cells #[.int .i64 2, .int .i64 xn, .string xs] 46)) #[.string ⟨#[]⟩, .int .i64 0, .bool false, .bool false] 44).old (.cells #[.int .u8 0, .int .u8 0, .int .u8 0] 49)
    rw [World.size_alloc, hW0] at this; exact this
  have b2 : Blk W0 (w.heap.size + 1 + 1) #[.int .u8 0, .int .u8 0, .int .u8 0] 49 := by
    have := Blk.new ((w.alloc (.cells #[.int .i64 2, .int .i64 xn, .string xs] 46)).alloc (.cells #[.string ⟨#[]⟩, .int .i64 0, .bool false, .bool false] 44)) #[.int .u8 0, .int .u8 0, .int .u8 0] 49
    rw [World.size_alloc, World.size_alloc, hW0] at this; exact this
  have hs0 : W0.heap.size = w.heap.size + 1 + 1 + 1 := by rw [← hW0, World.size_alloc, World.size_alloc, World.size_alloc]
  have hcp := run_copy3 (P := Tryd.prog) W0.drew 51 9 3 5 (w.heap.size + 1 + 1) xs _ 49 Tryd.underlying51 Tryd.sizeByte b2 hx rfl
  rw [h3] at hcp
  obtain ⟨W1, hW1⟩ : ∃ W1, W0.drew.setRow (w.heap.size + 1 + 1) (byteV [UInt8.ofNat n0, UInt8.ofNat n1, UInt8.ofNat n2]).toArray = W1 := ⟨_, rfl⟩
  rw [hW1] at hcp
  have hof : ∀ n : Nat, n < 256 → ((UInt8.ofNat n).toNat : Int) = (n : Int) := fun n hn => by rw [UInt8.toNat_ofNat']; omega
  have d2 : Blk W1 (w.heap.size + 1 + 1) #[.int .u8 n0, .int .u8 n1, .int .u8 n2] 49 := by
    have h : Blk W1 (w.heap.size + 1 + 1) (byteV [UInt8.ofNat n0, UInt8.ofNat n1, UInt8.ofNat n2]).toArray 49 := by
      rw [← hW1]; exact setRow_heap W0.drew _ _ _ _ _ b2
    have e : (byteV [UInt8.ofNat n0, UInt8.ofNat n1, UInt8.ofNat n2]).toArray = #[.int .u8 n0, .int .u8 n1, .int .u8 n2] := by
      simp only [byteV, List.map_cons, List.map_nil]
      rw [hof n0 n0l, hof n1 n1l, hof n2 n2l]
    rw [e] at h
    exact h
  have d0 : Blk W1 w.heap.size #[.int .i64 2, .int .i64 xn, .string xs] 46 := by rw [← hW1]; exact Blk.row (w := W0.drew) b0 (by omega)
  have d1 : Blk W1 (w.heap.size + 1) #[.string ⟨#[]⟩, .int .i64 0, .bool false, .bool false] 44 := by rw [← hW1]; exact Blk.row (w := W0.drew) b1 (by omega)
  have f1 : Fr w W1 := by rw [← hW1]; exact below_setRow (Fr.drew f0) (by omega) _
  have hs1 : W1.heap.size = w.heap.size + 1 + 1 + 1 := by rw [← hW1, setRow_size]; exact hs0
  have HD0 := hideP d0
  have HD1 := hideP d1
  have HD2 := hideP d2
  have HF1 := hideP f1
  have HS1 := hideP hs1
  have HW0 := hideP hW0
  have HSa := hideP (show W0.cell? ⟨w.heap.size, 2, none⟩ = some (.string xs) from b0.cell 2 rfl)
  have HSb := hideP (show W1.cell? ⟨w.heap.size, 2, none⟩ = some (.string xs) from d0.cell 2 rfl)
  have HCp := hideP hcp
  have k0 := b0.cell 0 rfl
  have k2 := b0.cell 2 rfl
  have hz := Fr.drew (Fr.refl W0)
  have h3' : ¬ (xs.size : Int) < 3 := by omega
  have h3'' : (3 : Int) ≤ (xs.size : Int) := by omega
  clear b0 b1 b2 d0 d1 d2 f0 f1 hcp hW1 h3 hof hs0 hs1
  go_enter Tryd.func42, Tryd.ntmps42
  go_upto_region 4 with fail
  try rw [HW0.out]
  clear hW0 k0 k2
  go_region_held3 (fun W => W.cell? ⟨w.heap.size, 2, none⟩ = some (.string xs)) (first | exact HSa.out | exact (Below.cell hz (World.block_lt_of_cell? _ _ HSa.out)).trans HSa.out | exact HSb.out) (first
    | (refine copy_step rfl _ _ 51 9 rfl _ _ HCp.out ?_))
  have HS4 := hideP (show W1.cell? ⟨w.heap.size, 2, none⟩ = some (.string xs) ∧ W1.cell? ⟨w.heap.size + 1 + 1, 0, none⟩ = some (.int .u8 n0) ∧ W1.cell? ⟨w.heap.size + 1 + 1, 1, none⟩ = some (.int .u8 n1) ∧ W1.cell? ⟨w.heap.size + 1 + 1, 2, none⟩ = some (.int .u8 n2) from ⟨HD0.out.cell 2 rfl, HD2.out.cell 0 rfl, HD2.out.cell 1 rfl, HD2.out.cell 2 rfl⟩)
  have hz1 := Fr.drew (Fr.refl W1)
  have w0 : IntKind.i64.wrap (n0 : Int) = (n0 : Int) := by
    simp only [IntKind.wrap, IntKind.signed, IntKind.bits]
    simp
    omega
  have w1 : IntKind.i64.wrap ((n0 : Int) - 48) = (n0 : Int) - 48 := by
    simp only [IntKind.wrap, IntKind.signed, IntKind.bits]
    simp
    omega
  have g1 : ((n1 : Int) == 110) = decide (n1 = 110) := by
    by_cases h : n1 = 110
    · simp [h]
    · rw [decide_eq_false h, beq_eq_false_iff_ne]; omega
  have g2 : ((n2 : Int) == 117) = decide (n2 = 117) := by
    by_cases h : n2 = 117
    · simp [h]
    · rw [decide_eq_false h, beq_eq_false_iff_ne]; omega
  obtain ⟨p1, hp1⟩ : ∃ p, decide (n1 = 110) = p := ⟨_, rfl⟩
  obtain ⟨p2, hp2⟩ : ∃ p, decide (n2 = 117) = p := ⟨_, rfl⟩
  rw [hp1] at g1
  rw [hp2] at g2
  have HP1 := hideP hp1
  have HP2 := hideP hp2
  clear hp1 hp2
  go_upto_region 5 with fail
  go_region_held3 (fun W => W.cell? ⟨w.heap.size, 2, none⟩ = some (.string xs) ∧ W.cell? ⟨w.heap.size + 1 + 1, 0, none⟩ = some (.int .u8 n0) ∧ W.cell? ⟨w.heap.size + 1 + 1, 1, none⟩ = some (.int .u8 n1) ∧ W.cell? ⟨w.heap.size + 1 + 1, 2, none⟩ = some (.int .u8 n2)) (first | exact HS4.out | exact s4_after hz1 HS4.out | exact s4_after (Fr.alloc hz1 _) HS4.out | exact s4_after (Fr.drew (Fr.alloc (Fr.refl W1) _)) HS4.out) (first | fail)
  have hxe : xs.extract 3 xs.size = xs.extract 3 xs.size := rfl
  obtain ⟨xe, hxe⟩ : ∃ xe, xs.extract 3 xs.size = xe := ⟨_, rfl⟩
  obtain ⟨W2, hW2⟩ : ∃ W2, (W1.alloc (.cells #[.string xe, .int .i64 ((n0 : Int) - 48), .bool p1, .bool p2] 44)).drew = W2 := ⟨_, rfl⟩
  have f2 : Fr W1 W2 := by rw [← hW2]; exact Fr.drew (Fr.alloc (Fr.refl W1) _)
  have bc : Blk W2 W1.heap.size #[.string xe, .int .i64 ((n0 : Int) - 48), .bool p1, .bool p2] 44 := by rw [← hW2]; exact (Blk.new W1 _ _).fr (Fr.drew (Fr.refl _))
  have bm := HD2.out.fr f2
  have HE1 := hideP (HD1.out.fr f2)
  have HF2 := hideP (HF1.out.trans f2)
  have HS7 := hideP (show W2.cell? ⟨W1.heap.size, 0, none⟩ = some (.string xe) ∧ W2.cell? ⟨W1.heap.size, 1, none⟩ = some (.int .i64 ((n0 : Int) - 48)) ∧ W2.cell? ⟨W1.heap.size, 2, none⟩ = some (.bool p1) ∧ W2.cell? ⟨W1.heap.size, 3, none⟩ = some (.bool p2) ∧ W2.cell? ⟨w.heap.size + 1 + 1, 0, none⟩ = some (.int .u8 n0) ∧ W2.cell? ⟨w.heap.size + 1 + 1, 1, none⟩ = some (.int .u8 n1) ∧ W2.cell? ⟨w.heap.size + 1 + 1, 2, none⟩ = some (.int .u8 n2) from ⟨bc.cell 0 rfl, bc.cell 1 rfl, bc.cell 2 rfl, bc.cell 3 rfl, bm.cell 0 rfl, bm.cell 1 rfl, bm.cell 2 rfl⟩)
  have HW2 := hideP hW2
  have HXe := hideP hxe
  rw [hxe]
  clear hxe hW2 f2 bc bm
  have hzz := Fr.drew (Fr.refl W2)
  have y0 := HE1.out.frozen 0
  have y1 := HE1.out.frozen 1
  have y2 := HE1.out.frozen 2
  have y3 := HE1.out.frozen 3
  by_cases hk : 48 ≤ n0 ∧ n0 ≤ 51
  · obtain ⟨kk, rfl⟩ : ∃ kk, n0 = 48 + kk := ⟨n0 - 48, by omega⟩
    have e48 : ((48 + kk : Nat) : Int) - 48 = (kk : Int) := by omega
    have hkk : kk ≤ 3 := by omega
    have hq : (!decide ((kk : Int) < 0 ∨ 3 < (kk : Int))) = true := by
      have : ¬ ((kk : Int) < 0 ∨ 3 < (kk : Int)) := by omega
      simp [this]
    have cik := fun W => isKind_any (kk : Int) W
    rw [hq] at cik
    have cmk := fun W => marksOf_any xe kk p1 p2 W hkk
    have hm1 : ((CT.mk p1 110 : Nat) : Int) = (n1 : Int) ↔ (n1 = 110 ∨ n1 = 45) := by
      have := HP1.out
      unfold CT.mk
      cases p1
      · simp at this ⊢; omega
      · simp at this ⊢; omega
    have hm2 : ((CT.mk p2 117 : Nat) : Int) = (n2 : Int) ↔ (n2 = 117 ∨ n2 = 45) := by
      have := HP2.out
      unfold CT.mk
      cases p2
      · simp at this ⊢; omega
      · simp at this ⊢; omega
    generalize CT.mk p1 110 = m1 at cmk hm1
    generalize CT.mk p2 117 = m2 at cmk hm2
    obtain ⟨q1, hq1⟩ : ∃ q, decide (n1 = 110 ∨ n1 = 45) = q := ⟨_, rfl⟩
    obtain ⟨q2, hq2⟩ : ∃ q, decide (n2 = 117 ∨ n2 = 45) = q := ⟨_, rfl⟩
    have r1 : ((m1 : Int) == (n1 : Int)) = q1 := by
      rw [← hq1]
      by_cases h : n1 = 110 ∨ n1 = 45
      · rw [decide_eq_true h]; simpa using hm1.2 h
      · rw [decide_eq_false h, beq_eq_false_iff_ne]; exact fun e => h (hm1.1 e)
    have r2 : ((m2 : Int) == (n2 : Int)) = q2 := by
      rw [← hq2]
      by_cases h : n2 = 117 ∨ n2 = 45
      · rw [decide_eq_true h]; simpa using hm2.2 h
      · rw [decide_eq_false h, beq_eq_false_iff_ne]; exact fun e => h (hm2.1 e)
    have HRes : Hid ((decide (48 ≤ 48 + kk ∧ 48 + kk ≤ 51) && (decide (n1 = 110 ∨ n1 = 45) && decide (n2 = 117 ∨ n2 = 45))) = (q1 && q2)) := by
      unfold Hid; rw [decide_eq_true hk, hq1, hq2]; rfl
    rw [e48] at HS7 HW2 ⊢
    clear hq hm1 hm2 hq1 hq2 hk
    have v0 := HE1.out.cell 0 rfl
    have v1 := HE1.out.cell 1 rfl
    have v2 := HE1.out.cell 2 rfl
    have v3 := HE1.out.cell 3 rfl
    have hne : W1.heap.size ≠ w.heap.size + 1 := by have := HS1.out; omega
    have HNe := hideP hne
    have hEq : ∀ W : World, (Op.equalIn 10000 49 (.agg #[.int .u8 (48 + (kk : Int)), .int .u8 m1, .int .u8 m2]) (.agg #[.int .u8 (48 + (kk : Int)), .int .u8 n1, .int .u8 n2])).run Tryd.prog W = .ok (q1 && q2) W := by
      intro W
      rw [show (10000 : Nat) = 9998 + 1 + 1 from rfl, equalIn_marks, r1, r2, beq_self_eq_true, Bool.true_and]
    have hGd := guard_marks
    clear r1 r2
    clear hne
    go_upto_region 6 with fail
    rw [HW2.out]
    go_region_held3 (fun W => W.cell? ⟨W1.heap.size, 0, none⟩ = some (.string xe) ∧ W.cell? ⟨W1.heap.size, 1, none⟩ = some (.int .i64 kk) ∧ W.cell? ⟨W1.heap.size, 2, none⟩ = some (.bool p1) ∧ W.cell? ⟨W1.heap.size, 3, none⟩ = some (.bool p2) ∧ W.cell? ⟨w.heap.size + 1 + 1, 0, none⟩ = some (.int .u8 ((48 + kk : Nat) : Int)) ∧ W.cell? ⟨w.heap.size + 1 + 1, 1, none⟩ = some (.int .u8 n1) ∧ W.cell? ⟨w.heap.size + 1 + 1, 2, none⟩ = some (.int .u8 n2)) (first | exact HS7.out | exact s7_after hzz HS7.out | exact s7_put4 (N := w.heap.size + 1) HS7.out HNe.out HNe.out HNe.out HNe.out (by simp) (by simp) (by simp) | exact s7_put4 (N := w.heap.size + 1) (s7_after hzz HS7.out) HNe.out HNe.out HNe.out HNe.out (by simp) (by simp) (by simp) | exact s7_after hz9 (s7_put4 (N := w.heap.size + 1) HS7.out HNe.out HNe.out HNe.out HNe.out (by simp) (by simp) (by simp))) (first
      | (go_at_call 48; refine (cik _).mono ?_; rintro _ w8 ⟨rfl, rfl⟩)
      | (go_at_call 19; refine (cmk _).mono ?_; rintro _ w9 ⟨rfl, f9⟩; first
          | (replace hzz := Fr.after' f9 hzz; clear f9; have bq := HE1.out.fr hzz; replace v0 := bq.cell 0 rfl; replace v1 := bq.cell 1 rfl; replace v2 := bq.cell 2 rfl; replace v3 := bq.cell 3 rfl; replace y0 := bq.frozen 0; replace y1 := bq.frozen 1; replace y2 := bq.frozen 2; replace y3 := bq.frozen 3; clear bq)
          | (have hz9 : Fr (put4 W2 (w.heap.size + 1) (.string xe) (.int .i64 kk) (.bool p1) (.bool p2)) w9 := Fr.after' f9 (Fr.drew (Fr.refl _)); clear f9)
          | (have hz9 : Fr (put4 W2 (w.heap.size + 1) (.string xe) (.int .i64 kk) (.bool p1) (.bool p2)) w9 := f9; clear f9)))
    all_goals (
      go_wp2_with fail
      refine bodyPost_ret (v := .tuple #[.agg #[.string xe, .int .i64 kk, .bool p1, .bool p2], .bool (q1 && q2)]) ?_ rfl ?_
      · first
          | (have bb := (HE1.out.put4 (.string xe) (.int .i64 kk) (.bool p1) (.bool p2)).fr hz9
             have r0 := bb.cell 0 rfl
             have r1 := bb.cell 1 rfl
             have r2 := bb.cell 2 rfl
             have r3 := bb.cell 3 rfl
             simp [results, Tryd.results42, go_sem, r0, r1, r2, r3]
             done)
          | (have bb := (HE1.out.fr hzz).put4 (.string xe) (.int .i64 kk) (.bool p1) (.bool p2)
             have r0 := bb.cell 0 rfl
             have r1 := bb.cell 1 rfl
             have r2 := bb.cell 2 rfl
             have r3 := bb.cell 3 rfl
             change (results Tryd.f42 _).run Tryd.prog (put4 w9 _ _ _ _ _) = .ok _ (put4 w9 _ _ _ _ _)
             simp [results, Tryd.results42, go_sem, r0, r1, r2, r3]
             done)
      · refine ⟨?_, ?_⟩
        · rw [HRes.out, HXe.out, HP1.out, HP2.out, e48]
          rfl
        · first
            | exact (HF2.out.put4 (w.heap.size + 1) (by omega) _ _ _ _).trans hz9
            | exact (HF2.out.trans hzz).put4 (w.heap.size + 1) (by omega) _ _ _ _)
  · have hq : (!decide ((n0 : Int) - 48 < 0 ∨ 3 < (n0 : Int) - 48)) = false := by
      have : ((n0 : Int) - 48 < 0 ∨ 3 < (n0 : Int) - 48) := by omega
      simp [this]
    have cik := fun W => isKind_any ((n0 : Int) - 48) W
    rw [hq] at cik
    have HRes : Hid ((decide (48 ≤ n0 ∧ n0 ≤ 51) && (decide (n1 = 110 ∨ n1 = 45) && decide (n2 = 117 ∨ n2 = 45))) = false) := by unfold Hid; rw [decide_eq_false hk]; rfl
    clear hq
    have HP7 := hideP (s7_put4 (N := w.heap.size + 1) (p := .string xe) (q := .int .i64 ((n0 : Int) - 48)) (r := .bool p1) (s := .bool p2) HS7.out (by have := HS1.out; simp; omega) (by have := HS1.out; simp; omega) (by have := HS1.out; simp; omega) (by have := HS1.out; simp; omega) (by simp) (by simp) (by simp))
    obtain ⟨c0, c1, c2, c3, c4, c5, c6⟩ := HS7.out
    obtain ⟨d0, d1, d2, d3, d4, d5, d6⟩ := HP7.out
    simp only [put4] at d0 d1 d2 d3 d4 d5 d6
    go_upto_region 6 with fail
    try rw [HW2.out]
    have v0 := HE1.out.cell 0 rfl
    have v1 := HE1.out.cell 1 rfl
    have v2 := HE1.out.cell 2 rfl
    have v3 := HE1.out.cell 3 rfl
    go_region_with (go_at_call 48; refine (cik _).mono ?_; rintro _ w8 ⟨rfl, rfl⟩)
    all_goals (
      go_wp2_with fail
      refine bodyPost_ret (v := .tuple #[.agg #[.string xe, .int .i64 ((n0 : Int) - 48), .bool p1, .bool p2], .bool false]) ?_ rfl ?_
      · have bb := HE1.out.put4 (.string xe) (.int .i64 ((n0 : Int) - 48)) (.bool p1) (.bool p2)
        have r0 := bb.cell 0 rfl
        have r1 := bb.cell 1 rfl
        have r2 := bb.cell 2 rfl
        have r3 := bb.cell 3 rfl
        change (results Tryd.f42 _).run Tryd.prog (put4 W2 _ _ _ _ _).drew = .ok _ (put4 W2 _ _ _ _ _).drew
        simp [results, Tryd.results42, go_sem, r0, r1, r2, r3]
      · exact ⟨by rw [HRes.out, HXe.out, HP1.out, HP2.out]; rfl, Fr.drew (HF2.out.put4 (w.heap.size + 1) (by omega) _ _ _ _)⟩)
theorem columnOf_any (x : VM.Vl) (w : World) (hs : x.s.size ≤ 140737488355327) :
    Calls Tryd.prog 42 #[.agg #[.int .i64 x.k, .int .i64 x.n, .string x.s]] w fun e w' => e = .returned (.tuple #[colV (CT.colA x), .bool (CT.colB x)]) ∧ Fr w w' := by
  by_cases hx : x.k ≠ 2 ∨ x.s.size < 3
  · exact columnOf_bad x w hx
  · obtain ⟨k, n, s⟩ := x
    simp only [not_or, Decidable.not_not] at hx
    obtain ⟨rfl, h⟩ := hx
    exact columnOf_good n s w (by omega) hs
end Go.Proofs.YtefojbfihnnpdaaDoor
