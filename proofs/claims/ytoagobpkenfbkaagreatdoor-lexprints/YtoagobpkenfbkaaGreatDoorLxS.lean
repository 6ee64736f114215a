/-
  Tokens as the program holds them; wordOf, literalOf, numberOf.
-/
import Derived.Test.YtoagobpkenfbkaaGreatDoorLxR
import Derived.Test.YtoagobpkenfbkaaGreatDoorOf
namespace Go.Proofs.YtoagobpkenfbkaaGreatDoor
open Go.ChangeShapes Go.WideShapes Go.ChangeAt Go.RowKit Go.Shelf
set_option linter.unusedVariables false
set_option linter.unusedSimpArgs false

/-- a token at its place -/
def tkV (p : Int) (t : LX.Tk) : Value := .agg #[.int .i64 t.k, .int .i64 p, .int .i64 t.n, .string ⟨t.s.toArray⟩]
/-- what first answers -/
def fsV (r : Except Nat (LX.Tk × Nat)) : Value := match r with
  | .ok (t, n) => .tuple #[tkV 0 t, .int .i64 n, .int .i64 0]
  | .error e => .tuple #[tkV 0 ⟨0, 0, []⟩, .int .i64 0, .int .i64 e]
/-- a box of a token that may be written -/
structure Bt (w : World) (g : Nat) (k p n : Int) (s : ByteArray) : Prop where
  at_ : w.heap[g]? = some (.cells #[.int .i64 k, .int .i64 p, .int .i64 n, .string s] 29 (0, 0))
theorem Bt.new (w : World) (k p n : Int) (s : ByteArray) : Bt (w.alloc (.cells #[.int .i64 k, .int .i64 p, .int .i64 n, .string s] 29)) w.heap.size k p n s := ⟨by
  show (w.heap.push _)[w.heap.size]? = _
  rw [Array.getElem?_push_size]⟩
theorem Bt.lt {w : World} {g : Nat} {k p n : Int} {s : ByteArray} (h : Bt w g k p n s) : g < w.heap.size := (Array.getElem?_eq_some_iff.1 h.at_).1
theorem Bt.fr {w w' : World} {g : Nat} {k p n : Int} {s : ByteArray} (h : Bt w g k p n s) (f : Fr w w') : Bt w' g k p n s := ⟨(f.block _ h.lt).trans h.at_⟩
theorem Bt.c0 {w : World} {g : Nat} {k p n : Int} {s : ByteArray} (h : Bt w g k p n s) : w.cell? ⟨g, 0, none⟩ = some (.int .i64 k) := (Lib.cell_of_heap h.at_ _).trans rfl
theorem Bt.c1 {w : World} {g : Nat} {k p n : Int} {s : ByteArray} (h : Bt w g k p n s) : w.cell? ⟨g, 1, none⟩ = some (.int .i64 p) := (Lib.cell_of_heap h.at_ _).trans rfl
theorem Bt.c2 {w : World} {g : Nat} {k p n : Int} {s : ByteArray} (h : Bt w g k p n s) : w.cell? ⟨g, 2, none⟩ = some (.int .i64 n) := (Lib.cell_of_heap h.at_ _).trans rfl
theorem Bt.c3 {w : World} {g : Nat} {k p n : Int} {s : ByteArray} (h : Bt w g k p n s) : w.cell? ⟨g, 3, none⟩ = some (.string s) := (Lib.cell_of_heap h.at_ _).trans rfl
theorem Bt.z {w : World} {g : Nat} {k p n : Int} {s : ByteArray} (h : Bt w g k p n s) (i : Nat) : w.frozen? ⟨g, i, none⟩ = false := Lib.frozen_of_heap h.at_ i
theorem fr_set4 {w w' : World} (f : Fr w w') {g : Nat} (hg : w.heap.size ≤ g) (a b c d : Value) : Fr w ((((w'.setCell ⟨g, 0, none⟩ a).setCell ⟨g, 1, none⟩ b).setCell ⟨g, 2, none⟩ c).setCell ⟨g, 3, none⟩ d) :=
  Below.setCell (p := ⟨g, 3, none⟩) (Below.setCell (p := ⟨g, 2, none⟩) (Below.setCell (p := ⟨g, 1, none⟩) (Below.setCell (p := ⟨g, 0, none⟩) f hg a) hg b) hg c) hg d
theorem lower_low (l : List UInt8) : Lib.toLowerA l = l.map LX.low := by
  unfold Lib.toLowerA
  refine List.map_congr_left (fun b _ => ?_)
  unfold Lib.lowerB Lib.isUpperB LX.low LX.great
  rfl

theorem word_many {l : List UInt8} (h : 12 < LX.run LX.inWord l) : LX.word l = .error 2 := if_pos h
theorem word_few {l : List UInt8} (h : ¬ 12 < LX.run LX.inWord l) : LX.word l = .ok (⟨1, 0, (l.take (LX.run LX.inWord l)).map LX.low⟩, LX.run LX.inWord l) := if_neg h
theorem take_ascii {s : ByteArray} {n : Nat} (h : ∀ b ∈ s.data.toList.take n, b.toNat < 128) : ∀ (j : Nat) (b : UInt8), (s.extract 0 n).data.toList[j]? = some b → b.toNat < 128 := fun j b hj => by
  rw [ext_take] at hj
  exact h b (List.mem_of_getElem? hj)
theorem lower_ext (s : ByteArray) (n : Nat) (w : World) (hs : s.size ≤ 140737488355327) (h : ∀ b ∈ s.data.toList.take n, b.toNat < 128) :
    Calls Tryz.prog 57 #[.string (s.extract 0 n)] w fun e w' => e = .returned (.string ⟨((s.data.toList.take n).map LX.low).toArray⟩) ∧ Fr w w' := by
  have c := Tryz.strings_ToLower_ascii (s.extract 0 n) w (by rw [ByteArray.size_extract]; omega) (take_ascii h)
  rw [ext_take, lower_low] at c
  exact c

set_option maxRecDepth 100000 in
set_option maxHeartbeats 1000000 in
theorem wordOf_any (s : ByteArray) (w : World) (hs : s.size ≤ 140737488355327) :
    Calls Tryz.prog 36 #[.string s] w fun e w' => e = .returned (fsV (LX.word s.data.toList)) ∧ Fr w w' := by
  obtain ⟨W0, hW0⟩ : ∃ W0, w.alloc (.cells #[.int .i64 0, .int .i64 0, .int .i64 0, .string ⟨#[]⟩] 29) = W0 := ⟨_, rfl⟩
  have f0 : Fr w W0 := by rw [← hW0]; exact (Fr.refl w).alloc _
  have hb0 : Bt W0 w.heap.size 0 0 0 ⟨#[]⟩ := by rw [← hW0]; exact Bt.new _ _ _ _ _
  have HW : Hid _ := hW0
  clear hW0
  have c1 := runWord s W0 hs LX.inWord (fun b W => wordClo_any b W)
  have h1 := LX.run_le LX.inWord s.data.toList
  rw [dlenx] at h1
  have ha : ∀ b ∈ s.data.toList.take (LX.run LX.inWord s.data.toList), b.toNat < 128 := fun b hb => by
    have := LX.inWord_iff.1 (LX.run_take LX.inWord _ b hb)
    omega
  have c2 := fun W => lower_ext s (LX.run LX.inWord s.data.toList) W hs ha
  have hA := @word_many s.data.toList
  have hB := @word_few s.data.toList
  clear ha
  generalize LX.run LX.inWord s.data.toList = r1 at *
  generalize LX.word s.data.toList = q at *
  generalize (s.data.toList.take r1).map LX.low = T at *
  by_cases h : 12 < r1
  · have HQ : Hid _ := hA h
    have h2 : (12 : Int) < (r1 : Int) := by omega
    clear hA hB c2 h
    go_enter Tryz.func36, Tryz.ntmps36
    go_wp2_with fail
    rw [HW.out]
    refine c1.mono ?_
    rintro _ w1 ⟨rfl, rfl⟩
    have d0 := hb0.c0
    have d1 := hb0.c1
    have d2 := hb0.c2
    have d3 := hb0.c3
    have z0 := hb0.z 0
    have z1 := hb0.z 1
    have z2 := hb0.z 2
    have z3 := hb0.z 3
    have F1 : Hid (Fr w w1) := f0
    clear c1 hb0 f0 HW
    go_wp2_with fail
    refine bodyPost_ret (v := .tuple #[.agg #[.int .i64 0, .int .i64 0, .int .i64 0, .string ⟨#[]⟩], .int .i64 0, .int .i64 2]) (by simp [results, Tryz.results36, go_sem, d0, d1, d2, d3]) rfl ?_
    exact ⟨by rw [HQ.out]; rfl, fr_set4 F1.out (Nat.le_refl _) _ _ _ _⟩
  · have HQ : Hid _ := hB h
    have h2 : (r1 : Int) ≤ 12 := by omega
    have h3 : (12 < (r1 : Int)) = False := by simp; omega
    have h4 : (r1 : Int) ≤ (s.size : Int) := by omega
    clear hA hB h
    go_enter Tryz.func36, Tryz.ntmps36
    go_wp2_with fail
    rw [HW.out]
    refine c1.mono ?_
    rintro _ w1 ⟨rfl, rfl⟩
    go_wp2_with fail
    refine (c2 _).mono ?_
    rintro _ w2 ⟨rfl, f1⟩
    have hb1 := hb0.fr f1
    have d0 := hb1.c0
    have d1 := hb1.c1
    have d2 := hb1.c2
    have d3 := hb1.c3
    have z0 := hb1.z 0
    have z1 := hb1.z 1
    have z2 := hb1.z 2
    have z3 := hb1.z 3
    have F1 : Hid (Fr w w2) := f0.trans f1
    clear c1 c2 hb0 hb1 f0 f1 HW
    go_wp2_with fail
    refine bodyPost_ret (v := .tuple #[.agg #[.int .i64 1, .int .i64 0, .int .i64 0, .string ⟨T.toArray⟩], .int .i64 r1, .int .i64 0]) (by simp [results, Tryz.results36, go_sem, d0, d1, d2, d3]) rfl ?_
    exact ⟨by rw [HQ.out]; rfl, fr_set4 F1.out (Nat.le_refl _) _ _ _ _⟩
end Go.Proofs.YtoagobpkenfbkaaGreatDoor
