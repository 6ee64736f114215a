/-
  Show of package value, for every value.
-/
import Derived.Test.YtoagobpkenfbkaaGreatDoorQuo
import Derived.Test.YtoagobpkenfbkaaGreatDoorVal
import Derived.Test.YtoagobpkenfbkaaGreatDoorLxF
import Derived.Lib.SmallJoins
namespace Go.Proofs.YtoagobpkenfbkaaGreatDoor
open Go.ChangeShapes Go.WideShapes Go.ChangeAt Go.RowKit Go.Shelf
set_option linter.unusedVariables false
set_option linter.unusedSimpArgs false

/-- the table of powers of ten, and that the variable ErrRange holds an error -/
structure Tb (w : World) : Prop where
  pow : Lib.TabIs Tryz.prog w "internal/strconv.uint64pow10" .u64 Lib.pow10Tab
  rng : ∃ ev, w.cell? ⟨7, 0, none⟩ = some ev ∧ (ev = .nilIface ∨ ∃ te pe, ev = .iface te pe)
  sgn : ∀ i (h : i < LX.signs.length), w.cell? ⟨0, i, none⟩ = some (.string ⟨(LX.signs[i]).toArray⟩)
theorem Tb.fr {w w' : World} (h : Tb w) (f : Fr w w') : Tb w' := by
  refine ⟨Joins.tab_stays (g := 3) (by kernel_rfl) h.pow f (Nat.le_refl _), ?_, fun i hi => (Below.cell f (World.block_lt_of_cell? _ _ (h.sgn i hi))).trans (h.sgn i hi)⟩
  obtain ⟨ev, h1, h2⟩ := h.rng
  exact ⟨ev, (Below.cell f (World.block_lt_of_cell? _ _ h1)).trans h1, h2⟩

theorem Fr.drewN {a b : World} (h : Fr a b) (n : Nat) : Fr a (b.drewN n) := h.trans ⟨rfl, rfl, rfl, Nat.le_refl _, fun _ _ => rfl⟩
theorem fr_grow (w : World) (k : Nat) (os : Array Obj) : Fr w (Sort.grow (w.drewN k) os) := by
  have h : Fr w (w.drewN k) := Fr.drewN (Fr.refl w) k
  refine Fr.trans h ⟨rfl, rfl, rfl, ?_, fun j hj => ?_⟩
  · show _ ≤ ((w.drewN k).heap ++ os).size
    rw [Array.size_append]; omega
  · show ((w.drewN k).heap ++ os)[j]? = _
    rw [Array.getElem?_append_left hj]
/-- what is shown of a value -/
def shn (x : VM.Vl) : List UInt8 := if VM.chk x = 0 then VS.shw x.k x.n x.s.data.toList else []

theorem chk_zero {x : VM.Vl} (h : VM.chk x = 0) : (0 ≤ x.k ∧ x.k ≤ 3) ∧ (x.k ≠ 1 → x.n = 0) ∧ (¬ (x.k = 2 ∨ x.k = 3) → x.s.size = 0) ∧ x.s.size ≤ 16 := by
  unfold VM.chk at h
  split at h
  · omega
  · split at h
    · omega
    · split at h
      · omega
      · rename_i h1 h2 h3
        refine ⟨by omega, ?_, ?_, by omega⟩
        · intro hk
          by_cases hn : x.n = 0
          · exact hn
          · exact absurd (Or.inl ⟨hn, hk⟩) h2
        · intro hk
          by_cases hn : x.s.size = 0
          · exact hn
          · exact absurd (Or.inr ⟨hn, hk⟩) h2
theorem dbl_len (b : UInt8) : (VS.dbl b).length ≤ 2 := by unfold VS.dbl; split <;> simp
theorem hx_len (b : UInt8) : (VS.hx b).length ≤ 2 := by unfold VS.hx; simp
/-- a value's box -/
theorem box_new (w : World) (x : VM.Vl) : (w.alloc (.cells #[.int .i64 x.k, .int .i64 x.n, .string x.s] 48)).heap[w.heap.size]? = some (.cells #[.int .i64 x.k, .int .i64 x.n, .string x.s] 48 (0, 0)) := by
  show (w.heap.push _)[w.heap.size]? = _
  rw [Array.getElem?_push_size]

set_option maxRecDepth 100000 in
set_option maxHeartbeats 1000000 in
theorem show_any (x : VM.Vl) (h0 : -9223372036854775808 ≤ x.n) (h1 : x.n ≤ 9223372036854775807) (w : World) (hT : Tb w) :
    Calls Tryz.prog 49 #[x.val] w fun e w' => e = .returned (.tuple #[.string ⟨(shn x).toArray⟩, .int .i64 (VM.chk x)]) ∧ Fr w w' := by
  have hck := fun W => check_any x.k x.n x.s W
  have hbx := box_new w x
  have fb : Fr w (w.alloc (.cells #[.int .i64 x.k, .int .i64 x.n, .string x.s] 48)) := (Fr.refl w).alloc _
  obtain ⟨W0, hW0⟩ : ∃ W0, w.alloc (.cells #[.int .i64 x.k, .int .i64 x.n, .string x.s] 48) = W0 := ⟨_, rfl⟩
  rw [hW0] at hbx fb
  obtain ⟨k, n, s⟩ := x
  simp only at *
  unfold VM.Vl.val
  simp only
  have HS : Hid (shn ⟨k, n, s⟩ = if VM.chk ⟨k, n, s⟩ = 0 then VS.shw k n s.data.toList else []) := rfl
  have HC : Hid (VM.chk ⟨k, n, s⟩ = 0 → _) := fun h => chk_zero h
  simp only at HC
  generalize VM.chk ⟨k, n, s⟩ = c at *
  generalize shn ⟨k, n, s⟩ = z at *
  have HW : Hid _ := hW0
  clear hW0
  go_enter Tryz.func49, Tryz.ntmps49
  go_wp2_with fail
  rw [HW.out]
  refine (hck _).mono ?_
  rintro _ w1 ⟨rfl, f1⟩
  have hb1 := (f1.block _ (Array.getElem?_eq_some_iff.1 hbx).1).trans hbx
  have a0 : w1.cell? ⟨w.heap.size, 0, none⟩ = some (.int .i64 k) := (Lib.cell_of_heap hb1 _).trans rfl
  have a1 : w1.cell? ⟨w.heap.size, 1, none⟩ = some (.int .i64 n) := (Lib.cell_of_heap hb1 _).trans rfl
  have a2 : w1.cell? ⟨w.heap.size, 2, none⟩ = some (.string s) := (Lib.cell_of_heap hb1 _).trans rfl
  have F1 : Hid (Fr w w1) := fb.trans f1
  have hT1 : Hid (Tb w1) := hT.fr F1.out
  clear f1 hb1 hck hbx fb HW
  by_cases hc : c = 0
  · subst hc
    rw [if_pos rfl] at HS
    obtain ⟨k1, k2, k3, k4⟩ := HC.out rfl
    have hk : k = 0 ∨ k = 1 ∨ k = 2 ∨ k = 3 := by omega
    rcases hk with rfl | rfl | rfl | rfl
    · have HS2 : Hid (z = [78, 85, 76, 76]) := HS.out
      clear HS HC
      go_wp2_with fail
      go_ret2
      exact ⟨by rw [HS2.out]; rfl, F1.out⟩
    · have HS2 : Hid (z = Lib.itoa n) := HS.out
      have hfi := Tryz.strconv_FormatInt_10 n h0 h1 w1 hT1.out.pow
      clear HS HC
      go_wp2_with fail
      refine hfi.mono ?_
      rintro _ w2 ⟨rfl, kk, os, hw2⟩
      have F2 : Hid (Fr w w2) := by unfold Hid; rw [hw2]; exact Fr.trans F1.out (fr_grow _ _ _)
      clear hw2
      go_wp2_with fail
      go_ret2
      exact ⟨by rw [HS2.out]; rfl, F2.out⟩
    · have HS2 : Hid (z = 39 :: s.data.toList.flatMap VS.dbl ++ [39]) := HS.out
      have hq := quotedT_any VS.dbl s w1 k4 dbl_len showT_any
      clear HS HC
      go_wp2_with fail
      refine hq.mono ?_
      rintro _ w2 ⟨rfl, f2⟩
      have F2 : Hid (Fr w w2) := Fr.trans F1.out f2
      clear f2
      go_wp2_with fail
      go_ret2
      exact ⟨by rw [HS2.out]; rfl, F2.out⟩
    · have HS2 : Hid (z = 120 :: (39 :: s.data.toList.flatMap VS.hx ++ [39])) := HS.out
      have hq := quotedB_any VS.hx s w1 k4 hx_len showB_any
      obtain ⟨Z, hZ⟩ : ∃ Z : ByteArray, (⟨(39 :: s.data.toList.flatMap VS.hx ++ [39]).toArray⟩ : ByteArray) = Z := ⟨_, rfl⟩
      have hfl : (s.data.toList.flatMap VS.hx).length ≤ 2 * 16 := flat_len VS.hx hx_len _ (by rw [Array.length_toList]; exact k4)
      have hzs : Z.size ≤ 100 := by rw [← hZ, mk_size]; simp only [List.length_append, List.length_cons, List.length_nil]; omega
      have HS3 : Hid ((⟨z.toArray⟩ : ByteArray) = ⟨#[120]⟩ ++ Z) := by
        unfold Hid
        rw [HS2.out, ← hZ]
        ext1
        simp
      rw [hZ] at hq
      clear HS HC HS2 hZ hfl
      go_wp2_with fail
      refine hq.mono ?_
      rintro _ w2 ⟨rfl, f2⟩
      have F2 : Hid (Fr w w2) := Fr.trans F1.out f2
      clear f2
      go_wp2_with fail
      go_ret2
      exact ⟨by rw [HS3.out]; rfl, F2.out⟩
  · have q1 : ((c : Int) != 0) = true := by simp; omega
    have q2 : ¬ ((c : Int) = 0) := by omega
    rw [if_neg hc] at HS
    clear HC
    go_wp2_with fail
    go_ret2
    exact ⟨by rw [HS.out]; rfl, F1.out⟩
end Go.Proofs.YtoagobpkenfbkaaGreatDoor
