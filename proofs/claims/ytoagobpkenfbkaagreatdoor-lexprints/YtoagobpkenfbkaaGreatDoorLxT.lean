/-
  literalOf.
-/
import Derived.Test.YtoagobpkenfbkaaGreatDoorLxS
namespace Go.Proofs.YtoagobpkenfbkaaGreatDoor
open Go.ChangeShapes Go.WideShapes Go.ChangeAt Go.RowKit Go.Shelf
set_option linter.unusedVariables false
set_option linter.unusedSimpArgs false

/-- a token that was made of a value -/
def litR (k : Int) (size : Nat) (r : VS.Rd) : Except Nat (LX.Tk × Nat) := if r.e = 0 then .ok (⟨k, 0, r.s⟩, size) else .error r.e
theorem lit_text (l : List UInt8) (n : Nat) : LX.lit 3 l n = litR 3 n (VS.rd (l.take n)) := rfl
theorem lit_blob (l : List UInt8) (n : Nat) : LX.lit 4 l n = litR 4 n (VS.rd ((l.take n).map LX.low)) := rfl
theorem litR_ok (k : Int) (n : Nat) (a b : Int) (c : List UInt8) : litR k n ⟨a, b, c, 0⟩ = .ok (⟨k, 0, c⟩, n) := rfl
theorem litR_bad (k : Int) (n : Nat) (a b : Int) (c : List UInt8) (d : Nat) (h : ¬ d = 0) : litR k n ⟨a, b, c, d⟩ = .error d := if_neg h

set_option maxRecDepth 100000 in
set_option maxHeartbeats 1000000 in
theorem literalOf_text (s : ByteArray) (n : Nat) (w : World) (hs : s.size ≤ 140737488355327) (hn : n ≤ s.size) (hT : Tb w) :
    Calls Tryz.prog 32 #[.int .i64 3, .string s, .int .i64 n] w fun e w' => e = .returned (fsV (LX.lit 3 s.data.toList n)) ∧ Fr w w' := by
  obtain ⟨W0, hW0⟩ : ∃ W0, w.alloc (.cells #[.int .i64 0, .int .i64 0, .int .i64 0, .string ⟨#[]⟩] 29) = W0 := ⟨_, rfl⟩
  have f0 : Fr w W0 := by rw [← hW0]; exact (Fr.refl w).alloc _
  have hb0 : Bt W0 w.heap.size 0 0 0 ⟨#[]⟩ := by rw [← hW0]; exact Bt.new _ _ _ _ _
  have HW : Hid _ := hW0
  clear hW0
  have c1 := of_any (s.extract 0 n) W0 (by rw [ByteArray.size_extract]; omega) (hT.fr f0)
  rw [ext_take] at c1
  rw [lit_text]
  generalize VS.rd (s.data.toList.take n) = r at *
  obtain ⟨a, b, c, d⟩ := r
  have h4 : (n : Int) ≤ (s.size : Int) := by omega
  unfold rdV at c1
  by_cases hd : d = 0
  · subst hd
    rw [litR_ok]
    go_enter Tryz.func32, Tryz.ntmps32
    go_wp2_with fail
    rw [HW.out]
    refine c1.mono ?_
    rintro _ w1 ⟨rfl, f1⟩
    have hb1 : Bt (w1.alloc (.cells #[.int .i64 a, .int .i64 b, .string ⟨c.toArray⟩] 48)) w.heap.size 0 0 0 ⟨#[]⟩ := hb0.fr (f1.trans ((Fr.refl _).alloc _))
    have d0 := hb1.c0
    have d1 := hb1.c1
    have d2 := hb1.c2
    have d3 := hb1.c3
    have z0 := hb1.z 0
    have z1 := hb1.z 1
    have z2 := hb1.z 2
    have z3 := hb1.z 3
    have F1 : Hid (Fr w (w1.alloc (.cells #[.int .i64 a, .int .i64 b, .string ⟨c.toArray⟩] 48))) := f0.trans (f1.trans ((Fr.refl _).alloc _))
    clear c1 hb0 f0 f1 HW hb1
    go_wp2_with fail
    refine bodyPost_ret (v := .tuple #[.agg #[.int .i64 3, .int .i64 0, .int .i64 0, .string ⟨c.toArray⟩], .int .i64 n, .int .i64 0]) (by simp [results, Tryz.results32, go_sem, d0, d1, d2, d3]) rfl ?_
    exact ⟨rfl, fr_set4 F1.out (Nat.le_refl _) _ _ _ _⟩
  · rw [litR_bad _ _ _ _ _ _ hd]
    have e1 : ((d : Int) != 0) = true := by simp; omega
    have e2 : ¬ ((d : Int) = 0) := by omega
    go_enter Tryz.func32, Tryz.ntmps32
    go_wp2_with fail
    rw [HW.out]
    refine c1.mono ?_
    rintro _ w1 ⟨rfl, f1⟩
    have hb1 : Bt (w1.alloc (.cells #[.int .i64 a, .int .i64 b, .string ⟨c.toArray⟩] 48)) w.heap.size 0 0 0 ⟨#[]⟩ := hb0.fr (f1.trans ((Fr.refl _).alloc _))
    have d0 := hb1.c0
    have d1 := hb1.c1
    have d2 := hb1.c2
    have d3 := hb1.c3
    have z0 := hb1.z 0
    have z1 := hb1.z 1
    have z2 := hb1.z 2
    have z3 := hb1.z 3
    have F1 : Hid (Fr w (w1.alloc (.cells #[.int .i64 a, .int .i64 b, .string ⟨c.toArray⟩] 48))) := f0.trans (f1.trans ((Fr.refl _).alloc _))
    clear c1 hb0 f0 f1 HW hb1
    go_wp2_with fail
    refine bodyPost_ret (v := .tuple #[.agg #[.int .i64 0, .int .i64 0, .int .i64 0, .string ⟨#[]⟩], .int .i64 0, .int .i64 d]) (by simp [results, Tryz.results32, go_sem, d0, d1, d2, d3]) rfl ?_
    exact ⟨rfl, fr_set4 F1.out (Nat.le_refl _) _ _ _ _⟩
set_option maxRecDepth 100000 in
set_option maxHeartbeats 1000000 in
theorem literalOf_blob (s : ByteArray) (n : Nat) (w : World) (hs : s.size ≤ 140737488355327) (hn : n ≤ s.size) (hT : Tb w) (ha : ∀ b ∈ s.data.toList.take n, b.toNat < 128) :
    Calls Tryz.prog 32 #[.int .i64 4, .string s, .int .i64 n] w fun e w' => e = .returned (fsV (LX.lit 4 s.data.toList n)) ∧ Fr w w' := by
  obtain ⟨W0, hW0⟩ : ∃ W0, w.alloc (.cells #[.int .i64 0, .int .i64 0, .int .i64 0, .string ⟨#[]⟩] 29) = W0 := ⟨_, rfl⟩
  have f0 : Fr w W0 := by rw [← hW0]; exact (Fr.refl w).alloc _
  have hb0 : Bt W0 w.heap.size 0 0 0 ⟨#[]⟩ := by rw [← hW0]; exact Bt.new _ _ _ _ _
  have HW : Hid _ := hW0
  clear hW0
  have c0 := lower_ext s n W0 hs ha
  have c1 := fun W hTW => of_any ⟨((s.data.toList.take n).map LX.low).toArray⟩ W (by rw [mk_size, List.length_map, List.length_take]; omega) hTW
  rw [dl_mk] at c1
  rw [lit_blob]
  generalize VS.rd ((s.data.toList.take n).map LX.low) = r at *
  generalize (s.data.toList.take n).map LX.low = T at *
  obtain ⟨a, b, c, d⟩ := r
  have h4 : (n : Int) ≤ (s.size : Int) := by omega
  unfold rdV at c1
  by_cases hd : d = 0
  · subst hd
    rw [litR_ok]
    go_enter Tryz.func32, Tryz.ntmps32
    go_wp2_with fail
    rw [HW.out]
    refine c0.mono ?_
    rintro _ wl ⟨rfl, fl⟩
    have c2 := c1 wl (hT.fr (f0.trans fl))
    clear c1
    go_wp2_with fail
    refine c2.mono ?_
    rintro _ w1 ⟨rfl, f1'⟩
    have f1 := fl.trans f1'
    have hb1 : Bt (w1.alloc (.cells #[.int .i64 a, .int .i64 b, .string ⟨c.toArray⟩] 48)) w.heap.size 0 0 0 ⟨#[]⟩ := hb0.fr (f1.trans ((Fr.refl _).alloc _))
    have d0 := hb1.c0
    have d1 := hb1.c1
    have d2 := hb1.c2
    have d3 := hb1.c3
    have z0 := hb1.z 0
    have z1 := hb1.z 1
    have z2 := hb1.z 2
    have z3 := hb1.z 3
    have F1 : Hid (Fr w (w1.alloc (.cells #[.int .i64 a, .int .i64 b, .string ⟨c.toArray⟩] 48))) := f0.trans (f1.trans ((Fr.refl _).alloc _))
    clear c2 c0 hb0 f0 f1 f1' fl HW hb1
    go_wp2_with fail
    refine bodyPost_ret (v := .tuple #[.agg #[.int .i64 4, .int .i64 0, .int .i64 0, .string ⟨c.toArray⟩], .int .i64 n, .int .i64 0]) (by simp [results, Tryz.results32, go_sem, d0, d1, d2, d3]) rfl ?_
    exact ⟨rfl, fr_set4 F1.out (Nat.le_refl _) _ _ _ _⟩
  · rw [litR_bad _ _ _ _ _ _ hd]
    have e1 : ((d : Int) != 0) = true := by simp; omega
    have e2 : ¬ ((d : Int) = 0) := by omega
    go_enter Tryz.func32, Tryz.ntmps32
    go_wp2_with fail
    rw [HW.out]
    refine c0.mono ?_
    rintro _ wl ⟨rfl, fl⟩
    have c2 := c1 wl (hT.fr (f0.trans fl))
    clear c1
    go_wp2_with fail
    refine c2.mono ?_
    rintro _ w1 ⟨rfl, f1'⟩
    have f1 := fl.trans f1'
    have hb1 : Bt (w1.alloc (.cells #[.int .i64 a, .int .i64 b, .string ⟨c.toArray⟩] 48)) w.heap.size 0 0 0 ⟨#[]⟩ := hb0.fr (f1.trans ((Fr.refl _).alloc _))
    have d0 := hb1.c0
    have d1 := hb1.c1
    have d2 := hb1.c2
    have d3 := hb1.c3
    have z0 := hb1.z 0
    have z1 := hb1.z 1
    have z2 := hb1.z 2
    have z3 := hb1.z 3
    have F1 : Hid (Fr w (w1.alloc (.cells #[.int .i64 a, .int .i64 b, .string ⟨c.toArray⟩] 48))) := f0.trans (f1.trans ((Fr.refl _).alloc _))
    clear c2 c0 hb0 f0 f1 f1' fl HW hb1
    go_wp2_with fail
    refine bodyPost_ret (v := .tuple #[.agg #[.int .i64 0, .int .i64 0, .int .i64 0, .string ⟨#[]⟩], .int .i64 0, .int .i64 d]) (by simp [results, Tryz.results32, go_sem, d0, d1, d2, d3]) rfl ?_
    exact ⟨rfl, fr_set4 F1.out (Nat.le_refl _) _ _ _ _⟩
end Go.Proofs.YtoagobpkenfbkaaGreatDoor
