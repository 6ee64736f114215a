/-
  What compared of package eval answers.
-/
import Derived.Test.YtbcfdhimngoplaaGreatDoorEvE
import Derived.Test.YtbcfdhimngoplaaGreatDoorGpB
namespace Go.Proofs.YtbcfdhimngoplaaGreatDoor
open Go.ChangeShapes Go.WideShapes Go.ChangeAt Go.RowKit
set_option linter.unusedVariables false
set_option linter.unusedSimpArgs false
set_option maxRecDepth 100000
set_option maxHeartbeats 4000000
def turnsL : List Int := [10, 11, 12, 15, 14, 13, 18, 19, 20, 21, 22, 23, 24, 25]
def Tn (w : World) : Prop := ∀ j, j < 14 → w.cell? ⟨0, j, none⟩ = some (.int .i64 (turnsL.getD j 0))
theorem Tn.fr {w w' : World} (h : Tn w) (f : Fr w w') : Tn w' := fun j hj => (Below.cell f (World.block_lt_of_cell? _ _ (h j hj))).trans (h j hj)
theorem trn_at0 : ∀ w, (Instr.index 152 (.agg #[.int .i64 10, .int .i64 11, .int .i64 12, .int .i64 15, .int .i64 14, .int .i64 13, .int .i64 18, .int .i64 19, .int .i64 20, .int .i64 21, .int .i64 22, .int .i64 23, .int .i64 24, .int .i64 25]) (.int .i64 0)).run Tryz.prog w = .ok (.agg #[.int .i64 10, .int .i64 11]) w := fun _ => by kernel_rfl
theorem trn_at1 : ∀ w, (Instr.index 152 (.agg #[.int .i64 10, .int .i64 11, .int .i64 12, .int .i64 15, .int .i64 14, .int .i64 13, .int .i64 18, .int .i64 19, .int .i64 20, .int .i64 21, .int .i64 22, .int .i64 23, .int .i64 24, .int .i64 25]) (.int .i64 1)).run Tryz.prog w = .ok (.agg #[.int .i64 12, .int .i64 15]) w := fun _ => by kernel_rfl
theorem trn_at2 : ∀ w, (Instr.index 152 (.agg #[.int .i64 10, .int .i64 11, .int .i64 12, .int .i64 15, .int .i64 14, .int .i64 13, .int .i64 18, .int .i64 19, .int .i64 20, .int .i64 21, .int .i64 22, .int .i64 23, .int .i64 24, .int .i64 25]) (.int .i64 2)).run Tryz.prog w = .ok (.agg #[.int .i64 14, .int .i64 13]) w := fun _ => by kernel_rfl
theorem trn_at3 : ∀ w, (Instr.index 152 (.agg #[.int .i64 10, .int .i64 11, .int .i64 12, .int .i64 15, .int .i64 14, .int .i64 13, .int .i64 18, .int .i64 19, .int .i64 20, .int .i64 21, .int .i64 22, .int .i64 23, .int .i64 24, .int .i64 25]) (.int .i64 3)).run Tryz.prog w = .ok (.agg #[.int .i64 18, .int .i64 19]) w := fun _ => by kernel_rfl
theorem trn_at4 : ∀ w, (Instr.index 152 (.agg #[.int .i64 10, .int .i64 11, .int .i64 12, .int .i64 15, .int .i64 14, .int .i64 13, .int .i64 18, .int .i64 19, .int .i64 20, .int .i64 21, .int .i64 22, .int .i64 23, .int .i64 24, .int .i64 25]) (.int .i64 4)).run Tryz.prog w = .ok (.agg #[.int .i64 20, .int .i64 21]) w := fun _ => by kernel_rfl
theorem trn_at5 : ∀ w, (Instr.index 152 (.agg #[.int .i64 10, .int .i64 11, .int .i64 12, .int .i64 15, .int .i64 14, .int .i64 13, .int .i64 18, .int .i64 19, .int .i64 20, .int .i64 21, .int .i64 22, .int .i64 23, .int .i64 24, .int .i64 25]) (.int .i64 5)).run Tryz.prog w = .ok (.agg #[.int .i64 22, .int .i64 23]) w := fun _ => by kernel_rfl
theorem trn_at6 : ∀ w, (Instr.index 152 (.agg #[.int .i64 10, .int .i64 11, .int .i64 12, .int .i64 15, .int .i64 14, .int .i64 13, .int .i64 18, .int .i64 19, .int .i64 20, .int .i64 21, .int .i64 22, .int .i64 23, .int .i64 24, .int .i64 25]) (.int .i64 6)).run Tryz.prog w = .ok (.agg #[.int .i64 24, .int .i64 25]) w := fun _ => by kernel_rfl
theorem s9_after {w w' : World} {a b c d e f g i j : Addr} {p q r s t u x y z : Value} (h9 : Fr w w') (h : w.cell? a = some p ∧ w.cell? b = some q ∧ w.cell? c = some r ∧ w.cell? d = some s ∧ w.cell? e = some t ∧ w.cell? f = some u ∧ w.cell? g = some x ∧ w.cell? i = some y ∧ w.cell? j = some z) : w'.cell? a = some p ∧ w'.cell? b = some q ∧ w'.cell? c = some r ∧ w'.cell? d = some s ∧ w'.cell? e = some t ∧ w'.cell? f = some u ∧ w'.cell? g = some x ∧ w'.cell? i = some y ∧ w'.cell? j = some z := by
 have k : ∀ {a : Addr} {p : Value}, w.cell? a = some p → w'.cell? a = some p := fun h => (Below.cell h9 (World.block_lt_of_cell? _ _ h)).trans h
 exact ⟨k h.1, k h.2.1, k h.2.2.1, k h.2.2.2.1, k h.2.2.2.2.1, k h.2.2.2.2.2.1, k h.2.2.2.2.2.2.1, k h.2.2.2.2.2.2.2.1, k h.2.2.2.2.2.2.2.2⟩
theorem s3_after {w w' : World} {a b c : Addr} {p q r : Value} (h9 : Fr w w') (h : w.cell? a = some p ∧ w.cell? b = some q ∧ w.cell? c = some r) : w'.cell? a = some p ∧ w'.cell? b = some q ∧ w'.cell? c = some r :=
 ⟨(Below.cell h9 (World.block_lt_of_cell? _ _ h.1)).trans h.1, (Below.cell h9 (World.block_lt_of_cell? _ _ h.2.1)).trans h.2.1, (Below.cell h9 (World.block_lt_of_cell? _ _ h.2.2)).trans h.2.2⟩
theorem row_of {W : World} {v : Value} {l : List VM.Vl} (h : IsL cdV W v l) : IsRow W v l := by
 obtain ⟨a, cap, rfl, hc, h0 | ⟨b, o, rfl, hb, hat⟩⟩ := h
 · exact ⟨a, cap, rfl, .inl h0⟩
 · exact ⟨_, cap, rfl, .inr ⟨b, o, rfl, hb, fun i hi => hat.v3 i hi⟩⟩
theorem cmp10 (x y : VM.Vl) (v : Value) (w : World) (h : IsL cdV w v [x, y]) (hTn : Tn w) :
  Calls Tryz.prog 99 #[.int .i64 10, v] w fun e w' => e = .returned (.tuple #[.int .i64 (LG.sm2 x y), .int .i64 (((VM.chkAll [x, y] : Nat) : Int))]) ∧ Fr w w' := by
 have g0 : w.cell? ⟨0, 0, none⟩ = some (.int .i64 10) := hTn 0 (by decide)
 have g1 : w.cell? ⟨0, 1, none⟩ = some (.int .i64 11) := hTn 1 (by decide)
 have g2 : w.cell? ⟨0, 2, none⟩ = some (.int .i64 12) := hTn 2 (by decide)
 have g3 : w.cell? ⟨0, 3, none⟩ = some (.int .i64 15) := hTn 3 (by decide)
 have g4 : w.cell? ⟨0, 4, none⟩ = some (.int .i64 14) := hTn 4 (by decide)
 have g5 : w.cell? ⟨0, 5, none⟩ = some (.int .i64 13) := hTn 5 (by decide)
 have g6 : w.cell? ⟨0, 6, none⟩ = some (.int .i64 18) := hTn 6 (by decide)
 have g7 : w.cell? ⟨0, 7, none⟩ = some (.int .i64 19) := hTn 7 (by decide)
 have g8 : w.cell? ⟨0, 8, none⟩ = some (.int .i64 20) := hTn 8 (by decide)
 have g9 : w.cell? ⟨0, 9, none⟩ = some (.int .i64 21) := hTn 9 (by decide)
 have g10 : w.cell? ⟨0, 10, none⟩ = some (.int .i64 22) := hTn 10 (by decide)
 have g11 : w.cell? ⟨0, 11, none⟩ = some (.int .i64 23) := hTn 11 (by decide)
 have g12 : w.cell? ⟨0, 12, none⟩ = some (.int .i64 24) := hTn 12 (by decide)
 have g13 : w.cell? ⟨0, 13, none⟩ = some (.int .i64 25) := hTn 13 (by decide)
 obtain ⟨a, cap, rfl, hcap, hcs⟩ := h
 obtain ⟨b, o, rfl, hb, hat⟩ : ∃ b o, a = some ⟨b, o, none⟩ ∧ b < w.heap.size ∧ At cdV w b o [x, y] := by
  rcases hcs with h | h
  · cases h
  · exact h
 have hS : ∀ W, Fr w W → (W.cell? ⟨b, o, none⟩ = some (.int .i64 x.k) ∧ W.cell? ⟨b, o + 1, none⟩ = some (.int .i64 x.n) ∧ W.cell? ⟨b, o + 2, none⟩ = some (.string x.s) ∧ W.cell? ⟨b, o + 3, none⟩ = some (.int .i64 y.k) ∧ W.cell? ⟨b, o + 4, none⟩ = some (.int .i64 y.n) ∧ W.cell? ⟨b, o + 5, none⟩ = some (.string y.s)) := fun W f => by
  have hh := hat.fr hb f
  obtain ⟨p0, q0, r0⟩ := hh.v3 0 (by simp)
  obtain ⟨p1, q1, r1⟩ := hh.v3 1 (by simp)
  simp only [List.getElem_cons_zero, List.getElem_cons_succ, Nat.zero_mul, Nat.add_zero, Nat.one_mul, Nat.add_assoc, Nat.reduceAdd, Nat.reduceMul] at p0 q0 r0 p1 q1 r1
  exact ⟨p0, q0, r0, p1, q1, r1⟩
 have HS := hideP hS
 have HCn := hideP (fun W (f : Fr w W) => Same_any x y W)
 generalize LG.sm2 x y = R0 at *
 generalize ((VM.chkAll [x, y] : Nat) : Int) = R1 at *
 obtain ⟨xk, xn, xs⟩ := x
 obtain ⟨yk, yn, ys⟩ := y
 simp only [VM.Vl.val, vlV, List.length_cons, List.length_nil, Nat.zero_add, Nat.reduceAdd] at *
 clear hat hcs hS hTn
 go_enter Tryz.func99, Tryz.ntmps99
 go_wp2_with fail
 clear g0 g1 g2 g3 g4 g5 g6 g7 g8 g9 g10 g11 g12 g13
 go_loopw [7, 11] (fun _ iv wr => ∃ i : Nat, iv = .int .i64 i ∧ i ≤ 7 ∧ Fr w wr) (fun _ iv _ => 7 - (intOf iv).toNat)
 case atStart => exact ⟨0, rfl, by omega, Fr.refl _⟩
 case round =>
  obtain ⟨i, rfl, hi, hfr⟩ := hrel
  have HF := hideP hfr
  clear hfr
  match i, hi with
  | 0, _ =>
   have ik := trn_at0
   go_wp2_with fail
   go_roundw
   case rel => exact ⟨1, by go_num, by omega, HF.out.alloc _⟩
   case measure => simp [intOf]
  | 1, _ =>
   have ik := trn_at1
   go_wp2_with fail
   go_roundw
   case rel => exact ⟨2, by go_num, by omega, HF.out.alloc _⟩
   case measure => simp [intOf]
  | 2, _ =>
   have ik := trn_at2
   go_wp2_with fail
   go_roundw
   case rel => exact ⟨3, by go_num, by omega, HF.out.alloc _⟩
   case measure => simp [intOf]
  | 3, _ =>
   have ik := trn_at3
   go_wp2_with fail
   go_roundw
   case rel => exact ⟨4, by go_num, by omega, HF.out.alloc _⟩
   case measure => simp [intOf]
  | 4, _ =>
   have ik := trn_at4
   go_wp2_with fail
   go_roundw
   case rel => exact ⟨5, by go_num, by omega, HF.out.alloc _⟩
   case measure => simp [intOf]
  | 5, _ =>
   have ik := trn_at5
   go_wp2_with fail
   go_roundw
   case rel => exact ⟨6, by go_num, by omega, HF.out.alloc _⟩
   case measure => simp [intOf]
  | 6, _ =>
   have ik := trn_at6
   go_wp2_with fail
   go_roundw
   case rel => exact ⟨7, by go_num, by omega, HF.out.alloc _⟩
   case measure => simp [intOf]
  | 7, _ =>
   have HS9 := hideP (HS.out wr HF.out)
   have hz := Fr.drew (Fr.refl wr)
   go_upto_region 10 with fail
   go_region_held3 (fun W => W.cell? ⟨b, o, none⟩ = some (.int .i64 xk) ∧ W.cell? ⟨b, o + 1, none⟩ = some (.int .i64 xn) ∧ W.cell? ⟨b, o + 2, none⟩ = some (.string xs) ∧ W.cell? ⟨b, o + 3, none⟩ = some (.int .i64 yk) ∧ W.cell? ⟨b, o + 4, none⟩ = some (.int .i64 yn) ∧ W.cell? ⟨b, o + 5, none⟩ = some (.string ys)) (first | exact HS9.out | exact s6_after hz HS9.out | exact s6_after hf9 HS9.out) (first
    | (go_at_call 112; refine (HCn.out _ (HF.out.trans hz)).mono ?_; rintro _ w3 ⟨rfl, f3⟩; have hf9 := hz.trans f3; clear f3))
   all_goals (
    go_wp2_with fail
    go_ret2
    exact ⟨rfl, HF.out.trans hf9⟩)
theorem cmp12 (x y : VM.Vl) (v : Value) (w : World) (h : IsL cdV w v [x, y]) (hTn : Tn w) :
  Calls Tryz.prog 99 #[.int .i64 12, v] w fun e w' => e = .returned (.tuple #[.int .i64 (LG.lt2 x y), .int .i64 (((VM.chkAll [x, y] : Nat) : Int))]) ∧ Fr w w' := by
 have g0 : w.cell? ⟨0, 0, none⟩ = some (.int .i64 10) := hTn 0 (by decide)
 have g1 : w.cell? ⟨0, 1, none⟩ = some (.int .i64 11) := hTn 1 (by decide)
 have g2 : w.cell? ⟨0, 2, none⟩ = some (.int .i64 12) := hTn 2 (by decide)
 have g3 : w.cell? ⟨0, 3, none⟩ = some (.int .i64 15) := hTn 3 (by decide)
 have g4 : w.cell? ⟨0, 4, none⟩ = some (.int .i64 14) := hTn 4 (by decide)
 have g5 : w.cell? ⟨0, 5, none⟩ = some (.int .i64 13) := hTn 5 (by decide)
 have g6 : w.cell? ⟨0, 6, none⟩ = some (.int .i64 18) := hTn 6 (by decide)
 have g7 : w.cell? ⟨0, 7, none⟩ = some (.int .i64 19) := hTn 7 (by decide)
 have g8 : w.cell? ⟨0, 8, none⟩ = some (.int .i64 20) := hTn 8 (by decide)
 have g9 : w.cell? ⟨0, 9, none⟩ = some (.int .i64 21) := hTn 9 (by decide)
 have g10 : w.cell? ⟨0, 10, none⟩ = some (.int .i64 22) := hTn 10 (by decide)
 have g11 : w.cell? ⟨0, 11, none⟩ = some (.int .i64 23) := hTn 11 (by decide)
 have g12 : w.cell? ⟨0, 12, none⟩ = some (.int .i64 24) := hTn 12 (by decide)
 have g13 : w.cell? ⟨0, 13, none⟩ = some (.int .i64 25) := hTn 13 (by decide)
 obtain ⟨a, cap, rfl, hcap, hcs⟩ := h
 obtain ⟨b, o, rfl, hb, hat⟩ : ∃ b o, a = some ⟨b, o, none⟩ ∧ b < w.heap.size ∧ At cdV w b o [x, y] := by
  rcases hcs with h | h
  · cases h
  · exact h
 have hS : ∀ W, Fr w W → (W.cell? ⟨b, o, none⟩ = some (.int .i64 x.k) ∧ W.cell? ⟨b, o + 1, none⟩ = some (.int .i64 x.n) ∧ W.cell? ⟨b, o + 2, none⟩ = some (.string x.s) ∧ W.cell? ⟨b, o + 3, none⟩ = some (.int .i64 y.k) ∧ W.cell? ⟨b, o + 4, none⟩ = some (.int .i64 y.n) ∧ W.cell? ⟨b, o + 5, none⟩ = some (.string y.s)) := fun W f => by
  have hh := hat.fr hb f
  obtain ⟨p0, q0, r0⟩ := hh.v3 0 (by simp)
  obtain ⟨p1, q1, r1⟩ := hh.v3 1 (by simp)
  simp only [List.getElem_cons_zero, List.getElem_cons_succ, Nat.zero_mul, Nat.add_zero, Nat.one_mul, Nat.add_assoc, Nat.reduceAdd, Nat.reduceMul] at p0 q0 r0 p1 q1 r1
  exact ⟨p0, q0, r0, p1, q1, r1⟩
 have HS := hideP hS
 have HCn := hideP (fun W (f : Fr w W) => Less_any x y W)
 generalize LG.lt2 x y = R0 at *
 generalize ((VM.chkAll [x, y] : Nat) : Int) = R1 at *
 obtain ⟨xk, xn, xs⟩ := x
 obtain ⟨yk, yn, ys⟩ := y
 simp only [VM.Vl.val, vlV, List.length_cons, List.length_nil, Nat.zero_add, Nat.reduceAdd] at *
 clear hat hcs hS hTn
 go_enter Tryz.func99, Tryz.ntmps99
 go_wp2_with fail
 clear g0 g1 g2 g3 g4 g5 g6 g7 g8 g9 g10 g11 g12 g13
 go_loopw [7, 11] (fun _ iv wr => ∃ i : Nat, iv = .int .i64 i ∧ i ≤ 7 ∧ Fr w wr) (fun _ iv _ => 7 - (intOf iv).toNat)
 case atStart => exact ⟨0, rfl, by omega, Fr.refl _⟩
 case round =>
  obtain ⟨i, rfl, hi, hfr⟩ := hrel
  have HF := hideP hfr
  clear hfr
  match i, hi with
  | 0, _ =>
   have ik := trn_at0
   go_wp2_with fail
   go_roundw
   case rel => exact ⟨1, by go_num, by omega, HF.out.alloc _⟩
   case measure => simp [intOf]
  | 1, _ =>
   have ik := trn_at1
   go_wp2_with fail
   go_roundw
   case rel => exact ⟨2, by go_num, by omega, HF.out.alloc _⟩
   case measure => simp [intOf]
  | 2, _ =>
   have ik := trn_at2
   go_wp2_with fail
   go_roundw
   case rel => exact ⟨3, by go_num, by omega, HF.out.alloc _⟩
   case measure => simp [intOf]
  | 3, _ =>
   have ik := trn_at3
   go_wp2_with fail
   go_roundw
   case rel => exact ⟨4, by go_num, by omega, HF.out.alloc _⟩
   case measure => simp [intOf]
  | 4, _ =>
   have ik := trn_at4
   go_wp2_with fail
   go_roundw
   case rel => exact ⟨5, by go_num, by omega, HF.out.alloc _⟩
   case measure => simp [intOf]
  | 5, _ =>
   have ik := trn_at5
   go_wp2_with fail
   go_roundw
   case rel => exact ⟨6, by go_num, by omega, HF.out.alloc _⟩
   case measure => simp [intOf]
  | 6, _ =>
   have ik := trn_at6
   go_wp2_with fail
   go_roundw
   case rel => exact ⟨7, by go_num, by omega, HF.out.alloc _⟩
   case measure => simp [intOf]
  | 7, _ =>
   have HS9 := hideP (HS.out wr HF.out)
   have hz := Fr.drew (Fr.refl wr)
   go_upto_region 12 with fail
   go_region_held3 (fun W => W.cell? ⟨b, o, none⟩ = some (.int .i64 xk) ∧ W.cell? ⟨b, o + 1, none⟩ = some (.int .i64 xn) ∧ W.cell? ⟨b, o + 2, none⟩ = some (.string xs) ∧ W.cell? ⟨b, o + 3, none⟩ = some (.int .i64 yk) ∧ W.cell? ⟨b, o + 4, none⟩ = some (.int .i64 yn) ∧ W.cell? ⟨b, o + 5, none⟩ = some (.string ys)) (first | exact HS9.out | exact s6_after hz HS9.out | exact s6_after hf9 HS9.out) (first
    | (go_at_call 113; refine (HCn.out _ (HF.out.trans hz)).mono ?_; rintro _ w3 ⟨rfl, f3⟩; have hf9 := hz.trans f3; clear f3))
   all_goals (
    go_wp2_with fail
    go_ret2
    exact ⟨rfl, HF.out.trans hf9⟩)
theorem cmp14 (x y : VM.Vl) (v : Value) (w : World) (h : IsL cdV w v [x, y]) (hTn : Tn w) :
  Calls Tryz.prog 99 #[.int .i64 14, v] w fun e w' => e = .returned (.tuple #[.int .i64 (LG.lt2 y x), .int .i64 (((VM.chkAll [y, x] : Nat) : Int))]) ∧ Fr w w' := by
 have g0 : w.cell? ⟨0, 0, none⟩ = some (.int .i64 10) := hTn 0 (by decide)
 have g1 : w.cell? ⟨0, 1, none⟩ = some (.int .i64 11) := hTn 1 (by decide)
 have g2 : w.cell? ⟨0, 2, none⟩ = some (.int .i64 12) := hTn 2 (by decide)
 have g3 : w.cell? ⟨0, 3, none⟩ = some (.int .i64 15) := hTn 3 (by decide)
 have g4 : w.cell? ⟨0, 4, none⟩ = some (.int .i64 14) := hTn 4 (by decide)
 have g5 : w.cell? ⟨0, 5, none⟩ = some (.int .i64 13) := hTn 5 (by decide)
 have g6 : w.cell? ⟨0, 6, none⟩ = some (.int .i64 18) := hTn 6 (by decide)
 have g7 : w.cell? ⟨0, 7, none⟩ = some (.int .i64 19) := hTn 7 (by decide)
 have g8 : w.cell? ⟨0, 8, none⟩ = some (.int .i64 20) := hTn 8 (by decide)
 have g9 : w.cell? ⟨0, 9, none⟩ = some (.int .i64 21) := hTn 9 (by decide)
 have g10 : w.cell? ⟨0, 10, none⟩ = some (.int .i64 22) := hTn 10 (by decide)
 have g11 : w.cell? ⟨0, 11, none⟩ = some (.int .i64 23) := hTn 11 (by decide)
 have g12 : w.cell? ⟨0, 12, none⟩ = some (.int .i64 24) := hTn 12 (by decide)
 have g13 : w.cell? ⟨0, 13, none⟩ = some (.int .i64 25) := hTn 13 (by decide)
 obtain ⟨a, cap, rfl, hcap, hcs⟩ := h
 obtain ⟨b, o, rfl, hb, hat⟩ : ∃ b o, a = some ⟨b, o, none⟩ ∧ b < w.heap.size ∧ At cdV w b o [x, y] := by
  rcases hcs with h | h
  · cases h
  · exact h
 have hS : ∀ W, Fr w W → (W.cell? ⟨b, o, none⟩ = some (.int .i64 x.k) ∧ W.cell? ⟨b, o + 1, none⟩ = some (.int .i64 x.n) ∧ W.cell? ⟨b, o + 2, none⟩ = some (.string x.s) ∧ W.cell? ⟨b, o + 3, none⟩ = some (.int .i64 y.k) ∧ W.cell? ⟨b, o + 4, none⟩ = some (.int .i64 y.n) ∧ W.cell? ⟨b, o + 5, none⟩ = some (.string y.s)) := fun W f => by
  have hh := hat.fr hb f
  obtain ⟨p0, q0, r0⟩ := hh.v3 0 (by simp)
  obtain ⟨p1, q1, r1⟩ := hh.v3 1 (by simp)
  simp only [List.getElem_cons_zero, List.getElem_cons_succ, Nat.zero_mul, Nat.add_zero, Nat.one_mul, Nat.add_assoc, Nat.reduceAdd, Nat.reduceMul] at p0 q0 r0 p1 q1 r1
  exact ⟨p0, q0, r0, p1, q1, r1⟩
 have HS := hideP hS
 have HCn := hideP (fun W (f : Fr w W) => Less_any y x W)
 generalize LG.lt2 y x = R0 at *
 generalize ((VM.chkAll [y, x] : Nat) : Int) = R1 at *
 obtain ⟨xk, xn, xs⟩ := x
 obtain ⟨yk, yn, ys⟩ := y
 simp only [VM.Vl.val, vlV, List.length_cons, List.length_nil, Nat.zero_add, Nat.reduceAdd] at *
 clear hat hcs hS hTn
 go_enter Tryz.func99, Tryz.ntmps99
 go_wp2_with fail
 clear g0 g1 g2 g3 g4 g5 g6 g7 g8 g9 g10 g11 g12 g13
 go_loopw [7, 11] (fun _ iv wr => ∃ i : Nat, iv = .int .i64 i ∧ i ≤ 7 ∧ Fr w wr) (fun _ iv _ => 7 - (intOf iv).toNat)
 case atStart => exact ⟨0, rfl, by omega, Fr.refl _⟩
 case round =>
  obtain ⟨i, rfl, hi, hfr⟩ := hrel
  have HF := hideP hfr
  clear hfr
  match i, hi with
  | 0, _ =>
   have ik := trn_at0
   go_wp2_with fail
   go_roundw
   case rel => exact ⟨1, by go_num, by omega, HF.out.alloc _⟩
   case measure => simp [intOf]
  | 1, _ =>
   have ik := trn_at1
   go_wp2_with fail
   go_roundw
   case rel => exact ⟨2, by go_num, by omega, HF.out.alloc _⟩
   case measure => simp [intOf]
  | 2, _ =>
   have ik := trn_at2
   go_wp2_with fail
   go_roundw
   case rel => exact ⟨3, by go_num, by omega, HF.out.alloc _⟩
   case measure => simp [intOf]
  | 3, _ =>
   have ik := trn_at3
   go_wp2_with fail
   go_roundw
   case rel => exact ⟨4, by go_num, by omega, HF.out.alloc _⟩
   case measure => simp [intOf]
  | 4, _ =>
   have ik := trn_at4
   go_wp2_with fail
   go_roundw
   case rel => exact ⟨5, by go_num, by omega, HF.out.alloc _⟩
   case measure => simp [intOf]
  | 5, _ =>
   have ik := trn_at5
   go_wp2_with fail
   go_roundw
   case rel => exact ⟨6, by go_num, by omega, HF.out.alloc _⟩
   case measure => simp [intOf]
  | 6, _ =>
   have ik := trn_at6
   go_wp2_with fail
   go_roundw
   case rel => exact ⟨7, by go_num, by omega, HF.out.alloc _⟩
   case measure => simp [intOf]
  | 7, _ =>
   have HS9 := hideP (HS.out wr HF.out)
   have hz := Fr.drew (Fr.refl wr)
   go_upto_region 14 with fail
   go_region_held3 (fun W => W.cell? ⟨b, o, none⟩ = some (.int .i64 xk) ∧ W.cell? ⟨b, o + 1, none⟩ = some (.int .i64 xn) ∧ W.cell? ⟨b, o + 2, none⟩ = some (.string xs) ∧ W.cell? ⟨b, o + 3, none⟩ = some (.int .i64 yk) ∧ W.cell? ⟨b, o + 4, none⟩ = some (.int .i64 yn) ∧ W.cell? ⟨b, o + 5, none⟩ = some (.string ys)) (first | exact HS9.out | exact s6_after hz HS9.out | exact s6_after hf9 HS9.out) (first
    | (go_at_call 113; refine (HCn.out _ (HF.out.trans hz)).mono ?_; rintro _ w3 ⟨rfl, f3⟩; have hf9 := hz.trans f3; clear f3))
   all_goals (
    go_wp2_with fail
    go_ret2
    exact ⟨rfl, HF.out.trans hf9⟩)
theorem cmp24 (x y z : VM.Vl) (v : Value) (w : World) (h : IsL cdV w v [x, y, z]) (hTn : Tn w) :
  Calls Tryz.prog 99 #[.int .i64 24, v] w fun e w' => e = .returned (.tuple #[.int .i64 (LG.bt2 x y z), .int .i64 (((VM.chkAll [x, y, z] : Nat) : Int))]) ∧ Fr w w' := by
 have g0 : w.cell? ⟨0, 0, none⟩ = some (.int .i64 10) := hTn 0 (by decide)
 have g1 : w.cell? ⟨0, 1, none⟩ = some (.int .i64 11) := hTn 1 (by decide)
 have g2 : w.cell? ⟨0, 2, none⟩ = some (.int .i64 12) := hTn 2 (by decide)
 have g3 : w.cell? ⟨0, 3, none⟩ = some (.int .i64 15) := hTn 3 (by decide)
 have g4 : w.cell? ⟨0, 4, none⟩ = some (.int .i64 14) := hTn 4 (by decide)
 have g5 : w.cell? ⟨0, 5, none⟩ = some (.int .i64 13) := hTn 5 (by decide)
 have g6 : w.cell? ⟨0, 6, none⟩ = some (.int .i64 18) := hTn 6 (by decide)
 have g7 : w.cell? ⟨0, 7, none⟩ = some (.int .i64 19) := hTn 7 (by decide)
 have g8 : w.cell? ⟨0, 8, none⟩ = some (.int .i64 20) := hTn 8 (by decide)
 have g9 : w.cell? ⟨0, 9, none⟩ = some (.int .i64 21) := hTn 9 (by decide)
 have g10 : w.cell? ⟨0, 10, none⟩ = some (.int .i64 22) := hTn 10 (by decide)
 have g11 : w.cell? ⟨0, 11, none⟩ = some (.int .i64 23) := hTn 11 (by decide)
 have g12 : w.cell? ⟨0, 12, none⟩ = some (.int .i64 24) := hTn 12 (by decide)
 have g13 : w.cell? ⟨0, 13, none⟩ = some (.int .i64 25) := hTn 13 (by decide)
 obtain ⟨a, cap, rfl, hcap, hcs⟩ := h
 obtain ⟨b, o, rfl, hb, hat⟩ : ∃ b o, a = some ⟨b, o, none⟩ ∧ b < w.heap.size ∧ At cdV w b o [x, y, z] := by
  rcases hcs with h | h
  · cases h
  · exact h
 have hS : ∀ W, Fr w W → (W.cell? ⟨b, o, none⟩ = some (.int .i64 x.k) ∧ W.cell? ⟨b, o + 1, none⟩ = some (.int .i64 x.n) ∧ W.cell? ⟨b, o + 2, none⟩ = some (.string x.s) ∧ W.cell? ⟨b, o + 3, none⟩ = some (.int .i64 y.k) ∧ W.cell? ⟨b, o + 4, none⟩ = some (.int .i64 y.n) ∧ W.cell? ⟨b, o + 5, none⟩ = some (.string y.s) ∧ W.cell? ⟨b, o + 6, none⟩ = some (.int .i64 z.k) ∧ W.cell? ⟨b, o + 7, none⟩ = some (.int .i64 z.n) ∧ W.cell? ⟨b, o + 8, none⟩ = some (.string z.s)) := fun W f => by
  have hh := hat.fr hb f
  obtain ⟨p0, q0, r0⟩ := hh.v3 0 (by simp)
  obtain ⟨p1, q1, r1⟩ := hh.v3 1 (by simp)
  obtain ⟨p2, q2, r2⟩ := hh.v3 2 (by simp)
  simp only [List.getElem_cons_zero, List.getElem_cons_succ, Nat.zero_mul, Nat.add_zero, Nat.one_mul, Nat.add_assoc, Nat.reduceAdd, Nat.reduceMul] at p0 q0 r0 p1 q1 r1 p2 q2 r2
  exact ⟨p0, q0, r0, p1, q1, r1, p2, q2, r2⟩
 have HS := hideP hS
 have HCn := hideP (fun W (f : Fr w W) => Between_any x y z W)
 generalize LG.bt2 x y z = R0 at *
 generalize ((VM.chkAll [x, y, z] : Nat) : Int) = R1 at *
 obtain ⟨xk, xn, xs⟩ := x
 obtain ⟨yk, yn, ys⟩ := y
 obtain ⟨zk, zn, zs⟩ := z
 simp only [VM.Vl.val, vlV, List.length_cons, List.length_nil, Nat.zero_add, Nat.reduceAdd] at *
 clear hat hcs hS hTn
 go_enter Tryz.func99, Tryz.ntmps99
 go_wp2_with fail
 clear g0 g1 g2 g3 g4 g5 g6 g7 g8 g9 g10 g11 g12 g13
 go_loopw [7, 11] (fun _ iv wr => ∃ i : Nat, iv = .int .i64 i ∧ i ≤ 7 ∧ Fr w wr) (fun _ iv _ => 7 - (intOf iv).toNat)
 case atStart => exact ⟨0, rfl, by omega, Fr.refl _⟩
 case round =>
  obtain ⟨i, rfl, hi, hfr⟩ := hrel
  have HF := hideP hfr
  clear hfr
  match i, hi with
  | 0, _ =>
   have ik := trn_at0
   go_wp2_with fail
   go_roundw
   case rel => exact ⟨1, by go_num, by omega, HF.out.alloc _⟩
   case measure => simp [intOf]
  | 1, _ =>
   have ik := trn_at1
   go_wp2_with fail
   go_roundw
   case rel => exact ⟨2, by go_num, by omega, HF.out.alloc _⟩
   case measure => simp [intOf]
  | 2, _ =>
   have ik := trn_at2
   go_wp2_with fail
   go_roundw
   case rel => exact ⟨3, by go_num, by omega, HF.out.alloc _⟩
   case measure => simp [intOf]
  | 3, _ =>
   have ik := trn_at3
   go_wp2_with fail
   go_roundw
   case rel => exact ⟨4, by go_num, by omega, HF.out.alloc _⟩
   case measure => simp [intOf]
  | 4, _ =>
   have ik := trn_at4
   go_wp2_with fail
   go_roundw
   case rel => exact ⟨5, by go_num, by omega, HF.out.alloc _⟩
   case measure => simp [intOf]
  | 5, _ =>
   have ik := trn_at5
   go_wp2_with fail
   go_roundw
   case rel => exact ⟨6, by go_num, by omega, HF.out.alloc _⟩
   case measure => simp [intOf]
  | 6, _ =>
   have ik := trn_at6
   go_wp2_with fail
   go_roundw
   case rel => exact ⟨7, by go_num, by omega, HF.out.alloc _⟩
   case measure => simp [intOf]
  | 7, _ =>
   have HS9 := hideP (HS.out wr HF.out)
   have hz := Fr.drew (Fr.refl wr)
   go_upto_region 20 with fail
   go_region_held3 (fun W => W.cell? ⟨b, o, none⟩ = some (.int .i64 xk) ∧ W.cell? ⟨b, o + 1, none⟩ = some (.int .i64 xn) ∧ W.cell? ⟨b, o + 2, none⟩ = some (.string xs) ∧ W.cell? ⟨b, o + 3, none⟩ = some (.int .i64 yk) ∧ W.cell? ⟨b, o + 4, none⟩ = some (.int .i64 yn) ∧ W.cell? ⟨b, o + 5, none⟩ = some (.string ys) ∧ W.cell? ⟨b, o + 6, none⟩ = some (.int .i64 zk) ∧ W.cell? ⟨b, o + 7, none⟩ = some (.int .i64 zn) ∧ W.cell? ⟨b, o + 8, none⟩ = some (.string zs)) (first | exact HS9.out | exact s9_after hz HS9.out | exact s9_after hf9 HS9.out) (first
    | (go_at_call 116; refine (HCn.out _ (HF.out.trans hz)).mono ?_; rintro _ w3 ⟨rfl, f3⟩; have hf9 := hz.trans f3; clear f3))
   all_goals (
    go_wp2_with fail
    go_ret2
    exact ⟨rfl, HF.out.trans hf9⟩)
theorem cmp18 (x : VM.Vl) (v : Value) (w : World) (h : IsL cdV w v [x]) (hTn : Tn w) :
  Calls Tryz.prog 99 #[.int .i64 18, v] w fun e w' => e = .returned (.tuple #[.int .i64 (if EX.isNul x = true then 2 else 0), .int .i64 (0)]) ∧ Fr w w' := by
 have g0 : w.cell? ⟨0, 0, none⟩ = some (.int .i64 10) := hTn 0 (by decide)
 have g1 : w.cell? ⟨0, 1, none⟩ = some (.int .i64 11) := hTn 1 (by decide)
 have g2 : w.cell? ⟨0, 2, none⟩ = some (.int .i64 12) := hTn 2 (by decide)
 have g3 : w.cell? ⟨0, 3, none⟩ = some (.int .i64 15) := hTn 3 (by decide)
 have g4 : w.cell? ⟨0, 4, none⟩ = some (.int .i64 14) := hTn 4 (by decide)
 have g5 : w.cell? ⟨0, 5, none⟩ = some (.int .i64 13) := hTn 5 (by decide)
 have g6 : w.cell? ⟨0, 6, none⟩ = some (.int .i64 18) := hTn 6 (by decide)
 have g7 : w.cell? ⟨0, 7, none⟩ = some (.int .i64 19) := hTn 7 (by decide)
 have g8 : w.cell? ⟨0, 8, none⟩ = some (.int .i64 20) := hTn 8 (by decide)
 have g9 : w.cell? ⟨0, 9, none⟩ = some (.int .i64 21) := hTn 9 (by decide)
 have g10 : w.cell? ⟨0, 10, none⟩ = some (.int .i64 22) := hTn 10 (by decide)
 have g11 : w.cell? ⟨0, 11, none⟩ = some (.int .i64 23) := hTn 11 (by decide)
 have g12 : w.cell? ⟨0, 12, none⟩ = some (.int .i64 24) := hTn 12 (by decide)
 have g13 : w.cell? ⟨0, 13, none⟩ = some (.int .i64 25) := hTn 13 (by decide)
 obtain ⟨a, cap, rfl, hcap, hcs⟩ := h
 obtain ⟨b, o, rfl, hb, hat⟩ : ∃ b o, a = some ⟨b, o, none⟩ ∧ b < w.heap.size ∧ At cdV w b o [x] := by
  rcases hcs with h | h
  · cases h
  · exact h
 have hS : ∀ W, Fr w W → (W.cell? ⟨b, o, none⟩ = some (.int .i64 x.k) ∧ W.cell? ⟨b, o + 1, none⟩ = some (.int .i64 x.n) ∧ W.cell? ⟨b, o + 2, none⟩ = some (.string x.s)) := fun W f => by
  have hh := hat.fr hb f
  obtain ⟨p0, q0, r0⟩ := hh.v3 0 (by simp)
  simp only [List.getElem_cons_zero, List.getElem_cons_succ, Nat.zero_mul, Nat.add_zero, Nat.one_mul, Nat.add_assoc, Nat.reduceAdd, Nat.reduceMul] at p0 q0 r0
  exact ⟨p0, q0, r0⟩
 have HS := hideP hS
 have HCn := hideP (fun W (f : Fr w W) => truthIf_any (EX.isNul x) W)
 have hnul := @nul_of x
 have hnot := @nul_not x
 generalize EX.isNul x = it at *
 obtain ⟨xk, xn, xs⟩ := x
 simp only [VM.Vl.val, vlV, List.length_cons, List.length_nil, Nat.zero_add, Nat.reduceAdd] at *
 clear hat hcs hS hTn
 go_enter Tryz.func99, Tryz.ntmps99
 go_wp2_with fail
 clear g0 g1 g2 g3 g4 g5 g6 g7 g8 g9 g10 g11 g12 g13
 go_loopw [7, 11] (fun _ iv wr => ∃ i : Nat, iv = .int .i64 i ∧ i ≤ 7 ∧ Fr w wr) (fun _ iv _ => 7 - (intOf iv).toNat)
 case atStart => exact ⟨0, rfl, by omega, Fr.refl _⟩
 case round =>
  obtain ⟨i, rfl, hi, hfr⟩ := hrel
  have HF := hideP hfr
  clear hfr
  match i, hi with
  | 0, _ =>
   have ik := trn_at0
   go_wp2_with fail
   go_roundw
   case rel => exact ⟨1, by go_num, by omega, HF.out.alloc _⟩
   case measure => simp [intOf]
  | 1, _ =>
   have ik := trn_at1
   go_wp2_with fail
   go_roundw
   case rel => exact ⟨2, by go_num, by omega, HF.out.alloc _⟩
   case measure => simp [intOf]
  | 2, _ =>
   have ik := trn_at2
   go_wp2_with fail
   go_roundw
   case rel => exact ⟨3, by go_num, by omega, HF.out.alloc _⟩
   case measure => simp [intOf]
  | 3, _ =>
   have ik := trn_at3
   go_wp2_with fail
   go_roundw
   case rel => exact ⟨4, by go_num, by omega, HF.out.alloc _⟩
   case measure => simp [intOf]
  | 4, _ =>
   have ik := trn_at4
   go_wp2_with fail
   go_roundw
   case rel => exact ⟨5, by go_num, by omega, HF.out.alloc _⟩
   case measure => simp [intOf]
  | 5, _ =>
   have ik := trn_at5
   go_wp2_with fail
   go_roundw
   case rel => exact ⟨6, by go_num, by omega, HF.out.alloc _⟩
   case measure => simp [intOf]
  | 6, _ =>
   have ik := trn_at6
   go_wp2_with fail
   go_roundw
   case rel => exact ⟨7, by go_num, by omega, HF.out.alloc _⟩
   case measure => simp [intOf]
  | 7, _ =>
   have HS9 := hideP (HS.out wr HF.out)
   obtain ⟨c0, c1, c2⟩ := HS9.out
   cases it with
   | true =>
    have hv := hnul rfl
    simp only [EX.nul, VM.Vl.mk.injEq] at hv
    obtain ⟨rfl, rfl, rfl⟩ := hv
    clear hnul hnot
    go_wp2_with fail
    refine (HCn.out _ HF.out).mono ?_
    rintro _ w3 ⟨rfl, rfl⟩
    go_wp2_with fail
    go_ret2
    exact ⟨rfl, HF.out⟩
   | false =>
    have hv := hnot rfl
    clear hnul hnot
    rcases hv with h1 | ⟨rfl, h2⟩ | ⟨rfl, rfl, h3⟩
    ·
     have e1 : (xk == 0) = false := by simpa using h1
     go_wp2_with fail
     refine (HCn.out _ HF.out).mono ?_
     rintro _ w3 ⟨rfl, rfl⟩
     go_wp2_with fail
     go_ret2
     exact ⟨rfl, HF.out⟩
    ·
     have e1 : (xn == 0) = false := by simpa using h2
     go_wp2_with fail
     refine (HCn.out _ HF.out).mono ?_
     rintro _ w3 ⟨rfl, rfl⟩
     go_wp2_with fail
     go_ret2
     exact ⟨rfl, HF.out⟩
    ·
     obtain ⟨d1, d2, d3⟩ := size_some h3
     go_wp2_with fail
     refine (HCn.out _ HF.out).mono ?_
     rintro _ w3 ⟨rfl, rfl⟩
     go_wp2_with fail
     go_ret2
     exact ⟨rfl, HF.out⟩
theorem cmp20 (x y : VM.Vl) (v : Value) (w : World) (h : IsL cdV w v [x, y]) (hTn : Tn w) (hxs : x.s.size ≤ 9223372036854775807) (hys : y.s.size ≤ 9223372036854775807) (hT : Tb w) :
  Calls Tryz.prog 99 #[.int .i64 20, v] w fun e w' => e = .returned (exT (EV.lk x y)) ∧ Fr w w' := by
 have g0 : w.cell? ⟨0, 0, none⟩ = some (.int .i64 10) := hTn 0 (by decide)
 have g1 : w.cell? ⟨0, 1, none⟩ = some (.int .i64 11) := hTn 1 (by decide)
 have g2 : w.cell? ⟨0, 2, none⟩ = some (.int .i64 12) := hTn 2 (by decide)
 have g3 : w.cell? ⟨0, 3, none⟩ = some (.int .i64 15) := hTn 3 (by decide)
 have g4 : w.cell? ⟨0, 4, none⟩ = some (.int .i64 14) := hTn 4 (by decide)
 have g5 : w.cell? ⟨0, 5, none⟩ = some (.int .i64 13) := hTn 5 (by decide)
 have g6 : w.cell? ⟨0, 6, none⟩ = some (.int .i64 18) := hTn 6 (by decide)
 have g7 : w.cell? ⟨0, 7, none⟩ = some (.int .i64 19) := hTn 7 (by decide)
 have g8 : w.cell? ⟨0, 8, none⟩ = some (.int .i64 20) := hTn 8 (by decide)
 have g9 : w.cell? ⟨0, 9, none⟩ = some (.int .i64 21) := hTn 9 (by decide)
 have g10 : w.cell? ⟨0, 10, none⟩ = some (.int .i64 22) := hTn 10 (by decide)
 have g11 : w.cell? ⟨0, 11, none⟩ = some (.int .i64 23) := hTn 11 (by decide)
 have g12 : w.cell? ⟨0, 12, none⟩ = some (.int .i64 24) := hTn 12 (by decide)
 have g13 : w.cell? ⟨0, 13, none⟩ = some (.int .i64 25) := hTn 13 (by decide)
 obtain ⟨a, cap, rfl, hcap, hcs⟩ := h
 obtain ⟨b, o, rfl, hb, hat⟩ : ∃ b o, a = some ⟨b, o, none⟩ ∧ b < w.heap.size ∧ At cdV w b o [x, y] := by
  rcases hcs with h | h
  · cases h
  · exact h
 have hS : ∀ W, Fr w W → (W.cell? ⟨b, o, none⟩ = some (.int .i64 x.k) ∧ W.cell? ⟨b, o + 1, none⟩ = some (.int .i64 x.n) ∧ W.cell? ⟨b, o + 2, none⟩ = some (.string x.s) ∧ W.cell? ⟨b, o + 3, none⟩ = some (.int .i64 y.k) ∧ W.cell? ⟨b, o + 4, none⟩ = some (.int .i64 y.n) ∧ W.cell? ⟨b, o + 5, none⟩ = some (.string y.s)) := fun W f => by
  have hh := hat.fr hb f
  obtain ⟨p0, q0, r0⟩ := hh.v3 0 (by simp)
  obtain ⟨p1, q1, r1⟩ := hh.v3 1 (by simp)
  simp only [List.getElem_cons_zero, List.getElem_cons_succ, Nat.zero_mul, Nat.add_zero, Nat.one_mul, Nat.add_assoc, Nat.reduceAdd, Nat.reduceMul] at p0 q0 r0 p1 q1 r1
  exact ⟨p0, q0, r0, p1, q1, r1⟩
 have HS := hideP hS
 have HCn := hideP (fun W (f : Fr w W) => liked_any x y W hxs hys (hT.fr f))
 generalize EV.lk x y = D at *
 obtain ⟨xk, xn, xs⟩ := x
 obtain ⟨yk, yn, ys⟩ := y
 simp only [VM.Vl.val, vlV, List.length_cons, List.length_nil, Nat.zero_add, Nat.reduceAdd] at *
 clear hat hcs hS hTn hT hxs hys
 cases D
 all_goals simp only [exT] at *
 all_goals (
  go_enter Tryz.func99, Tryz.ntmps99
  go_wp2_with fail
  clear g0 g1 g2 g3 g4 g5 g6 g7 g8 g9 g10 g11 g12 g13
  go_loopw [7, 11] (fun _ iv wr => ∃ i : Nat, iv = .int .i64 i ∧ i ≤ 7 ∧ Fr w wr) (fun _ iv _ => 7 - (intOf iv).toNat)
  case atStart => exact ⟨0, rfl, by omega, Fr.refl _⟩
  case round =>
   obtain ⟨i, rfl, hi, hfr⟩ := hrel
   have HF := hideP hfr
   clear hfr
   match i, hi with
   | 0, _ =>
    have ik := trn_at0
    go_wp2_with fail
    go_roundw
    case rel => exact ⟨1, by go_num, by omega, HF.out.alloc _⟩
    case measure => simp [intOf]
   | 1, _ =>
    have ik := trn_at1
    go_wp2_with fail
    go_roundw
    case rel => exact ⟨2, by go_num, by omega, HF.out.alloc _⟩
    case measure => simp [intOf]
   | 2, _ =>
    have ik := trn_at2
    go_wp2_with fail
    go_roundw
    case rel => exact ⟨3, by go_num, by omega, HF.out.alloc _⟩
    case measure => simp [intOf]
   | 3, _ =>
    have ik := trn_at3
    go_wp2_with fail
    go_roundw
    case rel => exact ⟨4, by go_num, by omega, HF.out.alloc _⟩
    case measure => simp [intOf]
   | 4, _ =>
    have ik := trn_at4
    go_wp2_with fail
    go_roundw
    case rel => exact ⟨5, by go_num, by omega, HF.out.alloc _⟩
    case measure => simp [intOf]
   | 5, _ =>
    have ik := trn_at5
    go_wp2_with fail
    go_roundw
    case rel => exact ⟨6, by go_num, by omega, HF.out.alloc _⟩
    case measure => simp [intOf]
   | 6, _ =>
    have ik := trn_at6
    go_wp2_with fail
    go_roundw
    case rel => exact ⟨7, by go_num, by omega, HF.out.alloc _⟩
    case measure => simp [intOf]
   | 7, _ =>
    have HS9 := hideP (HS.out wr HF.out)
    have hz := Fr.drew (Fr.refl wr)
    go_upto_region 16 with fail
    go_region_held3 (fun W => W.cell? ⟨b, o, none⟩ = some (.int .i64 xk) ∧ W.cell? ⟨b, o + 1, none⟩ = some (.int .i64 xn) ∧ W.cell? ⟨b, o + 2, none⟩ = some (.string xs) ∧ W.cell? ⟨b, o + 3, none⟩ = some (.int .i64 yk) ∧ W.cell? ⟨b, o + 4, none⟩ = some (.int .i64 yn) ∧ W.cell? ⟨b, o + 5, none⟩ = some (.string ys)) (first | exact HS9.out | exact s6_after hz HS9.out | exact s6_after hf9 HS9.out) (first
     | (go_at_call 114; refine (HCn.out _ (HF.out.trans hz)).mono ?_; rintro _ w3 ⟨rfl, f3⟩; have hf9 := hz.trans f3; clear f3))
    all_goals (
     go_wp2_with fail
     go_ret2
     exact ⟨rfl, HF.out.trans hf9⟩)
 )
theorem cmp22 (x : VM.Vl) (r : List VM.Vl) (v : Value) (w : World) (h : IsL cdV w v (x :: r)) (hr : r.length ≤ 1000000) (hTn : Tn w) :
  Calls Tryz.prog 99 #[.int .i64 22, v] w fun e w' => e = .returned (.tuple #[.int .i64 (LG.in2 x r), .int .i64 ((LG.inErr x r : Nat) : Int)]) ∧ Fr w w' := by
 have g0 : w.cell? ⟨0, 0, none⟩ = some (.int .i64 10) := hTn 0 (by decide)
 have g1 : w.cell? ⟨0, 1, none⟩ = some (.int .i64 11) := hTn 1 (by decide)
 have g2 : w.cell? ⟨0, 2, none⟩ = some (.int .i64 12) := hTn 2 (by decide)
 have g3 : w.cell? ⟨0, 3, none⟩ = some (.int .i64 15) := hTn 3 (by decide)
 have g4 : w.cell? ⟨0, 4, none⟩ = some (.int .i64 14) := hTn 4 (by decide)
 have g5 : w.cell? ⟨0, 5, none⟩ = some (.int .i64 13) := hTn 5 (by decide)
 have g6 : w.cell? ⟨0, 6, none⟩ = some (.int .i64 18) := hTn 6 (by decide)
 have g7 : w.cell? ⟨0, 7, none⟩ = some (.int .i64 19) := hTn 7 (by decide)
 have g8 : w.cell? ⟨0, 8, none⟩ = some (.int .i64 20) := hTn 8 (by decide)
 have g9 : w.cell? ⟨0, 9, none⟩ = some (.int .i64 21) := hTn 9 (by decide)
 have g10 : w.cell? ⟨0, 10, none⟩ = some (.int .i64 22) := hTn 10 (by decide)
 have g11 : w.cell? ⟨0, 11, none⟩ = some (.int .i64 23) := hTn 11 (by decide)
 have g12 : w.cell? ⟨0, 12, none⟩ = some (.int .i64 24) := hTn 12 (by decide)
 have g13 : w.cell? ⟨0, 13, none⟩ = some (.int .i64 25) := hTn 13 (by decide)
 obtain ⟨a, cap, rfl, hcap, hcs⟩ := h
 obtain ⟨b, o, rfl, hb, hat⟩ : ∃ b o, a = some ⟨b, o, none⟩ ∧ b < w.heap.size ∧ At cdV w b o (x :: r) := by
  rcases hcs with h | h
  · cases h
  · exact h
 have hS : ∀ W, Fr w W → (W.cell? ⟨b, o, none⟩ = some (.int .i64 x.k) ∧ W.cell? ⟨b, o + 1, none⟩ = some (.int .i64 x.n) ∧ W.cell? ⟨b, o + 2, none⟩ = some (.string x.s)) := fun W f => by
  have hh := (hat.fr hb f).v3 0 (by simp)
  simpa using hh
 have hIs : ∀ W, Fr w W → IsL cdV W (.slice (if cap = 1 then some ⟨b, o, none⟩ else some ⟨b, o + 3, none⟩) r.length (cap - 1)) r := fun W f => by
  refine ⟨_, cap - 1, rfl, by simp at hcap; omega, ?_⟩
  cases r with
  | nil => exact .inl rfl
  | cons y r' =>
   refine .inr ⟨b, o + 3, by rw [if_neg (by simp at hcap; omega)], Nat.lt_of_lt_of_le hb f.size, fun j u hj => ?_⟩
   have h2 : (flat cdV (x :: y :: r'))[3 + j]? = some u := by
    rw [flat_cons, List.getElem?_append_right (by show 3 ≤ 3 + j; omega)]
    show (flat cdV (y :: r'))[3 + j - 3]? = some u
    rw [show 3 + j - 3 = j by omega]
    exact hj
   have := (hat.fr hb f) (3 + j) u h2
   rwa [← Nat.add_assoc] at this
 have HS := hideP hS
 have HCn := hideP (fun W (f : Fr w W) => In_any x _ r W (row_of (hIs W f)) (by omega))
 generalize LG.in2 x r = R0 at *
 generalize ((LG.inErr x r : Nat) : Int) = R1 at *
 obtain ⟨xk, xn, xs⟩ := x
 simp only [VM.Vl.val, List.length_cons] at *
 have hc1 : (1 : Int) ≤ (cap : Int) := by omega
 have hc2 : (1 : Int) ≤ (r.length : Int) + 1 := by omega
 have hc3 : (0 : Int) < (r.length : Int) + 1 := by omega
 clear hat hcs hS hTn hIs
 go_enter Tryz.func99, Tryz.ntmps99
 go_wp2_with fail
 clear g0 g1 g2 g3 g4 g5 g6 g7 g8 g9 g10 g11 g12 g13
 go_loopw [7, 11] (fun _ iv wr => ∃ i : Nat, iv = .int .i64 i ∧ i ≤ 7 ∧ Fr w wr) (fun _ iv _ => 7 - (intOf iv).toNat)
 case atStart => exact ⟨0, rfl, by omega, Fr.refl _⟩
 case round =>
  obtain ⟨i, rfl, hi, hfr⟩ := hrel
  have HF := hideP hfr
  clear hfr
  match i, hi with
  | 0, _ =>
   have ik := trn_at0
   go_wp2_with fail
   go_roundw
   case rel => exact ⟨1, by go_num, by omega, HF.out.alloc _⟩
   case measure => simp [intOf]
  | 1, _ =>
   have ik := trn_at1
   go_wp2_with fail
   go_roundw
   case rel => exact ⟨2, by go_num, by omega, HF.out.alloc _⟩
   case measure => simp [intOf]
  | 2, _ =>
   have ik := trn_at2
   go_wp2_with fail
   go_roundw
   case rel => exact ⟨3, by go_num, by omega, HF.out.alloc _⟩
   case measure => simp [intOf]
  | 3, _ =>
   have ik := trn_at3
   go_wp2_with fail
   go_roundw
   case rel => exact ⟨4, by go_num, by omega, HF.out.alloc _⟩
   case measure => simp [intOf]
  | 4, _ =>
   have ik := trn_at4
   go_wp2_with fail
   go_roundw
   case rel => exact ⟨5, by go_num, by omega, HF.out.alloc _⟩
   case measure => simp [intOf]
  | 5, _ =>
   have ik := trn_at5
   go_wp2_with fail
   go_roundw
   case rel => exact ⟨6, by go_num, by omega, HF.out.alloc _⟩
   case measure => simp [intOf]
  | 6, _ =>
   have ik := trn_at6
   go_wp2_with fail
   go_roundw
   case rel => exact ⟨7, by go_num, by omega, HF.out.alloc _⟩
   case measure => simp [intOf]
  | 7, _ =>
   have HS9 := hideP (HS.out wr HF.out)
   have hz := Fr.drew (Fr.refl wr)
   go_upto_region 18 with fail
   go_region_held3 (fun W => W.cell? ⟨b, o, none⟩ = some (.int .i64 xk) ∧ W.cell? ⟨b, o + 1, none⟩ = some (.int .i64 xn) ∧ W.cell? ⟨b, o + 2, none⟩ = some (.string xs)) (first | exact HS9.out | exact s3_after hz HS9.out | exact s3_after hf9 HS9.out) (first
    | (go_at_call 115; refine (HCn.out _ (HF.out.trans hz)).mono ?_; generalize (if cap = 1 then (some ⟨b, o, none⟩ : Option Addr) else some ⟨b, o + 3, none⟩) = A9; rintro _ w3 ⟨rfl, f3⟩; have hf9 := hz.trans f3; clear f3))
   all_goals (
    go_wp2_with fail
    go_ret2
    exact ⟨rfl, HF.out.trans hf9⟩)
theorem trn11 (v : Value) (T C : Int) (w : World) (hTn : Tn w) (hc : ∀ W, Fr w W → Calls Tryz.prog 99 #[.int .i64 10, v] W fun e w' => e = .returned (.tuple #[.int .i64 T, .int .i64 C]) ∧ Fr W w') (hv : ∃ a n c, v = .slice a n c) :
  Calls Tryz.prog 99 #[.int .i64 11, v] w fun e w' => e = .returned (.tuple #[.int .i64 (LG.not T), .int .i64 C]) ∧ Fr w w' := by
 have g0 : w.cell? ⟨0, 0, none⟩ = some (.int .i64 10) := hTn 0 (by decide)
 have g1 : w.cell? ⟨0, 1, none⟩ = some (.int .i64 11) := hTn 1 (by decide)
 have g2 : w.cell? ⟨0, 2, none⟩ = some (.int .i64 12) := hTn 2 (by decide)
 have g3 : w.cell? ⟨0, 3, none⟩ = some (.int .i64 15) := hTn 3 (by decide)
 have g4 : w.cell? ⟨0, 4, none⟩ = some (.int .i64 14) := hTn 4 (by decide)
 have g5 : w.cell? ⟨0, 5, none⟩ = some (.int .i64 13) := hTn 5 (by decide)
 have g6 : w.cell? ⟨0, 6, none⟩ = some (.int .i64 18) := hTn 6 (by decide)
 have g7 : w.cell? ⟨0, 7, none⟩ = some (.int .i64 19) := hTn 7 (by decide)
 have g8 : w.cell? ⟨0, 8, none⟩ = some (.int .i64 20) := hTn 8 (by decide)
 have g9 : w.cell? ⟨0, 9, none⟩ = some (.int .i64 21) := hTn 9 (by decide)
 have g10 : w.cell? ⟨0, 10, none⟩ = some (.int .i64 22) := hTn 10 (by decide)
 have g11 : w.cell? ⟨0, 11, none⟩ = some (.int .i64 23) := hTn 11 (by decide)
 have g12 : w.cell? ⟨0, 12, none⟩ = some (.int .i64 24) := hTn 12 (by decide)
 have g13 : w.cell? ⟨0, 13, none⟩ = some (.int .i64 25) := hTn 13 (by decide)
 obtain ⟨va, vn, vc, rfl⟩ := hv
 have HC := hideP hc
 clear hTn hc
 go_enter Tryz.func99, Tryz.ntmps99
 go_wp2_with fail
 clear g0 g1 g2 g3 g4 g5 g6 g7 g8 g9 g10 g11 g12 g13
 go_loopw [7, 8, 9, 11] (fun _ _ _ iv wr => ∃ i : Nat, iv = .int .i64 i ∧ i ≤ 0 ∧ Fr w wr) (fun _ _ _ iv _ => 1 - (intOf iv).toNat)
 case atStart => exact ⟨0, rfl, by omega, Fr.refl _⟩
 case round =>
  obtain ⟨i, rfl, hi, hfr⟩ := hrel
  have HF := hideP hfr
  clear hfr
  match i, hi with
  | 0, _ =>
   have ik := trn_at0
   have FA := hideP (HF.out.alloc (.cells #[.int .i64 10, .int .i64 11] 151))
   go_wp2_with fail
   refine (HC.out _ FA.out).mono ?_
   rintro _ w3 ⟨rfl, f3⟩
   have F3 := hideP (FA.out.trans f3)
   clear f3
   go_wp2_with fail
   refine (not_any _ _).mono ?_
   rintro _ w4 ⟨rfl, rfl⟩
   go_wp2_with fail
   go_ret2
   exact ⟨rfl, F3.out⟩
theorem trn15 (v : Value) (T C : Int) (w : World) (hTn : Tn w) (hc : ∀ W, Fr w W → Calls Tryz.prog 99 #[.int .i64 12, v] W fun e w' => e = .returned (.tuple #[.int .i64 T, .int .i64 C]) ∧ Fr W w') (hv : ∃ a n c, v = .slice a n c) :
  Calls Tryz.prog 99 #[.int .i64 15, v] w fun e w' => e = .returned (.tuple #[.int .i64 (LG.not T), .int .i64 C]) ∧ Fr w w' := by
 have g0 : w.cell? ⟨0, 0, none⟩ = some (.int .i64 10) := hTn 0 (by decide)
 have g1 : w.cell? ⟨0, 1, none⟩ = some (.int .i64 11) := hTn 1 (by decide)
 have g2 : w.cell? ⟨0, 2, none⟩ = some (.int .i64 12) := hTn 2 (by decide)
 have g3 : w.cell? ⟨0, 3, none⟩ = some (.int .i64 15) := hTn 3 (by decide)
 have g4 : w.cell? ⟨0, 4, none⟩ = some (.int .i64 14) := hTn 4 (by decide)
 have g5 : w.cell? ⟨0, 5, none⟩ = some (.int .i64 13) := hTn 5 (by decide)
 have g6 : w.cell? ⟨0, 6, none⟩ = some (.int .i64 18) := hTn 6 (by decide)
 have g7 : w.cell? ⟨0, 7, none⟩ = some (.int .i64 19) := hTn 7 (by decide)
 have g8 : w.cell? ⟨0, 8, none⟩ = some (.int .i64 20) := hTn 8 (by decide)
 have g9 : w.cell? ⟨0, 9, none⟩ = some (.int .i64 21) := hTn 9 (by decide)
 have g10 : w.cell? ⟨0, 10, none⟩ = some (.int .i64 22) := hTn 10 (by decide)
 have g11 : w.cell? ⟨0, 11, none⟩ = some (.int .i64 23) := hTn 11 (by decide)
 have g12 : w.cell? ⟨0, 12, none⟩ = some (.int .i64 24) := hTn 12 (by decide)
 have g13 : w.cell? ⟨0, 13, none⟩ = some (.int .i64 25) := hTn 13 (by decide)
 obtain ⟨va, vn, vc, rfl⟩ := hv
 have HC := hideP hc
 clear hTn hc
 go_enter Tryz.func99, Tryz.ntmps99
 go_wp2_with fail
 clear g0 g1 g2 g3 g4 g5 g6 g7 g8 g9 g10 g11 g12 g13
 go_loopw [7, 8, 9, 11] (fun _ _ _ iv wr => ∃ i : Nat, iv = .int .i64 i ∧ i ≤ 1 ∧ Fr w wr) (fun _ _ _ iv _ => 2 - (intOf iv).toNat)
 case atStart => exact ⟨0, rfl, by omega, Fr.refl _⟩
 case round =>
  obtain ⟨i, rfl, hi, hfr⟩ := hrel
  have HF := hideP hfr
  clear hfr
  match i, hi with
  | 0, _ =>
   have ik := trn_at0
   go_wp2_with fail
   go_roundw
   case rel => exact ⟨1, by go_num, by omega, HF.out.alloc _⟩
   case measure => simp [intOf]
  | 1, _ =>
   have ik := trn_at1
   have FA := hideP (HF.out.alloc (.cells #[.int .i64 12, .int .i64 15] 151))
   go_wp2_with fail
   refine (HC.out _ FA.out).mono ?_
   rintro _ w3 ⟨rfl, f3⟩
   have F3 := hideP (FA.out.trans f3)
   clear f3
   go_wp2_with fail
   refine (not_any _ _).mono ?_
   rintro _ w4 ⟨rfl, rfl⟩
   go_wp2_with fail
   go_ret2
   exact ⟨rfl, F3.out⟩
theorem trn13 (v : Value) (T C : Int) (w : World) (hTn : Tn w) (hc : ∀ W, Fr w W → Calls Tryz.prog 99 #[.int .i64 14, v] W fun e w' => e = .returned (.tuple #[.int .i64 T, .int .i64 C]) ∧ Fr W w') (hv : ∃ a n c, v = .slice a n c) :
  Calls Tryz.prog 99 #[.int .i64 13, v] w fun e w' => e = .returned (.tuple #[.int .i64 (LG.not T), .int .i64 C]) ∧ Fr w w' := by
 have g0 : w.cell? ⟨0, 0, none⟩ = some (.int .i64 10) := hTn 0 (by decide)
 have g1 : w.cell? ⟨0, 1, none⟩ = some (.int .i64 11) := hTn 1 (by decide)
 have g2 : w.cell? ⟨0, 2, none⟩ = some (.int .i64 12) := hTn 2 (by decide)
 have g3 : w.cell? ⟨0, 3, none⟩ = some (.int .i64 15) := hTn 3 (by decide)
 have g4 : w.cell? ⟨0, 4, none⟩ = some (.int .i64 14) := hTn 4 (by decide)
 have g5 : w.cell? ⟨0, 5, none⟩ = some (.int .i64 13) := hTn 5 (by decide)
 have g6 : w.cell? ⟨0, 6, none⟩ = some (.int .i64 18) := hTn 6 (by decide)
 have g7 : w.cell? ⟨0, 7, none⟩ = some (.int .i64 19) := hTn 7 (by decide)
 have g8 : w.cell? ⟨0, 8, none⟩ = some (.int .i64 20) := hTn 8 (by decide)
 have g9 : w.cell? ⟨0, 9, none⟩ = some (.int .i64 21) := hTn 9 (by decide)
 have g10 : w.cell? ⟨0, 10, none⟩ = some (.int .i64 22) := hTn 10 (by decide)
 have g11 : w.cell? ⟨0, 11, none⟩ = some (.int .i64 23) := hTn 11 (by decide)
 have g12 : w.cell? ⟨0, 12, none⟩ = some (.int .i64 24) := hTn 12 (by decide)
 have g13 : w.cell? ⟨0, 13, none⟩ = some (.int .i64 25) := hTn 13 (by decide)
 obtain ⟨va, vn, vc, rfl⟩ := hv
 have HC := hideP hc
 clear hTn hc
 go_enter Tryz.func99, Tryz.ntmps99
 go_wp2_with fail
 clear g0 g1 g2 g3 g4 g5 g6 g7 g8 g9 g10 g11 g12 g13
 go_loopw [7, 8, 9, 11] (fun _ _ _ iv wr => ∃ i : Nat, iv = .int .i64 i ∧ i ≤ 2 ∧ Fr w wr) (fun _ _ _ iv _ => 3 - (intOf iv).toNat)
 case atStart => exact ⟨0, rfl, by omega, Fr.refl _⟩
 case round =>
  obtain ⟨i, rfl, hi, hfr⟩ := hrel
  have HF := hideP hfr
  clear hfr
  match i, hi with
  | 0, _ =>
   have ik := trn_at0
   go_wp2_with fail
   go_roundw
   case rel => exact ⟨1, by go_num, by omega, HF.out.alloc _⟩
   case measure => simp [intOf]
  | 1, _ =>
   have ik := trn_at1
   go_wp2_with fail
   go_roundw
   case rel => exact ⟨2, by go_num, by omega, HF.out.alloc _⟩
   case measure => simp [intOf]
  | 2, _ =>
   have ik := trn_at2
   have FA := hideP (HF.out.alloc (.cells #[.int .i64 14, .int .i64 13] 151))
   go_wp2_with fail
   refine (HC.out _ FA.out).mono ?_
   rintro _ w3 ⟨rfl, f3⟩
   have F3 := hideP (FA.out.trans f3)
   clear f3
   go_wp2_with fail
   refine (not_any _ _).mono ?_
   rintro _ w4 ⟨rfl, rfl⟩
   go_wp2_with fail
   go_ret2
   exact ⟨rfl, F3.out⟩
theorem trn19 (v : Value) (T C : Int) (w : World) (hTn : Tn w) (hc : ∀ W, Fr w W → Calls Tryz.prog 99 #[.int .i64 18, v] W fun e w' => e = .returned (.tuple #[.int .i64 T, .int .i64 C]) ∧ Fr W w') (hv : ∃ a n c, v = .slice a n c) :
  Calls Tryz.prog 99 #[.int .i64 19, v] w fun e w' => e = .returned (.tuple #[.int .i64 (LG.not T), .int .i64 C]) ∧ Fr w w' := by
 have g0 : w.cell? ⟨0, 0, none⟩ = some (.int .i64 10) := hTn 0 (by decide)
 have g1 : w.cell? ⟨0, 1, none⟩ = some (.int .i64 11) := hTn 1 (by decide)
 have g2 : w.cell? ⟨0, 2, none⟩ = some (.int .i64 12) := hTn 2 (by decide)
 have g3 : w.cell? ⟨0, 3, none⟩ = some (.int .i64 15) := hTn 3 (by decide)
 have g4 : w.cell? ⟨0, 4, none⟩ = some (.int .i64 14) := hTn 4 (by decide)
 have g5 : w.cell? ⟨0, 5, none⟩ = some (.int .i64 13) := hTn 5 (by decide)
 have g6 : w.cell? ⟨0, 6, none⟩ = some (.int .i64 18) := hTn 6 (by decide)
 have g7 : w.cell? ⟨0, 7, none⟩ = some (.int .i64 19) := hTn 7 (by decide)
 have g8 : w.cell? ⟨0, 8, none⟩ = some (.int .i64 20) := hTn 8 (by decide)
 have g9 : w.cell? ⟨0, 9, none⟩ = some (.int .i64 21) := hTn 9 (by decide)
 have g10 : w.cell? ⟨0, 10, none⟩ = some (.int .i64 22) := hTn 10 (by decide)
 have g11 : w.cell? ⟨0, 11, none⟩ = some (.int .i64 23) := hTn 11 (by decide)
 have g12 : w.cell? ⟨0, 12, none⟩ = some (.int .i64 24) := hTn 12 (by decide)
 have g13 : w.cell? ⟨0, 13, none⟩ = some (.int .i64 25) := hTn 13 (by decide)
 obtain ⟨va, vn, vc, rfl⟩ := hv
 have HC := hideP hc
 clear hTn hc
 go_enter Tryz.func99, Tryz.ntmps99
 go_wp2_with fail
 clear g0 g1 g2 g3 g4 g5 g6 g7 g8 g9 g10 g11 g12 g13
 go_loopw [7, 8, 9, 11] (fun _ _ _ iv wr => ∃ i : Nat, iv = .int .i64 i ∧ i ≤ 3 ∧ Fr w wr) (fun _ _ _ iv _ => 4 - (intOf iv).toNat)
 case atStart => exact ⟨0, rfl, by omega, Fr.refl _⟩
 case round =>
  obtain ⟨i, rfl, hi, hfr⟩ := hrel
  have HF := hideP hfr
  clear hfr
  match i, hi with
  | 0, _ =>
   have ik := trn_at0
   go_wp2_with fail
   go_roundw
   case rel => exact ⟨1, by go_num, by omega, HF.out.alloc _⟩
   case measure => simp [intOf]
  | 1, _ =>
   have ik := trn_at1
   go_wp2_with fail
   go_roundw
   case rel => exact ⟨2, by go_num, by omega, HF.out.alloc _⟩
   case measure => simp [intOf]
  | 2, _ =>
   have ik := trn_at2
   go_wp2_with fail
   go_roundw
   case rel => exact ⟨3, by go_num, by omega, HF.out.alloc _⟩
   case measure => simp [intOf]
  | 3, _ =>
   have ik := trn_at3
   have FA := hideP (HF.out.alloc (.cells #[.int .i64 18, .int .i64 19] 151))
   go_wp2_with fail
   refine (HC.out _ FA.out).mono ?_
   rintro _ w3 ⟨rfl, f3⟩
   have F3 := hideP (FA.out.trans f3)
   clear f3
   go_wp2_with fail
   refine (not_any _ _).mono ?_
   rintro _ w4 ⟨rfl, rfl⟩
   go_wp2_with fail
   go_ret2
   exact ⟨rfl, F3.out⟩
theorem trn21 (v : Value) (T C : Int) (w : World) (hTn : Tn w) (hc : ∀ W, Fr w W → Calls Tryz.prog 99 #[.int .i64 20, v] W fun e w' => e = .returned (.tuple #[.int .i64 T, .int .i64 C]) ∧ Fr W w') (hv : ∃ a n c, v = .slice a n c) :
  Calls Tryz.prog 99 #[.int .i64 21, v] w fun e w' => e = .returned (.tuple #[.int .i64 (LG.not T), .int .i64 C]) ∧ Fr w w' := by
 have g0 : w.cell? ⟨0, 0, none⟩ = some (.int .i64 10) := hTn 0 (by decide)
 have g1 : w.cell? ⟨0, 1, none⟩ = some (.int .i64 11) := hTn 1 (by decide)
 have g2 : w.cell? ⟨0, 2, none⟩ = some (.int .i64 12) := hTn 2 (by decide)
 have g3 : w.cell? ⟨0, 3, none⟩ = some (.int .i64 15) := hTn 3 (by decide)
 have g4 : w.cell? ⟨0, 4, none⟩ = some (.int .i64 14) := hTn 4 (by decide)
 have g5 : w.cell? ⟨0, 5, none⟩ = some (.int .i64 13) := hTn 5 (by decide)
 have g6 : w.cell? ⟨0, 6, none⟩ = some (.int .i64 18) := hTn 6 (by decide)
 have g7 : w.cell? ⟨0, 7, none⟩ = some (.int .i64 19) := hTn 7 (by decide)
 have g8 : w.cell? ⟨0, 8, none⟩ = some (.int .i64 20) := hTn 8 (by decide)
 have g9 : w.cell? ⟨0, 9, none⟩ = some (.int .i64 21) := hTn 9 (by decide)
 have g10 : w.cell? ⟨0, 10, none⟩ = some (.int .i64 22) := hTn 10 (by decide)
 have g11 : w.cell? ⟨0, 11, none⟩ = some (.int .i64 23) := hTn 11 (by decide)
 have g12 : w.cell? ⟨0, 12, none⟩ = some (.int .i64 24) := hTn 12 (by decide)
 have g13 : w.cell? ⟨0, 13, none⟩ = some (.int .i64 25) := hTn 13 (by decide)
 obtain ⟨va, vn, vc, rfl⟩ := hv
 have HC := hideP hc
 clear hTn hc
 go_enter Tryz.func99, Tryz.ntmps99
 go_wp2_with fail
 clear g0 g1 g2 g3 g4 g5 g6 g7 g8 g9 g10 g11 g12 g13
 go_loopw [7, 8, 9, 11] (fun _ _ _ iv wr => ∃ i : Nat, iv = .int .i64 i ∧ i ≤ 4 ∧ Fr w wr) (fun _ _ _ iv _ => 5 - (intOf iv).toNat)
 case atStart => exact ⟨0, rfl, by omega, Fr.refl _⟩
 case round =>
  obtain ⟨i, rfl, hi, hfr⟩ := hrel
  have HF := hideP hfr
  clear hfr
  match i, hi with
  | 0, _ =>
   have ik := trn_at0
   go_wp2_with fail
   go_roundw
   case rel => exact ⟨1, by go_num, by omega, HF.out.alloc _⟩
   case measure => simp [intOf]
  | 1, _ =>
   have ik := trn_at1
   go_wp2_with fail
   go_roundw
   case rel => exact ⟨2, by go_num, by omega, HF.out.alloc _⟩
   case measure => simp [intOf]
  | 2, _ =>
   have ik := trn_at2
   go_wp2_with fail
   go_roundw
   case rel => exact ⟨3, by go_num, by omega, HF.out.alloc _⟩
   case measure => simp [intOf]
  | 3, _ =>
   have ik := trn_at3
   go_wp2_with fail
   go_roundw
   case rel => exact ⟨4, by go_num, by omega, HF.out.alloc _⟩
   case measure => simp [intOf]
  | 4, _ =>
   have ik := trn_at4
   have FA := hideP (HF.out.alloc (.cells #[.int .i64 20, .int .i64 21] 151))
   go_wp2_with fail
   refine (HC.out _ FA.out).mono ?_
   rintro _ w3 ⟨rfl, f3⟩
   have F3 := hideP (FA.out.trans f3)
   clear f3
   go_wp2_with fail
   refine (not_any _ _).mono ?_
   rintro _ w4 ⟨rfl, rfl⟩
   go_wp2_with fail
   go_ret2
   exact ⟨rfl, F3.out⟩
theorem trn23 (v : Value) (T C : Int) (w : World) (hTn : Tn w) (hc : ∀ W, Fr w W → Calls Tryz.prog 99 #[.int .i64 22, v] W fun e w' => e = .returned (.tuple #[.int .i64 T, .int .i64 C]) ∧ Fr W w') (hv : ∃ a n c, v = .slice a n c) :
  Calls Tryz.prog 99 #[.int .i64 23, v] w fun e w' => e = .returned (.tuple #[.int .i64 (LG.not T), .int .i64 C]) ∧ Fr w w' := by
 have g0 : w.cell? ⟨0, 0, none⟩ = some (.int .i64 10) := hTn 0 (by decide)
 have g1 : w.cell? ⟨0, 1, none⟩ = some (.int .i64 11) := hTn 1 (by decide)
 have g2 : w.cell? ⟨0, 2, none⟩ = some (.int .i64 12) := hTn 2 (by decide)
 have g3 : w.cell? ⟨0, 3, none⟩ = some (.int .i64 15) := hTn 3 (by decide)
 have g4 : w.cell? ⟨0, 4, none⟩ = some (.int .i64 14) := hTn 4 (by decide)
 have g5 : w.cell? ⟨0, 5, none⟩ = some (.int .i64 13) := hTn 5 (by decide)
 have g6 : w.cell? ⟨0, 6, none⟩ = some (.int .i64 18) := hTn 6 (by decide)
 have g7 : w.cell? ⟨0, 7, none⟩ = some (.int .i64 19) := hTn 7 (by decide)
 have g8 : w.cell? ⟨0, 8, none⟩ = some (.int .i64 20) := hTn 8 (by decide)
 have g9 : w.cell? ⟨0, 9, none⟩ = some (.int .i64 21) := hTn 9 (by decide)
 have g10 : w.cell? ⟨0, 10, none⟩ = some (.int .i64 22) := hTn 10 (by decide)
 have g11 : w.cell? ⟨0, 11, none⟩ = some (.int .i64 23) := hTn 11 (by decide)
 have g12 : w.cell? ⟨0, 12, none⟩ = some (.int .i64 24) := hTn 12 (by decide)
 have g13 : w.cell? ⟨0, 13, none⟩ = some (.int .i64 25) := hTn 13 (by decide)
 obtain ⟨va, vn, vc, rfl⟩ := hv
 have HC := hideP hc
 clear hTn hc
 go_enter Tryz.func99, Tryz.ntmps99
 go_wp2_with fail
 clear g0 g1 g2 g3 g4 g5 g6 g7 g8 g9 g10 g11 g12 g13
 go_loopw [7, 8, 9, 11] (fun _ _ _ iv wr => ∃ i : Nat, iv = .int .i64 i ∧ i ≤ 5 ∧ Fr w wr) (fun _ _ _ iv _ => 6 - (intOf iv).toNat)
 case atStart => exact ⟨0, rfl, by omega, Fr.refl _⟩
 case round =>
  obtain ⟨i, rfl, hi, hfr⟩ := hrel
  have HF := hideP hfr
  clear hfr
  match i, hi with
  | 0, _ =>
   have ik := trn_at0
   go_wp2_with fail
   go_roundw
   case rel => exact ⟨1, by go_num, by omega, HF.out.alloc _⟩
   case measure => simp [intOf]
  | 1, _ =>
   have ik := trn_at1
   go_wp2_with fail
   go_roundw
   case rel => exact ⟨2, by go_num, by omega, HF.out.alloc _⟩
   case measure => simp [intOf]
  | 2, _ =>
   have ik := trn_at2
   go_wp2_with fail
   go_roundw
   case rel => exact ⟨3, by go_num, by omega, HF.out.alloc _⟩
   case measure => simp [intOf]
  | 3, _ =>
   have ik := trn_at3
   go_wp2_with fail
   go_roundw
   case rel => exact ⟨4, by go_num, by omega, HF.out.alloc _⟩
   case measure => simp [intOf]
  | 4, _ =>
   have ik := trn_at4
   go_wp2_with fail
   go_roundw
   case rel => exact ⟨5, by go_num, by omega, HF.out.alloc _⟩
   case measure => simp [intOf]
  | 5, _ =>
   have ik := trn_at5
   have FA := hideP (HF.out.alloc (.cells #[.int .i64 22, .int .i64 23] 151))
   go_wp2_with fail
   refine (HC.out _ FA.out).mono ?_
   rintro _ w3 ⟨rfl, f3⟩
   have F3 := hideP (FA.out.trans f3)
   clear f3
   go_wp2_with fail
   refine (not_any _ _).mono ?_
   rintro _ w4 ⟨rfl, rfl⟩
   go_wp2_with fail
   go_ret2
   exact ⟨rfl, F3.out⟩
theorem trn25 (v : Value) (T C : Int) (w : World) (hTn : Tn w) (hc : ∀ W, Fr w W → Calls Tryz.prog 99 #[.int .i64 24, v] W fun e w' => e = .returned (.tuple #[.int .i64 T, .int .i64 C]) ∧ Fr W w') (hv : ∃ a n c, v = .slice a n c) :
  Calls Tryz.prog 99 #[.int .i64 25, v] w fun e w' => e = .returned (.tuple #[.int .i64 (LG.not T), .int .i64 C]) ∧ Fr w w' := by
 have g0 : w.cell? ⟨0, 0, none⟩ = some (.int .i64 10) := hTn 0 (by decide)
 have g1 : w.cell? ⟨0, 1, none⟩ = some (.int .i64 11) := hTn 1 (by decide)
 have g2 : w.cell? ⟨0, 2, none⟩ = some (.int .i64 12) := hTn 2 (by decide)
 have g3 : w.cell? ⟨0, 3, none⟩ = some (.int .i64 15) := hTn 3 (by decide)
 have g4 : w.cell? ⟨0, 4, none⟩ = some (.int .i64 14) := hTn 4 (by decide)
 have g5 : w.cell? ⟨0, 5, none⟩ = some (.int .i64 13) := hTn 5 (by decide)
 have g6 : w.cell? ⟨0, 6, none⟩ = some (.int .i64 18) := hTn 6 (by decide)
 have g7 : w.cell? ⟨0, 7, none⟩ = some (.int .i64 19) := hTn 7 (by decide)
 have g8 : w.cell? ⟨0, 8, none⟩ = some (.int .i64 20) := hTn 8 (by decide)
 have g9 : w.cell? ⟨0, 9, none⟩ = some (.int .i64 21) := hTn 9 (by decide)
 have g10 : w.cell? ⟨0, 10, none⟩ = some (.int .i64 22) := hTn 10 (by decide)
 have g11 : w.cell? ⟨0, 11, none⟩ = some (.int .i64 23) := hTn 11 (by decide)
 have g12 : w.cell? ⟨0, 12, none⟩ = some (.int .i64 24) := hTn 12 (by decide)
 have g13 : w.cell? ⟨0, 13, none⟩ = some (.int .i64 25) := hTn 13 (by decide)
 obtain ⟨va, vn, vc, rfl⟩ := hv
 have HC := hideP hc
 clear hTn hc
 go_enter Tryz.func99, Tryz.ntmps99
 go_wp2_with fail
 clear g0 g1 g2 g3 g4 g5 g6 g7 g8 g9 g10 g11 g12 g13
 go_loopw [7, 8, 9, 11] (fun _ _ _ iv wr => ∃ i : Nat, iv = .int .i64 i ∧ i ≤ 6 ∧ Fr w wr) (fun _ _ _ iv _ => 7 - (intOf iv).toNat)
 case atStart => exact ⟨0, rfl, by omega, Fr.refl _⟩
 case round =>
  obtain ⟨i, rfl, hi, hfr⟩ := hrel
  have HF := hideP hfr
  clear hfr
  match i, hi with
  | 0, _ =>
   have ik := trn_at0
   go_wp2_with fail
   go_roundw
   case rel => exact ⟨1, by go_num, by omega, HF.out.alloc _⟩
   case measure => simp [intOf]
  | 1, _ =>
   have ik := trn_at1
   go_wp2_with fail
   go_roundw
   case rel => exact ⟨2, by go_num, by omega, HF.out.alloc _⟩
   case measure => simp [intOf]
  | 2, _ =>
   have ik := trn_at2
   go_wp2_with fail
   go_roundw
   case rel => exact ⟨3, by go_num, by omega, HF.out.alloc _⟩
   case measure => simp [intOf]
  | 3, _ =>
   have ik := trn_at3
   go_wp2_with fail
   go_roundw
   case rel => exact ⟨4, by go_num, by omega, HF.out.alloc _⟩
   case measure => simp [intOf]
  | 4, _ =>
   have ik := trn_at4
   go_wp2_with fail
   go_roundw
   case rel => exact ⟨5, by go_num, by omega, HF.out.alloc _⟩
   case measure => simp [intOf]
  | 5, _ =>
   have ik := trn_at5
   go_wp2_with fail
   go_roundw
   case rel => exact ⟨6, by go_num, by omega, HF.out.alloc _⟩
   case measure => simp [intOf]
  | 6, _ =>
   have ik := trn_at6
   have FA := hideP (HF.out.alloc (.cells #[.int .i64 24, .int .i64 25] 151))
   go_wp2_with fail
   refine (HC.out _ FA.out).mono ?_
   rintro _ w3 ⟨rfl, f3⟩
   have F3 := hideP (FA.out.trans f3)
   clear f3
   go_wp2_with fail
   refine (not_any _ _).mono ?_
   rintro _ w4 ⟨rfl, rfl⟩
   go_wp2_with fail
   go_ret2
   exact ⟨rfl, F3.out⟩
end Go.Proofs.YtbcfdhimngoplaaGreatDoor
