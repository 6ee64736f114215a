/-
  signOf.
-/
import Derived.Test.YtoagobpkenfbkaaGreatDoorLxU
namespace Go.Proofs.YtoagobpkenfbkaaGreatDoor
open Go.ChangeShapes Go.WideShapes Go.ChangeAt Go.RowKit Go.Shelf
set_option linter.unusedVariables false
set_option linter.unusedSimpArgs false

/-- the first of these signs that a text begins by -/
def sgn (l : List UInt8) (L : List (List UInt8)) : Except Nat (LX.Tk × Nat) := match L.find? (fun p => LX.pre p l) with
  | some p => .ok (⟨5, 0, p⟩, p.length)
  | none => .error 1
theorem sgn_yes {l p : List UInt8} {L : List (List UInt8)} (h : LX.pre p l = true) : sgn l (p :: L) = .ok (⟨5, 0, p⟩, p.length) := by
  unfold sgn
  rw [List.find?_cons_of_pos (by exact h)]
theorem sgn_no {l p : List UInt8} {L : List (List UInt8)} (h : LX.pre p l = false) : sgn l (p :: L) = sgn l L := by
  unfold sgn
  rw [List.find?_cons_of_neg (by rw [h]; decide)]

theorem sgn_at0 : ∀ w, (Instr.index 74 (.agg #[.string ⟨#[60, 62]⟩, .string ⟨#[60, 61]⟩, .string ⟨#[62, 61]⟩, .string ⟨#[60]⟩, .string ⟨#[62]⟩, .string ⟨#[61]⟩, .string ⟨#[40]⟩, .string ⟨#[41]⟩, .string ⟨#[44]⟩, .string ⟨#[59]⟩, .string ⟨#[42]⟩, .string ⟨#[43]⟩, .string ⟨#[45]⟩, .string ⟨#[47]⟩, .string ⟨#[37]⟩]) (.int .i64 0)).run Tryz.prog w = .ok (.string ⟨#[60, 62]⟩) w := fun _ => by kernel_rfl
theorem sgn_at1 : ∀ w, (Instr.index 74 (.agg #[.string ⟨#[60, 62]⟩, .string ⟨#[60, 61]⟩, .string ⟨#[62, 61]⟩, .string ⟨#[60]⟩, .string ⟨#[62]⟩, .string ⟨#[61]⟩, .string ⟨#[40]⟩, .string ⟨#[41]⟩, .string ⟨#[44]⟩, .string ⟨#[59]⟩, .string ⟨#[42]⟩, .string ⟨#[43]⟩, .string ⟨#[45]⟩, .string ⟨#[47]⟩, .string ⟨#[37]⟩]) (.int .i64 1)).run Tryz.prog w = .ok (.string ⟨#[60, 61]⟩) w := fun _ => by kernel_rfl
theorem sgn_at2 : ∀ w, (Instr.index 74 (.agg #[.string ⟨#[60, 62]⟩, .string ⟨#[60, 61]⟩, .string ⟨#[62, 61]⟩, .string ⟨#[60]⟩, .string ⟨#[62]⟩, .string ⟨#[61]⟩, .string ⟨#[40]⟩, .string ⟨#[41]⟩, .string ⟨#[44]⟩, .string ⟨#[59]⟩, .string ⟨#[42]⟩, .string ⟨#[43]⟩, .string ⟨#[45]⟩, .string ⟨#[47]⟩, .string ⟨#[37]⟩]) (.int .i64 2)).run Tryz.prog w = .ok (.string ⟨#[62, 61]⟩) w := fun _ => by kernel_rfl
theorem sgn_at3 : ∀ w, (Instr.index 74 (.agg #[.string ⟨#[60, 62]⟩, .string ⟨#[60, 61]⟩, .string ⟨#[62, 61]⟩, .string ⟨#[60]⟩, .string ⟨#[62]⟩, .string ⟨#[61]⟩, .string ⟨#[40]⟩, .string ⟨#[41]⟩, .string ⟨#[44]⟩, .string ⟨#[59]⟩, .string ⟨#[42]⟩, .string ⟨#[43]⟩, .string ⟨#[45]⟩, .string ⟨#[47]⟩, .string ⟨#[37]⟩]) (.int .i64 3)).run Tryz.prog w = .ok (.string ⟨#[60]⟩) w := fun _ => by kernel_rfl
theorem sgn_at4 : ∀ w, (Instr.index 74 (.agg #[.string ⟨#[60, 62]⟩, .string ⟨#[60, 61]⟩, .string ⟨#[62, 61]⟩, .string ⟨#[60]⟩, .string ⟨#[62]⟩, .string ⟨#[61]⟩, .string ⟨#[40]⟩, .string ⟨#[41]⟩, .string ⟨#[44]⟩, .string ⟨#[59]⟩, .string ⟨#[42]⟩, .string ⟨#[43]⟩, .string ⟨#[45]⟩, .string ⟨#[47]⟩, .string ⟨#[37]⟩]) (.int .i64 4)).run Tryz.prog w = .ok (.string ⟨#[62]⟩) w := fun _ => by kernel_rfl
theorem sgn_at5 : ∀ w, (Instr.index 74 (.agg #[.string ⟨#[60, 62]⟩, .string ⟨#[60, 61]⟩, .string ⟨#[62, 61]⟩, .string ⟨#[60]⟩, .string ⟨#[62]⟩, .string ⟨#[61]⟩, .string ⟨#[40]⟩, .string ⟨#[41]⟩, .string ⟨#[44]⟩, .string ⟨#[59]⟩, .string ⟨#[42]⟩, .string ⟨#[43]⟩, .string ⟨#[45]⟩, .string ⟨#[47]⟩, .string ⟨#[37]⟩]) (.int .i64 5)).run Tryz.prog w = .ok (.string ⟨#[61]⟩) w := fun _ => by kernel_rfl
theorem sgn_at6 : ∀ w, (Instr.index 74 (.agg #[.string ⟨#[60, 62]⟩, .string ⟨#[60, 61]⟩, .string ⟨#[62, 61]⟩, .string ⟨#[60]⟩, .string ⟨#[62]⟩, .string ⟨#[61]⟩, .string ⟨#[40]⟩, .string ⟨#[41]⟩, .string ⟨#[44]⟩, .string ⟨#[59]⟩, .string ⟨#[42]⟩, .string ⟨#[43]⟩, .string ⟨#[45]⟩, .string ⟨#[47]⟩, .string ⟨#[37]⟩]) (.int .i64 6)).run Tryz.prog w = .ok (.string ⟨#[40]⟩) w := fun _ => by kernel_rfl
theorem sgn_at7 : ∀ w, (Instr.index 74 (.agg #[.string ⟨#[60, 62]⟩, .string ⟨#[60, 61]⟩, .string ⟨#[62, 61]⟩, .string ⟨#[60]⟩, .string ⟨#[62]⟩, .string ⟨#[61]⟩, .string ⟨#[40]⟩, .string ⟨#[41]⟩, .string ⟨#[44]⟩, .string ⟨#[59]⟩, .string ⟨#[42]⟩, .string ⟨#[43]⟩, .string ⟨#[45]⟩, .string ⟨#[47]⟩, .string ⟨#[37]⟩]) (.int .i64 7)).run Tryz.prog w = .ok (.string ⟨#[41]⟩) w := fun _ => by kernel_rfl
theorem sgn_at8 : ∀ w, (Instr.index 74 (.agg #[.string ⟨#[60, 62]⟩, .string ⟨#[60, 61]⟩, .string ⟨#[62, 61]⟩, .string ⟨#[60]⟩, .string ⟨#[62]⟩, .string ⟨#[61]⟩, .string ⟨#[40]⟩, .string ⟨#[41]⟩, .string ⟨#[44]⟩, .string ⟨#[59]⟩, .string ⟨#[42]⟩, .string ⟨#[43]⟩, .string ⟨#[45]⟩, .string ⟨#[47]⟩, .string ⟨#[37]⟩]) (.int .i64 8)).run Tryz.prog w = .ok (.string ⟨#[44]⟩) w := fun _ => by kernel_rfl
theorem sgn_at9 : ∀ w, (Instr.index 74 (.agg #[.string ⟨#[60, 62]⟩, .string ⟨#[60, 61]⟩, .string ⟨#[62, 61]⟩, .string ⟨#[60]⟩, .string ⟨#[62]⟩, .string ⟨#[61]⟩, .string ⟨#[40]⟩, .string ⟨#[41]⟩, .string ⟨#[44]⟩, .string ⟨#[59]⟩, .string ⟨#[42]⟩, .string ⟨#[43]⟩, .string ⟨#[45]⟩, .string ⟨#[47]⟩, .string ⟨#[37]⟩]) (.int .i64 9)).run Tryz.prog w = .ok (.string ⟨#[59]⟩) w := fun _ => by kernel_rfl
theorem sgn_at10 : ∀ w, (Instr.index 74 (.agg #[.string ⟨#[60, 62]⟩, .string ⟨#[60, 61]⟩, .string ⟨#[62, 61]⟩, .string ⟨#[60]⟩, .string ⟨#[62]⟩, .string ⟨#[61]⟩, .string ⟨#[40]⟩, .string ⟨#[41]⟩, .string ⟨#[44]⟩, .string ⟨#[59]⟩, .string ⟨#[42]⟩, .string ⟨#[43]⟩, .string ⟨#[45]⟩, .string ⟨#[47]⟩, .string ⟨#[37]⟩]) (.int .i64 10)).run Tryz.prog w = .ok (.string ⟨#[42]⟩) w := fun _ => by kernel_rfl
theorem sgn_at11 : ∀ w, (Instr.index 74 (.agg #[.string ⟨#[60, 62]⟩, .string ⟨#[60, 61]⟩, .string ⟨#[62, 61]⟩, .string ⟨#[60]⟩, .string ⟨#[62]⟩, .string ⟨#[61]⟩, .string ⟨#[40]⟩, .string ⟨#[41]⟩, .string ⟨#[44]⟩, .string ⟨#[59]⟩, .string ⟨#[42]⟩, .string ⟨#[43]⟩, .string ⟨#[45]⟩, .string ⟨#[47]⟩, .string ⟨#[37]⟩]) (.int .i64 11)).run Tryz.prog w = .ok (.string ⟨#[43]⟩) w := fun _ => by kernel_rfl
theorem sgn_at12 : ∀ w, (Instr.index 74 (.agg #[.string ⟨#[60, 62]⟩, .string ⟨#[60, 61]⟩, .string ⟨#[62, 61]⟩, .string ⟨#[60]⟩, .string ⟨#[62]⟩, .string ⟨#[61]⟩, .string ⟨#[40]⟩, .string ⟨#[41]⟩, .string ⟨#[44]⟩, .string ⟨#[59]⟩, .string ⟨#[42]⟩, .string ⟨#[43]⟩, .string ⟨#[45]⟩, .string ⟨#[47]⟩, .string ⟨#[37]⟩]) (.int .i64 12)).run Tryz.prog w = .ok (.string ⟨#[45]⟩) w := fun _ => by kernel_rfl
theorem sgn_at13 : ∀ w, (Instr.index 74 (.agg #[.string ⟨#[60, 62]⟩, .string ⟨#[60, 61]⟩, .string ⟨#[62, 61]⟩, .string ⟨#[60]⟩, .string ⟨#[62]⟩, .string ⟨#[61]⟩, .string ⟨#[40]⟩, .string ⟨#[41]⟩, .string ⟨#[44]⟩, .string ⟨#[59]⟩, .string ⟨#[42]⟩, .string ⟨#[43]⟩, .string ⟨#[45]⟩, .string ⟨#[47]⟩, .string ⟨#[37]⟩]) (.int .i64 13)).run Tryz.prog w = .ok (.string ⟨#[47]⟩) w := fun _ => by kernel_rfl
theorem sgn_at14 : ∀ w, (Instr.index 74 (.agg #[.string ⟨#[60, 62]⟩, .string ⟨#[60, 61]⟩, .string ⟨#[62, 61]⟩, .string ⟨#[60]⟩, .string ⟨#[62]⟩, .string ⟨#[61]⟩, .string ⟨#[40]⟩, .string ⟨#[41]⟩, .string ⟨#[44]⟩, .string ⟨#[59]⟩, .string ⟨#[42]⟩, .string ⟨#[43]⟩, .string ⟨#[45]⟩, .string ⟨#[47]⟩, .string ⟨#[37]⟩]) (.int .i64 14)).run Tryz.prog w = .ok (.string ⟨#[37]⟩) w := fun _ => by kernel_rfl

set_option maxRecDepth 100000 in
set_option maxHeartbeats 8000000 in
theorem signOf_any (s : ByteArray) (w : World) (hT : Tb w) :
    Calls Tryz.prog 39 #[.string s] w fun e w' => e = .returned (fsV (LX.sign s.data.toList)) ∧ Fr w w' := by
  obtain ⟨W0, hW0⟩ : ∃ W0, w.alloc (.cells #[.int .i64 0, .int .i64 0, .int .i64 0, .string ⟨#[]⟩] 29) = W0 := ⟨_, rfl⟩
  have f0 : Fr w W0 := by rw [← hW0]; exact (Fr.refl w).alloc _
  have hb0 : Bt W0 w.heap.size 0 0 0 ⟨#[]⟩ := by rw [← hW0]; exact Bt.new _ _ _ _ _
  have hS := (hT.fr f0).sgn
  have g0 : W0.cell? ⟨0, 0, none⟩ = some (.string ⟨#[60, 62]⟩) := hS 0 (by decide)
  have g1 : W0.cell? ⟨0, 1, none⟩ = some (.string ⟨#[60, 61]⟩) := hS 1 (by decide)
  have g2 : W0.cell? ⟨0, 2, none⟩ = some (.string ⟨#[62, 61]⟩) := hS 2 (by decide)
  have g3 : W0.cell? ⟨0, 3, none⟩ = some (.string ⟨#[60]⟩) := hS 3 (by decide)
  have g4 : W0.cell? ⟨0, 4, none⟩ = some (.string ⟨#[62]⟩) := hS 4 (by decide)
  have g5 : W0.cell? ⟨0, 5, none⟩ = some (.string ⟨#[61]⟩) := hS 5 (by decide)
  have g6 : W0.cell? ⟨0, 6, none⟩ = some (.string ⟨#[40]⟩) := hS 6 (by decide)
  have g7 : W0.cell? ⟨0, 7, none⟩ = some (.string ⟨#[41]⟩) := hS 7 (by decide)
  have g8 : W0.cell? ⟨0, 8, none⟩ = some (.string ⟨#[44]⟩) := hS 8 (by decide)
  have g9 : W0.cell? ⟨0, 9, none⟩ = some (.string ⟨#[59]⟩) := hS 9 (by decide)
  have g10 : W0.cell? ⟨0, 10, none⟩ = some (.string ⟨#[42]⟩) := hS 10 (by decide)
  have g11 : W0.cell? ⟨0, 11, none⟩ = some (.string ⟨#[43]⟩) := hS 11 (by decide)
  have g12 : W0.cell? ⟨0, 12, none⟩ = some (.string ⟨#[45]⟩) := hS 12 (by decide)
  have g13 : W0.cell? ⟨0, 13, none⟩ = some (.string ⟨#[47]⟩) := hS 13 (by decide)
  have g14 : W0.cell? ⟨0, 14, none⟩ = some (.string ⟨#[37]⟩) := hS 14 (by decide)
  have hc : ∀ p : List UInt8, Calls Tryz.prog 30 #[.string s, .string ⟨p.toArray⟩] W0 fun e w' => e = .returned (.bool (LX.pre p s.data.toList)) ∧ w' = W0 := fun p => by
    have c := Tryz.strings_HasPrefix s ⟨p.toArray⟩ W0
    rw [dl_mk] at c
    exact c
  obtain ⟨q, hq⟩ : ∃ q, LX.sign s.data.toList = q := ⟨_, rfl⟩
  have hq0 : q = sgn s.data.toList LX.signs := hq.symm
  rw [hq]
  rw [← hW0] at g0 g1 g2 g3 g4 g5 g6 g7 g8 g9 g10 g11 g12 g13 g14
  have HW : Hid _ := hW0
  have HQ : Hid _ := hq0
  have HC : Hid _ := hc
  have HB : Hid _ := hb0
  have HF : Hid _ := f0
  clear hW0 hq hq0 hS hc hb0 f0 hT
  go_enter Tryz.func39, Tryz.ntmps39
  go_wp2_with fail
  rw [HW.out]
  clear g0 g1 g2 g3 g4 g5 g6 g7 g8 g9 g10 g11 g12 g13 g14
  go_loopw [8] (fun iv wr => ∃ i : Nat, iv = .int .i64 i ∧ i ≤ 15 ∧ q = sgn s.data.toList (LX.signs.drop i) ∧ wr = W0) (fun iv _ => 15 - (intOf iv).toNat)
  case atStart => exact ⟨0, rfl, by omega, HQ.out, rfl⟩
  case round =>
    obtain ⟨i, rfl, hi, hR, rfl⟩ := hrel
    have hw : i = 0 ∨ i = 1 ∨ i = 2 ∨ i = 3 ∨ i = 4 ∨ i = 5 ∨ i = 6 ∨ i = 7 ∨ i = 8 ∨ i = 9 ∨ i = 10 ∨ i = 11 ∨ i = 12 ∨ i = 13 ∨ i = 14 ∨ i = 15 := by omega
    rcases hw with rfl | rfl | rfl | rfl | rfl | rfl | rfl | rfl | rfl | rfl | rfl | rfl | rfl | rfl | rfl | rfl
    · have ik := sgn_at0
      have hc := HC.out [60, 62]
      cases hp : LX.pre [60, 62] s.data.toList with
      | true =>
        rw [hp] at hc
        have HX : Hid (q = .ok (⟨5, 0, [60, 62]⟩, 2)) := hR.trans (sgn_yes hp)
        clear hR hp HC
        go_wp2_with fail
        refine hc.mono ?_
        rintro _ w1 ⟨rfl, rfl⟩
        have hb0 := HB.out
        have d0 := hb0.c0
        have d1 := hb0.c1
        have d2 := hb0.c2
        have d3 := hb0.c3
        have z0 := hb0.z 0
        have z1 := hb0.z 1
        have z2 := hb0.z 2
        have z3 := hb0.z 3
        clear hb0
        go_wp2_with fail
        refine bodyPost_ret (v := .tuple #[.agg #[.int .i64 5, .int .i64 0, .int .i64 0, .string ⟨#[60, 62]⟩], .int .i64 2, .int .i64 0]) (by simp [results, Tryz.results39, go_sem, d0, d1, d2, d3]) rfl ?_
        exact ⟨by rw [HX.out]; rfl, fr_set4 HF.out (Nat.le_refl _) _ _ _ _⟩
      | false =>
        rw [hp] at hc
        have HX : Hid (q = sgn s.data.toList (LX.signs.drop 1)) := hR.trans (sgn_no hp)
        clear hR hp HC
        go_wp2_with fail
        refine hc.mono ?_
        rintro _ w1 ⟨rfl, rfl⟩
        go_wp2_with fail
        go_roundw
        case rel => exact ⟨1, by first | rfl | go_num, by omega, HX.out, by first | rfl | trivial⟩
        case measure => simp [intOf]
    · have ik := sgn_at1
      have hc := HC.out [60, 61]
      cases hp : LX.pre [60, 61] s.data.toList with
      | true =>
        rw [hp] at hc
        have HX : Hid (q = .ok (⟨5, 0, [60, 61]⟩, 2)) := hR.trans (sgn_yes hp)
        clear hR hp HC
        go_wp2_with fail
        refine hc.mono ?_
        rintro _ w1 ⟨rfl, rfl⟩
        have hb0 := HB.out
        have d0 := hb0.c0
        have d1 := hb0.c1
        have d2 := hb0.c2
        have d3 := hb0.c3
        have z0 := hb0.z 0
        have z1 := hb0.z 1
        have z2 := hb0.z 2
        have z3 := hb0.z 3
        clear hb0
        go_wp2_with fail
        refine bodyPost_ret (v := .tuple #[.agg #[.int .i64 5, .int .i64 0, .int .i64 0, .string ⟨#[60, 61]⟩], .int .i64 2, .int .i64 0]) (by simp [results, Tryz.results39, go_sem, d0, d1, d2, d3]) rfl ?_
        exact ⟨by rw [HX.out]; rfl, fr_set4 HF.out (Nat.le_refl _) _ _ _ _⟩
      | false =>
        rw [hp] at hc
        have HX : Hid (q = sgn s.data.toList (LX.signs.drop 2)) := hR.trans (sgn_no hp)
        clear hR hp HC
        go_wp2_with fail
        refine hc.mono ?_
        rintro _ w1 ⟨rfl, rfl⟩
        go_wp2_with fail
        go_roundw
        case rel => exact ⟨2, by first | rfl | go_num, by omega, HX.out, by first | rfl | trivial⟩
        case measure => simp [intOf]
    · have ik := sgn_at2
      have hc := HC.out [62, 61]
      cases hp : LX.pre [62, 61] s.data.toList with
      | true =>
        rw [hp] at hc
        have HX : Hid (q = .ok (⟨5, 0, [62, 61]⟩, 2)) := hR.trans (sgn_yes hp)
        clear hR hp HC
        go_wp2_with fail
        refine hc.mono ?_
        rintro _ w1 ⟨rfl, rfl⟩
        have hb0 := HB.out
        have d0 := hb0.c0
        have d1 := hb0.c1
        have d2 := hb0.c2
        have d3 := hb0.c3
        have z0 := hb0.z 0
        have z1 := hb0.z 1
        have z2 := hb0.z 2
        have z3 := hb0.z 3
        clear hb0
        go_wp2_with fail
        refine bodyPost_ret (v := .tuple #[.agg #[.int .i64 5, .int .i64 0, .int .i64 0, .string ⟨#[62, 61]⟩], .int .i64 2, .int .i64 0]) (by simp [results, Tryz.results39, go_sem, d0, d1, d2, d3]) rfl ?_
        exact ⟨by rw [HX.out]; rfl, fr_set4 HF.out (Nat.le_refl _) _ _ _ _⟩
      | false =>
        rw [hp] at hc
        have HX : Hid (q = sgn s.data.toList (LX.signs.drop 3)) := hR.trans (sgn_no hp)
        clear hR hp HC
        go_wp2_with fail
        refine hc.mono ?_
        rintro _ w1 ⟨rfl, rfl⟩
        go_wp2_with fail
        go_roundw
        case rel => exact ⟨3, by first | rfl | go_num, by omega, HX.out, by first | rfl | trivial⟩
        case measure => simp [intOf]
    · have ik := sgn_at3
      have hc := HC.out [60]
      cases hp : LX.pre [60] s.data.toList with
      | true =>
        rw [hp] at hc
        have HX : Hid (q = .ok (⟨5, 0, [60]⟩, 1)) := hR.trans (sgn_yes hp)
        clear hR hp HC
        go_wp2_with fail
        refine hc.mono ?_
        rintro _ w1 ⟨rfl, rfl⟩
        have hb0 := HB.out
        have d0 := hb0.c0
        have d1 := hb0.c1
        have d2 := hb0.c2
        have d3 := hb0.c3
        have z0 := hb0.z 0
        have z1 := hb0.z 1
        have z2 := hb0.z 2
        have z3 := hb0.z 3
        clear hb0
        go_wp2_with fail
        refine bodyPost_ret (v := .tuple #[.agg #[.int .i64 5, .int .i64 0, .int .i64 0, .string ⟨#[60]⟩], .int .i64 1, .int .i64 0]) (by simp [results, Tryz.results39, go_sem, d0, d1, d2, d3]) rfl ?_
        exact ⟨by rw [HX.out]; rfl, fr_set4 HF.out (Nat.le_refl _) _ _ _ _⟩
      | false =>
        rw [hp] at hc
        have HX : Hid (q = sgn s.data.toList (LX.signs.drop 4)) := hR.trans (sgn_no hp)
        clear hR hp HC
        go_wp2_with fail
        refine hc.mono ?_
        rintro _ w1 ⟨rfl, rfl⟩
        go_wp2_with fail
        go_roundw
        case rel => exact ⟨4, by first | rfl | go_num, by omega, HX.out, by first | rfl | trivial⟩
        case measure => simp [intOf]
    · have ik := sgn_at4
      have hc := HC.out [62]
      cases hp : LX.pre [62] s.data.toList with
      | true =>
        rw [hp] at hc
        have HX : Hid (q = .ok (⟨5, 0, [62]⟩, 1)) := hR.trans (sgn_yes hp)
        clear hR hp HC
        go_wp2_with fail
        refine hc.mono ?_
        rintro _ w1 ⟨rfl, rfl⟩
        have hb0 := HB.out
        have d0 := hb0.c0
        have d1 := hb0.c1
        have d2 := hb0.c2
        have d3 := hb0.c3
        have z0 := hb0.z 0
        have z1 := hb0.z 1
        have z2 := hb0.z 2
        have z3 := hb0.z 3
        clear hb0
        go_wp2_with fail
        refine bodyPost_ret (v := .tuple #[.agg #[.int .i64 5, .int .i64 0, .int .i64 0, .string ⟨#[62]⟩], .int .i64 1, .int .i64 0]) (by simp [results, Tryz.results39, go_sem, d0, d1, d2, d3]) rfl ?_
        exact ⟨by rw [HX.out]; rfl, fr_set4 HF.out (Nat.le_refl _) _ _ _ _⟩
      | false =>
        rw [hp] at hc
        have HX : Hid (q = sgn s.data.toList (LX.signs.drop 5)) := hR.trans (sgn_no hp)
        clear hR hp HC
        go_wp2_with fail
        refine hc.mono ?_
        rintro _ w1 ⟨rfl, rfl⟩
        go_wp2_with fail
        go_roundw
        case rel => exact ⟨5, by first | rfl | go_num, by omega, HX.out, by first | rfl | trivial⟩
        case measure => simp [intOf]
    · have ik := sgn_at5
      have hc := HC.out [61]
      cases hp : LX.pre [61] s.data.toList with
      | true =>
        rw [hp] at hc
        have HX : Hid (q = .ok (⟨5, 0, [61]⟩, 1)) := hR.trans (sgn_yes hp)
        clear hR hp HC
        go_wp2_with fail
        refine hc.mono ?_
        rintro _ w1 ⟨rfl, rfl⟩
        have hb0 := HB.out
        have d0 := hb0.c0
        have d1 := hb0.c1
        have d2 := hb0.c2
        have d3 := hb0.c3
        have z0 := hb0.z 0
        have z1 := hb0.z 1
        have z2 := hb0.z 2
        have z3 := hb0.z 3
        clear hb0
        go_wp2_with fail
        refine bodyPost_ret (v := .tuple #[.agg #[.int .i64 5, .int .i64 0, .int .i64 0, .string ⟨#[61]⟩], .int .i64 1, .int .i64 0]) (by simp [results, Tryz.results39, go_sem, d0, d1, d2, d3]) rfl ?_
        exact ⟨by rw [HX.out]; rfl, fr_set4 HF.out (Nat.le_refl _) _ _ _ _⟩
      | false =>
        rw [hp] at hc
        have HX : Hid (q = sgn s.data.toList (LX.signs.drop 6)) := hR.trans (sgn_no hp)
        clear hR hp HC
        go_wp2_with fail
        refine hc.mono ?_
        rintro _ w1 ⟨rfl, rfl⟩
        go_wp2_with fail
        go_roundw
        case rel => exact ⟨6, by first | rfl | go_num, by omega, HX.out, by first | rfl | trivial⟩
        case measure => simp [intOf]
    · have ik := sgn_at6
      have hc := HC.out [40]
      cases hp : LX.pre [40] s.data.toList with
      | true =>
        rw [hp] at hc
        have HX : Hid (q = .ok (⟨5, 0, [40]⟩, 1)) := hR.trans (sgn_yes hp)
        clear hR hp HC
        go_wp2_with fail
        refine hc.mono ?_
        rintro _ w1 ⟨rfl, rfl⟩
        have hb0 := HB.out
        have d0 := hb0.c0
        have d1 := hb0.c1
        have d2 := hb0.c2
        have d3 := hb0.c3
        have z0 := hb0.z 0
        have z1 := hb0.z 1
        have z2 := hb0.z 2
        have z3 := hb0.z 3
        clear hb0
        go_wp2_with fail
        refine bodyPost_ret (v := .tuple #[.agg #[.int .i64 5, .int .i64 0, .int .i64 0, .string ⟨#[40]⟩], .int .i64 1, .int .i64 0]) (by simp [results, Tryz.results39, go_sem, d0, d1, d2, d3]) rfl ?_
        exact ⟨by rw [HX.out]; rfl, fr_set4 HF.out (Nat.le_refl _) _ _ _ _⟩
      | false =>
        rw [hp] at hc
        have HX : Hid (q = sgn s.data.toList (LX.signs.drop 7)) := hR.trans (sgn_no hp)
        clear hR hp HC
        go_wp2_with fail
        refine hc.mono ?_
        rintro _ w1 ⟨rfl, rfl⟩
        go_wp2_with fail
        go_roundw
        case rel => exact ⟨7, by first | rfl | go_num, by omega, HX.out, by first | rfl | trivial⟩
        case measure => simp [intOf]
    · have ik := sgn_at7
      have hc := HC.out [41]
      cases hp : LX.pre [41] s.data.toList with
      | true =>
        rw [hp] at hc
        have HX : Hid (q = .ok (⟨5, 0, [41]⟩, 1)) := hR.trans (sgn_yes hp)
        clear hR hp HC
        go_wp2_with fail
        refine hc.mono ?_
        rintro _ w1 ⟨rfl, rfl⟩
        have hb0 := HB.out
        have d0 := hb0.c0
        have d1 := hb0.c1
        have d2 := hb0.c2
        have d3 := hb0.c3
        have z0 := hb0.z 0
        have z1 := hb0.z 1
        have z2 := hb0.z 2
        have z3 := hb0.z 3
        clear hb0
        go_wp2_with fail
        refine bodyPost_ret (v := .tuple #[.agg #[.int .i64 5, .int .i64 0, .int .i64 0, .string ⟨#[41]⟩], .int .i64 1, .int .i64 0]) (by simp [results, Tryz.results39, go_sem, d0, d1, d2, d3]) rfl ?_
        exact ⟨by rw [HX.out]; rfl, fr_set4 HF.out (Nat.le_refl _) _ _ _ _⟩
      | false =>
        rw [hp] at hc
        have HX : Hid (q = sgn s.data.toList (LX.signs.drop 8)) := hR.trans (sgn_no hp)
        clear hR hp HC
        go_wp2_with fail
        refine hc.mono ?_
        rintro _ w1 ⟨rfl, rfl⟩
        go_wp2_with fail
        go_roundw
        case rel => exact ⟨8, by first | rfl | go_num, by omega, HX.out, by first | rfl | trivial⟩
        case measure => simp [intOf]
    · have ik := sgn_at8
      have hc := HC.out [44]
      cases hp : LX.pre [44] s.data.toList with
      | true =>
        rw [hp] at hc
        have HX : Hid (q = .ok (⟨5, 0, [44]⟩, 1)) := hR.trans (sgn_yes hp)
        clear hR hp HC
        go_wp2_with fail
        refine hc.mono ?_
        rintro _ w1 ⟨rfl, rfl⟩
        have hb0 := HB.out
        have d0 := hb0.c0
        have d1 := hb0.c1
        have d2 := hb0.c2
        have d3 := hb0.c3
        have z0 := hb0.z 0
        have z1 := hb0.z 1
        have z2 := hb0.z 2
        have z3 := hb0.z 3
        clear hb0
        go_wp2_with fail
        refine bodyPost_ret (v := .tuple #[.agg #[.int .i64 5, .int .i64 0, .int .i64 0, .string ⟨#[44]⟩], .int .i64 1, .int .i64 0]) (by simp [results, Tryz.results39, go_sem, d0, d1, d2, d3]) rfl ?_
        exact ⟨by rw [HX.out]; rfl, fr_set4 HF.out (Nat.le_refl _) _ _ _ _⟩
      | false =>
        rw [hp] at hc
        have HX : Hid (q = sgn s.data.toList (LX.signs.drop 9)) := hR.trans (sgn_no hp)
        clear hR hp HC
        go_wp2_with fail
        refine hc.mono ?_
        rintro _ w1 ⟨rfl, rfl⟩
        go_wp2_with fail
        go_roundw
        case rel => exact ⟨9, by first | rfl | go_num, by omega, HX.out, by first | rfl | trivial⟩
        case measure => simp [intOf]
    · have ik := sgn_at9
      have hc := HC.out [59]
      cases hp : LX.pre [59] s.data.toList with
      | true =>
        rw [hp] at hc
        have HX : Hid (q = .ok (⟨5, 0, [59]⟩, 1)) := hR.trans (sgn_yes hp)
        clear hR hp HC
        go_wp2_with fail
        refine hc.mono ?_
        rintro _ w1 ⟨rfl, rfl⟩
        have hb0 := HB.out
        have d0 := hb0.c0
        have d1 := hb0.c1
        have d2 := hb0.c2
        have d3 := hb0.c3
        have z0 := hb0.z 0
        have z1 := hb0.z 1
        have z2 := hb0.z 2
        have z3 := hb0.z 3
        clear hb0
        go_wp2_with fail
        refine bodyPost_ret (v := .tuple #[.agg #[.int .i64 5, .int .i64 0, .int .i64 0, .string ⟨#[59]⟩], .int .i64 1, .int .i64 0]) (by simp [results, Tryz.results39, go_sem, d0, d1, d2, d3]) rfl ?_
        exact ⟨by rw [HX.out]; rfl, fr_set4 HF.out (Nat.le_refl _) _ _ _ _⟩
      | false =>
        rw [hp] at hc
        have HX : Hid (q = sgn s.data.toList (LX.signs.drop 10)) := hR.trans (sgn_no hp)
        clear hR hp HC
        go_wp2_with fail
        refine hc.mono ?_
        rintro _ w1 ⟨rfl, rfl⟩
        go_wp2_with fail
        go_roundw
        case rel => exact ⟨10, by first | rfl | go_num, by omega, HX.out, by first | rfl | trivial⟩
        case measure => simp [intOf]
    · have ik := sgn_at10
      have hc := HC.out [42]
      cases hp : LX.pre [42] s.data.toList with
      | true =>
        rw [hp] at hc
        have HX : Hid (q = .ok (⟨5, 0, [42]⟩, 1)) := hR.trans (sgn_yes hp)
        clear hR hp HC
        go_wp2_with fail
        refine hc.mono ?_
        rintro _ w1 ⟨rfl, rfl⟩
        have hb0 := HB.out
        have d0 := hb0.c0
        have d1 := hb0.c1
        have d2 := hb0.c2
        have d3 := hb0.c3
        have z0 := hb0.z 0
        have z1 := hb0.z 1
        have z2 := hb0.z 2
        have z3 := hb0.z 3
        clear hb0
        go_wp2_with fail
        refine bodyPost_ret (v := .tuple #[.agg #[.int .i64 5, .int .i64 0, .int .i64 0, .string ⟨#[42]⟩], .int .i64 1, .int .i64 0]) (by simp [results, Tryz.results39, go_sem, d0, d1, d2, d3]) rfl ?_
        exact ⟨by rw [HX.out]; rfl, fr_set4 HF.out (Nat.le_refl _) _ _ _ _⟩
      | false =>
        rw [hp] at hc
        have HX : Hid (q = sgn s.data.toList (LX.signs.drop 11)) := hR.trans (sgn_no hp)
        clear hR hp HC
        go_wp2_with fail
        refine hc.mono ?_
        rintro _ w1 ⟨rfl, rfl⟩
        go_wp2_with fail
        go_roundw
        case rel => exact ⟨11, by first | rfl | go_num, by omega, HX.out, by first | rfl | trivial⟩
        case measure => simp [intOf]
    · have ik := sgn_at11
      have hc := HC.out [43]
      cases hp : LX.pre [43] s.data.toList with
      | true =>
        rw [hp] at hc
        have HX : Hid (q = .ok (⟨5, 0, [43]⟩, 1)) := hR.trans (sgn_yes hp)
        clear hR hp HC
        go_wp2_with fail
        refine hc.mono ?_
        rintro _ w1 ⟨rfl, rfl⟩
        have hb0 := HB.out
        have d0 := hb0.c0
        have d1 := hb0.c1
        have d2 := hb0.c2
        have d3 := hb0.c3
        have z0 := hb0.z 0
        have z1 := hb0.z 1
        have z2 := hb0.z 2
        have z3 := hb0.z 3
        clear hb0
        go_wp2_with fail
        refine bodyPost_ret (v := .tuple #[.agg #[.int .i64 5, .int .i64 0, .int .i64 0, .string ⟨#[43]⟩], .int .i64 1, .int .i64 0]) (by simp [results, Tryz.results39, go_sem, d0, d1, d2, d3]) rfl ?_
        exact ⟨by rw [HX.out]; rfl, fr_set4 HF.out (Nat.le_refl _) _ _ _ _⟩
      | false =>
        rw [hp] at hc
        have HX : Hid (q = sgn s.data.toList (LX.signs.drop 12)) := hR.trans (sgn_no hp)
        clear hR hp HC
        go_wp2_with fail
        refine hc.mono ?_
        rintro _ w1 ⟨rfl, rfl⟩
        go_wp2_with fail
        go_roundw
        case rel => exact ⟨12, by first | rfl | go_num, by omega, HX.out, by first | rfl | trivial⟩
        case measure => simp [intOf]
    · have ik := sgn_at12
      have hc := HC.out [45]
      cases hp : LX.pre [45] s.data.toList with
      | true =>
        rw [hp] at hc
        have HX : Hid (q = .ok (⟨5, 0, [45]⟩, 1)) := hR.trans (sgn_yes hp)
        clear hR hp HC
        go_wp2_with fail
        refine hc.mono ?_
        rintro _ w1 ⟨rfl, rfl⟩
        have hb0 := HB.out
        have d0 := hb0.c0
        have d1 := hb0.c1
        have d2 := hb0.c2
        have d3 := hb0.c3
        have z0 := hb0.z 0
        have z1 := hb0.z 1
        have z2 := hb0.z 2
        have z3 := hb0.z 3
        clear hb0
        go_wp2_with fail
        refine bodyPost_ret (v := .tuple #[.agg #[.int .i64 5, .int .i64 0, .int .i64 0, .string ⟨#[45]⟩], .int .i64 1, .int .i64 0]) (by simp [results, Tryz.results39, go_sem, d0, d1, d2, d3]) rfl ?_
        exact ⟨by rw [HX.out]; rfl, fr_set4 HF.out (Nat.le_refl _) _ _ _ _⟩
      | false =>
        rw [hp] at hc
        have HX : Hid (q = sgn s.data.toList (LX.signs.drop 13)) := hR.trans (sgn_no hp)
        clear hR hp HC
        go_wp2_with fail
        refine hc.mono ?_
        rintro _ w1 ⟨rfl, rfl⟩
        go_wp2_with fail
        go_roundw
        case rel => exact ⟨13, by first | rfl | go_num, by omega, HX.out, by first | rfl | trivial⟩
        case measure => simp [intOf]
    · have ik := sgn_at13
      have hc := HC.out [47]
      cases hp : LX.pre [47] s.data.toList with
      | true =>
        rw [hp] at hc
        have HX : Hid (q = .ok (⟨5, 0, [47]⟩, 1)) := hR.trans (sgn_yes hp)
        clear hR hp HC
        go_wp2_with fail
        refine hc.mono ?_
        rintro _ w1 ⟨rfl, rfl⟩
        have hb0 := HB.out
        have d0 := hb0.c0
        have d1 := hb0.c1
        have d2 := hb0.c2
        have d3 := hb0.c3
        have z0 := hb0.z 0
        have z1 := hb0.z 1
        have z2 := hb0.z 2
        have z3 := hb0.z 3
        clear hb0
        go_wp2_with fail
        refine bodyPost_ret (v := .tuple #[.agg #[.int .i64 5, .int .i64 0, .int .i64 0, .string ⟨#[47]⟩], .int .i64 1, .int .i64 0]) (by simp [results, Tryz.results39, go_sem, d0, d1, d2, d3]) rfl ?_
        exact ⟨by rw [HX.out]; rfl, fr_set4 HF.out (Nat.le_refl _) _ _ _ _⟩
      | false =>
        rw [hp] at hc
        have HX : Hid (q = sgn s.data.toList (LX.signs.drop 14)) := hR.trans (sgn_no hp)
        clear hR hp HC
        go_wp2_with fail
        refine hc.mono ?_
        rintro _ w1 ⟨rfl, rfl⟩
        go_wp2_with fail
        go_roundw
        case rel => exact ⟨14, by first | rfl | go_num, by omega, HX.out, by first | rfl | trivial⟩
        case measure => simp [intOf]
    · have ik := sgn_at14
      have hc := HC.out [37]
      cases hp : LX.pre [37] s.data.toList with
      | true =>
        rw [hp] at hc
        have HX : Hid (q = .ok (⟨5, 0, [37]⟩, 1)) := hR.trans (sgn_yes hp)
        clear hR hp HC
        go_wp2_with fail
        refine hc.mono ?_
        rintro _ w1 ⟨rfl, rfl⟩
        have hb0 := HB.out
        have d0 := hb0.c0
        have d1 := hb0.c1
        have d2 := hb0.c2
        have d3 := hb0.c3
        have z0 := hb0.z 0
        have z1 := hb0.z 1
        have z2 := hb0.z 2
        have z3 := hb0.z 3
        clear hb0
        go_wp2_with fail
        refine bodyPost_ret (v := .tuple #[.agg #[.int .i64 5, .int .i64 0, .int .i64 0, .string ⟨#[37]⟩], .int .i64 1, .int .i64 0]) (by simp [results, Tryz.results39, go_sem, d0, d1, d2, d3]) rfl ?_
        exact ⟨by rw [HX.out]; rfl, fr_set4 HF.out (Nat.le_refl _) _ _ _ _⟩
      | false =>
        rw [hp] at hc
        have HX : Hid (q = sgn s.data.toList (LX.signs.drop 15)) := hR.trans (sgn_no hp)
        clear hR hp HC
        go_wp2_with fail
        refine hc.mono ?_
        rintro _ w1 ⟨rfl, rfl⟩
        go_wp2_with fail
        go_roundw
        case rel => exact ⟨15, by first | rfl | go_num, by omega, HX.out, by first | rfl | trivial⟩
        case measure => simp [intOf]
    · have HX : Hid (q = .error 1) := hR
      clear hR HC
      have hb0 := HB.out
      have d0 := hb0.c0
      have d1 := hb0.c1
      have d2 := hb0.c2
      have d3 := hb0.c3
      have z0 := hb0.z 0
      have z1 := hb0.z 1
      have z2 := hb0.z 2
      have z3 := hb0.z 3
      clear hb0
      go_wp2_with fail
      refine bodyPost_ret (v := .tuple #[.agg #[.int .i64 0, .int .i64 0, .int .i64 0, .string ⟨#[]⟩], .int .i64 0, .int .i64 1]) (by simp [results, Tryz.results39, go_sem, d0, d1, d2, d3]) rfl ?_
      exact ⟨by rw [HX.out]; rfl, fr_set4 HF.out (Nat.le_refl _) _ _ _ _⟩
end Go.Proofs.YtoagobpkenfbkaaGreatDoor
