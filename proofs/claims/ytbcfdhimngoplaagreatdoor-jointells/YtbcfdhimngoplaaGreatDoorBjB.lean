/-
  The examples that the statements on lists of rows hold first are met.
-/
import Derived.Test.YtbcfdhimngoplaaGreatDoorBjA
namespace Go.Proofs.YtbcfdhimngoplaaGreatDoor
open Go.ChangeShapes Go.WideShapes Go.ChangeAt Go.RowKit
set_option linter.unusedVariables false
set_option linter.unusedSimpArgs false
set_option maxRecDepth 100000
set_option maxHeartbeats 40000000
def bj7_ty : Nat → TypeId
 | 4 => 61
 | 8 => 61
 | 10 => 33
 | _ => 0
def bj7_dp : Nat → List Nat
 | 4 => [4]
 | 5 => [4]
 | 8 => [8]
 | 9 => [8]
 | 10 => [10]
 | _ => []
def bj7_dv : Nat → List Nat
 | 10 => [5, 9]
 | 12 => [11]
 | 13 => [11]
 | 14 => [11]
 | 15 => [11]
 | 16 => [11]
 | _ => []
def bj7_val (rl gc : Nat) : Nat → List Nat → List Value → Value
 | 0, gs, vs => .slice (some ⟨rl, 0, none⟩) (3) (3)
 | 1, gs, vs => .slice (some ⟨rl, 0, none⟩) (1) (3)
 | 2, gs, vs => .slice (some ⟨gc, 0, none⟩) (2) (2)
 | 3, gs, vs => .agg #[.int .i64 (2), .int .i64 (0), .int .i64 (0), .int .i64 (0), .string (⟨#[]⟩), .string (⟨#[115]⟩)]
 | 4, gs, vs => .slice (some ⟨(gs.getD 0 0), 0, none⟩) (1) (1)
 | 5, gs, vs => .slice (some ⟨(gs.getD 0 0), 0, none⟩) (1) (1)
 | 6, gs, vs => .agg #[.int .i64 (2), .int .i64 (0), .int .i64 (0), .int .i64 (0), .string (⟨#[]⟩), .string (⟨#[110]⟩)]
 | 7, gs, vs => .agg #[.int .i64 (3), .int .i64 (1), .int .i64 (0), .int .i64 (0), .string (⟨#[]⟩), .string (⟨#[]⟩)]
 | 8, gs, vs => .slice (some ⟨(gs.getD 0 0), 0, none⟩) (2) (2)
 | 9, gs, vs => .slice (some ⟨(gs.getD 0 0), 0, none⟩) (2) (2)
 | 10, gs, vs => .slice (some ⟨(gs.getD 0 0), 0, none⟩) (2) (2)
 | 12, gs, vs => (vs.getD 0 undef)
 | 13, gs, vs => tupAt ((vs.getD 0 undef)) 0
 | 14, gs, vs => tupAt ((vs.getD 0 undef)) 1
 | 15, gs, vs => tupAt ((vs.getD 0 undef)) 0
 | 16, gs, vs => tupAt ((vs.getD 0 undef)) 1
 | _, _, _ => undef
def bj7_cont (rl gc : Nat) (Gf : Nat → Nat) (v : Nat → Value) (L : Nat → Bool) : Nat → Array Value
 | 4 => #[.int .i64 (2), .int .i64 (0), .int .i64 (0), .int .i64 (0), .string (⟨#[]⟩), .string (⟨#[115]⟩)]
 | 8 => #[.int .i64 (2), .int .i64 (0), .int .i64 (0), .int .i64 (0), .string (⟨#[]⟩), .string (⟨#[110]⟩), .int .i64 (3), .int .i64 (1), .int .i64 (0), .int .i64 (0), .string (⟨#[]⟩), .string (⟨#[]⟩)]
 | 10 => #[(v 5), (v 9)]
 | _ => #[]
def bj7_X (rl gc : Nat) : Nat → List Nat → List Value → Value → World → Prop
 | 11, gs, vs, x, w => ∃ a c, x = .tuple #[.slice a 1 c, .int .i64 0] ∧ IsRR w (.slice a 1 c) [[BJ.tb, BJ.vi (-2)]]
 | _, _, _, _, _ => True
def bj7 (rl gc : Nat) : Sp := { As := [4, 8, 10], ty := bj7_ty, deps := bj7_dp, dv := bj7_dv, val := bj7_val rl gc, cont := bj7_cont rl gc, Xs := [11], cons := fun _ => [], X := bj7_X rl gc }
theorem bj7_st (rl gc : Nat) : ∀ j gs vs z9 (w w' : World), (bj7 rl gc).X j gs vs z9 w → Fr w w' → (bj7 rl gc).X j gs vs z9 w' := fun j gs vs z9 w w' h f => by
 change bj7_X rl gc j gs vs z9 w at h
 show bj7_X rl gc j gs vs z9 w'
 by_cases h11 : j = 11
 ·
  subst h11
  obtain ⟨a9, c9, e9, hh⟩ := h
  exact ⟨a9, c9, e9, hh.fr f⟩
 unfold bj7_X
 split
 · exact absurd rfl h11
 · exact trivial
def bj8_ty : Nat → TypeId
 | _ => 0
def bj8_dp : Nat → List Nat
 | _ => []
def bj8_dv : Nat → List Nat
 | 5 => [4]
 | 6 => [4]
 | 7 => [4]
 | 8 => [4]
 | 9 => [4]
 | _ => []
def bj8_val (rl : Nat) : Nat → List Nat → List Value → Value
 | 0, gs, vs => .slice (some ⟨rl, 0, none⟩) (3) (3)
 | 1, gs, vs => .slice (some ⟨rl, 0, none⟩) (1) (3)
 | 2, gs, vs => .slice (some ⟨rl, 0, none⟩) (3) (3)
 | 3, gs, vs => .slice (some ⟨rl, 0, none⟩) (2) (3)
 | 5, gs, vs => (vs.getD 0 undef)
 | 6, gs, vs => tupAt ((vs.getD 0 undef)) 0
 | 7, gs, vs => tupAt ((vs.getD 0 undef)) 1
 | 8, gs, vs => tupAt ((vs.getD 0 undef)) 0
 | 9, gs, vs => tupAt ((vs.getD 0 undef)) 1
 | _, _, _ => undef
def bj8_cont (rl : Nat) (Gf : Nat → Nat) (v : Nat → Value) (L : Nat → Bool) : Nat → Array Value
 | _ => #[]
def bj8_X (rl : Nat) : Nat → List Nat → List Value → Value → World → Prop
 | 4, gs, vs, x, w => ∃ a c, x = .tuple #[.slice a 2 c, .int .i64 0] ∧ IsRR w (.slice a 2 c) [[BJ.vi 2, BJ.tb, BJ.vi 2, BJ.tb], [BJ.vi 2, BJ.tb, BJ.vi 1, BJ.tb]]
 | _, _, _, _, _ => True
def bj8 (rl : Nat) : Sp := { As := [], ty := bj8_ty, deps := bj8_dp, dv := bj8_dv, val := bj8_val rl, cont := bj8_cont rl, Xs := [4], cons := fun _ => [], X := bj8_X rl }
theorem bj8_st (rl : Nat) : ∀ j gs vs z9 (w w' : World), (bj8 rl).X j gs vs z9 w → Fr w w' → (bj8 rl).X j gs vs z9 w' := fun j gs vs z9 w w' h f => by
 change bj8_X rl j gs vs z9 w at h
 show bj8_X rl j gs vs z9 w'
 by_cases h4 : j = 4
 ·
  subst h4
  obtain ⟨a9, c9, e9, hh⟩ := h
  exact ⟨a9, c9, e9, hh.fr f⟩
 unfold bj8_X
 split
 · exact absurd rfl h4
 · exact trivial
def bja_ty : Nat → TypeId
 | 10 => 31
 | 29 => 31
 | 52 => 56
 | 54 => 31
 | 66 => 56
 | 68 => 31
 | 111 => 31
 | _ => 0
def bja_dp : Nat → List Nat
 | 10 => [10]
 | 11 => [10]
 | 29 => [29]
 | 30 => [29]
 | 52 => [52]
 | 53 => [52]
 | 54 => [54]
 | 55 => [54]
 | 66 => [66]
 | 67 => [66]
 | 68 => [68]
 | 69 => [68]
 | 111 => [111]
 | 112 => [111]
 | _ => []
def bja_dv : Nat → List Nat
 | 54 => [53]
 | 68 => [67]
 | _ => []
def bja_val (rl gc r0 r1 r2 uc sc dc pc jc nb no nc qb qo qc mc : Nat) (ua sa da pa ja ma : Option Addr) : Nat → List Nat → List Value → Value
 | 0, gs, vs => .int .i64 (0)
 | 1, gs, vs => .bool true
 | 2, gs, vs => .bool true
 | 3, gs, vs => .slice (ua) (2) (uc)
 | 4, gs, vs => .slice (some ⟨rl, 0, none⟩) (3) (3)
 | 5, gs, vs => .pointer (some ⟨rl, 0, none⟩)
 | 6, gs, vs => .slice (some ⟨r0, 0, none⟩) (2) (2)
 | 7, gs, vs => .slice (some ⟨rl, 0, none⟩) (3) (3)
 | 8, gs, vs => .pointer (some ⟨rl, 2, none⟩)
 | 9, gs, vs => .slice (some ⟨r2, 0, none⟩) (2) (2)
 | 10, gs, vs => .slice (some ⟨(gs.getD 0 0), 0, none⟩) (2) (2)
 | 11, gs, vs => .slice (some ⟨(gs.getD 0 0), 0, none⟩) (2) (2)
 | 12, gs, vs => .bool true
 | 13, gs, vs => .bool true
 | 14, gs, vs => .bool true
 | 15, gs, vs => .int .i64 (0)
 | 16, gs, vs => .bool true
 | 17, gs, vs => .bool true
 | 18, gs, vs => .bool true
 | 19, gs, vs => .slice (sa) (3) (sc)
 | 20, gs, vs => .slice (some ⟨rl, 0, none⟩) (3) (3)
 | 21, gs, vs => .pointer (some ⟨rl, 1, none⟩)
 | 22, gs, vs => .slice (some ⟨r1, 0, none⟩) (2) (2)
 | 23, gs, vs => .slice (some ⟨rl, 0, none⟩) (3) (3)
 | 24, gs, vs => .pointer (some ⟨rl, 0, none⟩)
 | 25, gs, vs => .slice (some ⟨r0, 0, none⟩) (2) (2)
 | 26, gs, vs => .slice (some ⟨rl, 0, none⟩) (3) (3)
 | 27, gs, vs => .pointer (some ⟨rl, 2, none⟩)
 | 28, gs, vs => .slice (some ⟨r2, 0, none⟩) (2) (2)
 | 29, gs, vs => .slice (some ⟨(gs.getD 0 0), 0, none⟩) (3) (3)
 | 30, gs, vs => .slice (some ⟨(gs.getD 0 0), 0, none⟩) (3) (3)
 | 31, gs, vs => .bool true
 | 32, gs, vs => .bool true
 | 33, gs, vs => .bool true
 | 34, gs, vs => .int .i64 (0)
 | 35, gs, vs => .bool true
 | 36, gs, vs => .bool true
 | 37, gs, vs => .bool true
 | 38, gs, vs => .slice (da) (2) (dc)
 | 39, gs, vs => .slice (some ⟨rl, 0, none⟩) (3) (3)
 | 40, gs, vs => .slice (some ⟨rl, 0, none⟩) (2) (3)
 | 41, gs, vs => .bool true
 | 42, gs, vs => .bool true
 | 43, gs, vs => .bool true
 | 44, gs, vs => .int .i64 (0)
 | 45, gs, vs => .bool true
 | 46, gs, vs => .bool true
 | 47, gs, vs => .bool true
 | 48, gs, vs => .slice (pa) (1) (pc)
 | 49, gs, vs => .agg #[.int .i64 (2), .int .i64 (0), .string (⟨#[98]⟩)]
 | 50, gs, vs => .agg #[.int .i64 (1), .int .i64 (5), .string (⟨#[]⟩)]
 | 51, gs, vs => .agg #[.int .i64 (1), .int .i64 (3), .string (⟨#[]⟩)]
 | 52, gs, vs => .slice (some ⟨(gs.getD 0 0), 0, none⟩) (3) (3)
 | 53, gs, vs => .slice (some ⟨(gs.getD 0 0), 0, none⟩) (3) (3)
 | 54, gs, vs => .slice (some ⟨(gs.getD 0 0), 0, none⟩) (1) (1)
 | 55, gs, vs => .slice (some ⟨(gs.getD 0 0), 0, none⟩) (1) (1)
 | 56, gs, vs => .bool true
 | 57, gs, vs => .bool true
 | 58, gs, vs => .bool true
 | 59, gs, vs => .int .i64 (0)
 | 60, gs, vs => .bool true
 | 61, gs, vs => .bool true
 | 62, gs, vs => .bool true
 | 63, gs, vs => .slice (ja) (1) (jc)
 | 64, gs, vs => .agg #[.int .i64 (2), .int .i64 (0), .string (⟨#[98]⟩)]
 | 65, gs, vs => .agg #[.int .i64 (1), .int .i64 (-2), .string (⟨#[]⟩)]
 | 66, gs, vs => .slice (some ⟨(gs.getD 0 0), 0, none⟩) (2) (2)
 | 67, gs, vs => .slice (some ⟨(gs.getD 0 0), 0, none⟩) (2) (2)
 | 68, gs, vs => .slice (some ⟨(gs.getD 0 0), 0, none⟩) (1) (1)
 | 69, gs, vs => .slice (some ⟨(gs.getD 0 0), 0, none⟩) (1) (1)
 | 70, gs, vs => .bool true
 | 71, gs, vs => .bool true
 | 72, gs, vs => .bool true
 | 73, gs, vs => .int .i64 (0)
 | 74, gs, vs => .bool true
 | 75, gs, vs => .bool true
 | 76, gs, vs => .bool true
 | 77, gs, vs => .slice (some ⟨nb, no, none⟩) (2) (nc)
 | 78, gs, vs => .int .i64 (2)
 | 79, gs, vs => .bool true
 | 80, gs, vs => .bool true
 | 81, gs, vs => .bool true
 | 82, gs, vs => .slice (some ⟨nb, no, none⟩) (2) (nc)
 | 83, gs, vs => .pointer (some ⟨nb, no + 1, none⟩)
 | 84, gs, vs => .slice (some ⟨qb, qo, none⟩) (4) (qc)
 | 85, gs, vs => .int .i64 (4)
 | 86, gs, vs => .bool true
 | 87, gs, vs => .bool true
 | 88, gs, vs => .bool true
 | 89, gs, vs => .slice (some ⟨nb, no, none⟩) (2) (nc)
 | 90, gs, vs => .pointer (some ⟨nb, no + 1, none⟩)
 | 91, gs, vs => .slice (some ⟨qb, qo, none⟩) (4) (qc)
 | 92, gs, vs => .pointer (some ⟨qb, qo + 6, none⟩)
 | 93, gs, vs => .agg #[.int .i64 (1), .int .i64 (1), .string (⟨#[]⟩)]
 | 94, gs, vs => .agg #[.int .i64 (1), .int .i64 (1), .string (⟨#[]⟩)]
 | 95, gs, vs => .bool true
 | 96, gs, vs => .bool true
 | 97, gs, vs => .bool true
 | 98, gs, vs => .int .i64 (0)
 | 99, gs, vs => .bool true
 | 100, gs, vs => .bool true
 | 101, gs, vs => .bool true
 | 102, gs, vs => .slice (ma) (1) (mc)
 | 103, gs, vs => .slice (some ⟨rl, 0, none⟩) (3) (3)
 | 104, gs, vs => .slice (some ⟨rl, 1, none⟩) (1) (2)
 | 105, gs, vs => .bool true
 | 106, gs, vs => .bool true
 | 107, gs, vs => .bool true
 | 108, gs, vs => .slice (some ⟨rl, 0, none⟩) (3) (3)
 | 109, gs, vs => .pointer (some ⟨rl, 0, none⟩)
 | 110, gs, vs => .slice (some ⟨r0, 0, none⟩) (2) (2)
 | 111, gs, vs => .slice (some ⟨(gs.getD 0 0), 0, none⟩) (2) (2)
 | 112, gs, vs => .slice (some ⟨(gs.getD 0 0), 0, none⟩) (2) (2)
 | 113, gs, vs => .int .i64 (1)
 | 114, gs, vs => .bool true
 | 115, gs, vs => .bool true
 | 116, gs, vs => .bool true
 | _, _, _ => undef
def bja_cont (rl gc r0 r1 r2 uc sc dc pc jc nb no nc qb qo qc mc : Nat) (ua sa da pa ja ma : Option Addr) (Gf : Nat → Nat) (v : Nat → Value) (L : Nat → Bool) : Nat → Array Value
 | 10 => #[.slice (some ⟨r0, 0, none⟩) (2) (2), .slice (some ⟨r2, 0, none⟩) (2) (2)]
 | 29 => #[.slice (some ⟨r1, 0, none⟩) (2) (2), .slice (some ⟨r0, 0, none⟩) (2) (2), .slice (some ⟨r2, 0, none⟩) (2) (2)]
 | 52 => #[.int .i64 (2), .int .i64 (0), .string (⟨#[98]⟩), .int .i64 (1), .int .i64 (5), .string (⟨#[]⟩), .int .i64 (1), .int .i64 (3), .string (⟨#[]⟩)]
 | 54 => #[(v 53)]
 | 66 => #[.int .i64 (2), .int .i64 (0), .string (⟨#[98]⟩), .int .i64 (1), .int .i64 (-2), .string (⟨#[]⟩)]
 | 68 => #[(v 67)]
 | 111 => #[.slice none 0 0, .slice (some ⟨r0, 0, none⟩) (2) (2)]
 | _ => #[]
def bja_X (rl gc r0 r1 r2 uc sc dc pc jc nb no nc qb qo qc mc : Nat) (ua sa da pa ja ma : Option Addr) : Nat → List Nat → List Value → Value → World → Prop
 | _, _, _, _, _ => True
def bja (rl gc r0 r1 r2 uc sc dc pc jc nb no nc qb qo qc mc : Nat) (ua sa da pa ja ma : Option Addr) : Sp := { As := [10, 29, 52, 54, 66, 68, 111], ty := bja_ty, deps := bja_dp, dv := bja_dv, val := bja_val rl gc r0 r1 r2 uc sc dc pc jc nb no nc qb qo qc mc ua sa da pa ja ma, cont := bja_cont rl gc r0 r1 r2 uc sc dc pc jc nb no nc qb qo qc mc ua sa da pa ja ma, Xs := [], cons := fun _ => [], X := bja_X rl gc r0 r1 r2 uc sc dc pc jc nb no nc qb qo qc mc ua sa da pa ja ma }
set_option maxHeartbeats 40000000 in
theorem bja_st (rl gc r0 r1 r2 uc sc dc pc jc nb no nc qb qo qc mc : Nat) (ua sa da pa ja ma : Option Addr) : ∀ j gs vs z9 (w w' : World), (bja rl gc r0 r1 r2 uc sc dc pc jc nb no nc qb qo qc mc ua sa da pa ja ma).X j gs vs z9 w → Fr w w' → (bja rl gc r0 r1 r2 uc sc dc pc jc nb no nc qb qo qc mc ua sa da pa ja ma).X j gs vs z9 w' := fun j gs vs z9 w w' h f => by
 show bja_X rl gc r0 r1 r2 uc sc dc pc jc nb no nc qb qo qc mc ua sa da pa ja ma j gs vs z9 w'
 unfold bja_X
 exact trivial
theorem no0 {L : Nat → Bool} : ∀ d ∈ ([] : List Nat), L d = true := fun d hd => by cases hd
theorem no1 {L : Nat → Bool} {a : Nat} (h : L a = true) : ∀ d ∈ [a], L d = true := fun d hd => by
 cases hd with
 | head => exact h
 | tail _ hd => cases hd
theorem bj7_pure {rl gc : Nat} {W w w' : World} {G : Nat → Nat} {L : Nat → Bool} {v : Nat → Value} (J : RZ (bj7 rl gc) W G L v w) (i : Nat) (hno : L i = false) (hA : i ∉ ([4, 8, 10] : List Nat)) (hX : i ∉ ([11] : List Nat)) (hd : ∀ d ∈ bj7_dp i, L d = true) (hw : ∀ d ∈ bj7_dv i, L d = true) (f : Fr w w') : RZ (bj7 rl gc) W G (updL L i) (upd v i (bj7_val rl gc i ((bj7_dp i).map G) ((bj7_dv i).map v))) w' := by
 refine J.pure i hno hA hX hd hw f (bj7_st rl gc) fun k hk hkL => ?_
 change k ∈ ([4, 8, 10] : List Nat) at hk
 have nv : ∀ d, d ∈ ([5, 9] : List Nat) → k = 10 → d ≠ i := fun d h e1 e2 => by
  subst e1 e2
  rw [J.nov (k := 10) hno h] at hkL
  cases hkL
 simp only [List.mem_cons, List.not_mem_nil, or_false] at hk
 rcases hk with rfl | rfl | rfl
 · rfl
 · rfl
 ·
  show #[upd v i _ 5, upd v i _ 9] = #[v 5, v 9]
  rw [upd_ne (nv 5 (by decide) rfl), upd_ne (nv 9 (by decide) rfl)]
theorem bja_pure {rl gc r0 r1 r2 uc sc dc pc jc nb no nc qb qo qc mc : Nat} {ua sa da pa ja ma : Option Addr} {W w w' : World} {G : Nat → Nat} {L : Nat → Bool} {v : Nat → Value} (J : RZ (bja rl gc r0 r1 r2 uc sc dc pc jc nb no nc qb qo qc mc ua sa da pa ja ma) W G L v w) (i : Nat) (hno : L i = false) (hA : i ∉ ([10, 29, 52, 54, 66, 68, 111] : List Nat)) (hd : ∀ d ∈ bja_dp i, L d = true) (hw : ∀ d ∈ bja_dv i, L d = true) (f : Fr w w') : RZ (bja rl gc r0 r1 r2 uc sc dc pc jc nb no nc qb qo qc mc ua sa da pa ja ma) W G (updL L i) (upd v i (bja_val rl gc r0 r1 r2 uc sc dc pc jc nb no nc qb qo qc mc ua sa da pa ja ma i ((bja_dp i).map G) ((bja_dv i).map v))) w' := by
 refine J.pure i hno hA (fun h => by cases h) hd hw f (bja_st rl gc r0 r1 r2 uc sc dc pc jc nb no nc qb qo qc mc ua sa da pa ja ma) fun k hk hkL => ?_
 change k ∈ ([10, 29, 52, 54, 66, 68, 111] : List Nat) at hk
 have nv : ∀ k' d, d ∈ bja_dv k' → k = k' → d ≠ i := fun k' d h e1 e2 => by
  subst e1 e2
  rw [J.nov (k := k) hno h] at hkL
  cases hkL
 simp only [List.mem_cons, List.not_mem_nil, or_false] at hk
 rcases hk with rfl | rfl | rfl | rfl | rfl | rfl | rfl
 · rfl
 · rfl
 · rfl
 ·
  show #[upd v i _ 53] = #[v 53]
  rw [upd_ne (nv 54 53 (by decide) rfl)]
 · rfl
 ·
  show #[upd v i _ 67] = #[v 67]
  rw [upd_ne (nv 68 67 (by decide) rfl)]
 · rfl
theorem bagBegun_any (w : World) (hTn : Tn w) (hT : Tb w) : Calls Tryz.prog 12 #[] w fun e w' => e = .returned (.bool true) ∧ Fr w w' := by
 have FW := hideP (Fr.refl w)
 have HTn := hideP hTn
 have HT := hideP hT
 clear hTn hT
 go_enter Tryz.func12, Tryz.ntmps12
 go_wp2_with fail
 refine (vInt_any 2 _).mono ?_
 rintro _ w1 ⟨rfl, f1⟩
 replace FW := hideP (FW.out.trans f1)
 clear f1
 go_wp2_with fail
 refine (vText_any ⟨#[98]⟩ _).mono ?_
 rintro _ w2 ⟨rfl, f2⟩
 replace FW := hideP (FW.out.trans f2)
 clear f2
 have HB0 := hideP (Blk.new w2 #[.int .i64 1, .int .i64 2, .string ⟨#[]⟩, .int .i64 2, .int .i64 0, .string ⟨#[98]⟩] 56)
 have g3 : Fr w2 (w2.alloc (.cells #[.int .i64 1, .int .i64 2, .string ⟨#[]⟩, .int .i64 2, .int .i64 0, .string ⟨#[98]⟩] 56)) := (Fr.refl _).alloc _
 replace FW := hideP (FW.out.trans g3)
 clear g3
 go_wp2_with fail
 generalize w2.alloc (.cells #[.int .i64 1, .int .i64 2, .string ⟨#[]⟩, .int .i64 2, .int .i64 0, .string ⟨#[98]⟩] 56) = w3 at *
 generalize w2.heap.size = r0 at *
 refine (rowOf_any _ _ _ _).mono ?_
 rintro _ w4 ⟨rfl, rfl⟩
 go_wp2_with fail
 refine (vInt_any 1 _).mono ?_
 rintro _ w5 ⟨rfl, f5⟩
 replace FW := hideP (FW.out.trans f5)
 replace HB0 := hideP (HB0.out.fr f5)
 clear f5
 go_wp2_with fail
 refine (vText_any ⟨#[98]⟩ _).mono ?_
 rintro _ w6 ⟨rfl, f6⟩
 replace FW := hideP (FW.out.trans f6)
 replace HB0 := hideP (HB0.out.fr f6)
 clear f6
 have HB1 := hideP (Blk.new w6 #[.int .i64 1, .int .i64 1, .string ⟨#[]⟩, .int .i64 2, .int .i64 0, .string ⟨#[98]⟩] 56)
 have g7 : Fr w6 (w6.alloc (.cells #[.int .i64 1, .int .i64 1, .string ⟨#[]⟩, .int .i64 2, .int .i64 0, .string ⟨#[98]⟩] 56)) := (Fr.refl _).alloc _
 replace FW := hideP (FW.out.trans g7)
 replace HB0 := hideP (HB0.out.fr g7)
 clear g7
 go_wp2_with fail
 generalize w6.alloc (.cells #[.int .i64 1, .int .i64 1, .string ⟨#[]⟩, .int .i64 2, .int .i64 0, .string ⟨#[98]⟩] 56) = w7 at *
 generalize w6.heap.size = r1 at *
 refine (rowOf_any _ _ _ _).mono ?_
 rintro _ w8 ⟨rfl, rfl⟩
 go_wp2_with fail
 refine (vInt_any 2 _).mono ?_
 rintro _ w9 ⟨rfl, f9⟩
 replace FW := hideP (FW.out.trans f9)
 replace HB0 := hideP (HB0.out.fr f9)
 replace HB1 := hideP (HB1.out.fr f9)
 clear f9
 go_wp2_with fail
 refine (vText_any ⟨#[98]⟩ _).mono ?_
 rintro _ w10 ⟨rfl, f10⟩
 replace FW := hideP (FW.out.trans f10)
 replace HB0 := hideP (HB0.out.fr f10)
 replace HB1 := hideP (HB1.out.fr f10)
 clear f10
 have HB2 := hideP (Blk.new w10 #[.int .i64 1, .int .i64 2, .string ⟨#[]⟩, .int .i64 2, .int .i64 0, .string ⟨#[98]⟩] 56)
 have g11 : Fr w10 (w10.alloc (.cells #[.int .i64 1, .int .i64 2, .string ⟨#[]⟩, .int .i64 2, .int .i64 0, .string ⟨#[98]⟩] 56)) := (Fr.refl _).alloc _
 replace FW := hideP (FW.out.trans g11)
 replace HB0 := hideP (HB0.out.fr g11)
 replace HB1 := hideP (HB1.out.fr g11)
 clear g11
 go_wp2_with fail
 generalize w10.alloc (.cells #[.int .i64 1, .int .i64 2, .string ⟨#[]⟩, .int .i64 2, .int .i64 0, .string ⟨#[98]⟩] 56) = w11 at *
 generalize w10.heap.size = r2 at *
 refine (rowOf_any _ _ _ _).mono ?_
 rintro _ w12 ⟨rfl, rfl⟩
 have HBL := hideP (Blk.new w12 #[.slice (some ⟨r0, 0, none⟩) 2 2, .slice (some ⟨r1, 0, none⟩) 2 2, .slice (some ⟨r2, 0, none⟩) 2 2] 31)
 have g13 : Fr w12 (w12.alloc (.cells #[.slice (some ⟨r0, 0, none⟩) 2 2, .slice (some ⟨r1, 0, none⟩) 2 2, .slice (some ⟨r2, 0, none⟩) 2 2] 31)) := (Fr.refl _).alloc _
 replace FW := hideP (FW.out.trans g13)
 replace HB0 := hideP (HB0.out.fr g13)
 replace HB1 := hideP (HB1.out.fr g13)
 replace HB2 := hideP (HB2.out.fr g13)
 clear g13
 go_wp2_with fail
 generalize w12.alloc (.cells #[.slice (some ⟨r0, 0, none⟩) 2 2, .slice (some ⟨r1, 0, none⟩) 2 2, .slice (some ⟨r2, 0, none⟩) 2 2] 31) = w13 at *
 generalize w12.heap.size = rl at *
 refine (rowsOf_any _ _ _ _).mono ?_
 rintro _ w14 ⟨rfl, rfl⟩
 have HLs := hideP (show IsRR w14 (.slice (some ⟨rl, 0, none⟩) 3 3) BJ.ls from isRR_three (a := ⟨some ⟨r0, 0, none⟩, 2, 2⟩) (b := ⟨some ⟨r1, 0, none⟩, 2, 2⟩) (c := ⟨some ⟨r2, 0, none⟩, 2, 2⟩) HBL.out (isL_blkV BJ.ra HB0.out) (isL_blkV BJ.rb HB1.out) (isL_blkV BJ.ra HB2.out))
 have HCs := hideP (show IsL cdB (w14.alloc (.cells #[.string ⟨#[110]⟩, .string ⟨#[115]⟩] 9)) (.slice (some ⟨w14.heap.size, 0, none⟩) 2 2) BJ.cs from lit_many cdB w14 BJ.cs 9)
 have g15 : Fr w14 (w14.alloc (.cells #[.string ⟨#[110]⟩, .string ⟨#[115]⟩] 9)) := (Fr.refl _).alloc _
 replace FW := hideP (FW.out.trans g15)
 replace HB0 := hideP (HB0.out.fr g15)
 replace HB1 := hideP (HB1.out.fr g15)
 replace HB2 := hideP (HB2.out.fr g15)
 replace HBL := hideP (HBL.out.fr g15)
 replace HLs := hideP (HLs.out.fr g15)
 clear g15
 go_wp2_with fail
 generalize w14.alloc (.cells #[.string ⟨#[110]⟩, .string ⟨#[115]⟩] 9) = w15 at *
 generalize w14.heap.size = gc at *
 refine (nCol_any ⟨#[110]⟩ _).mono ?_
 rintro _ w16 ⟨rfl, f16⟩
 replace FW := hideP (FW.out.trans f16)
 replace HB0 := hideP (HB0.out.fr f16)
 replace HB1 := hideP (HB1.out.fr f16)
 replace HB2 := hideP (HB2.out.fr f16)
 replace HBL := hideP (HBL.out.fr f16)
 replace HLs := hideP (HLs.out.fr f16)
 replace HCs := hideP (HCs.out.fr f16)
 clear f16
 go_wp2_with fail
 refine (vInt_any 1 _).mono ?_
 rintro _ w17 ⟨rfl, f17⟩
 replace FW := hideP (FW.out.trans f17)
 replace HB0 := hideP (HB0.out.fr f17)
 replace HB1 := hideP (HB1.out.fr f17)
 replace HB2 := hideP (HB2.out.fr f17)
 replace HBL := hideP (HBL.out.fr f17)
 replace HLs := hideP (HLs.out.fr f17)
 replace HCs := hideP (HCs.out.fr f17)
 clear f17
 go_wp2_with fail
 refine (nLit_any 1 1 ⟨#[]⟩ _).mono ?_
 rintro _ w18 ⟨rfl, f18⟩
 replace FW := hideP (FW.out.trans f18)
 replace HB0 := hideP (HB0.out.fr f18)
 replace HB1 := hideP (HB1.out.fr f18)
 replace HB2 := hideP (HB2.out.fr f18)
 replace HBL := hideP (HBL.out.fr f18)
 replace HLs := hideP (HLs.out.fr f18)
 replace HCs := hideP (HCs.out.fr f18)
 clear f18
 go_wp2_with fail
 refine (nOp_any 14 2 _).mono ?_
 rintro _ w19 ⟨rfl, f19⟩
 replace FW := hideP (FW.out.trans f19)
 replace HB0 := hideP (HB0.out.fr f19)
 replace HB1 := hideP (HB1.out.fr f19)
 replace HB2 := hideP (HB2.out.fr f19)
 replace HBL := hideP (HBL.out.fr f19)
 replace HLs := hideP (HLs.out.fr f19)
 replace HCs := hideP (HCs.out.fr f19)
 clear f19
 have HEf := hideP (show IsL cdN (w19.alloc (.cells #[.int .i64 2, .int .i64 0, .int .i64 0, .int .i64 0, .string ⟨#[]⟩, .string ⟨#[110]⟩, .int .i64 1, .int .i64 0, .int .i64 1, .int .i64 1, .string ⟨#[]⟩, .string ⟨#[]⟩, .int .i64 14, .int .i64 2, .int .i64 0, .int .i64 0, .string ⟨#[]⟩, .string ⟨#[]⟩] 61)) (.slice (some ⟨w19.heap.size, 0, none⟩) 3 3) BJ.eF from lit_many cdN w19 BJ.eF 61)
 have g20 : Fr w19 (w19.alloc (.cells #[.int .i64 2, .int .i64 0, .int .i64 0, .int .i64 0, .string ⟨#[]⟩, .string ⟨#[110]⟩, .int .i64 1, .int .i64 0, .int .i64 1, .int .i64 1, .string ⟨#[]⟩, .string ⟨#[]⟩, .int .i64 14, .int .i64 2, .int .i64 0, .int .i64 0, .string ⟨#[]⟩, .string ⟨#[]⟩] 61)) := (Fr.refl _).alloc _
 replace FW := hideP (FW.out.trans g20)
 replace HB0 := hideP (HB0.out.fr g20)
 replace HB1 := hideP (HB1.out.fr g20)
 replace HB2 := hideP (HB2.out.fr g20)
 replace HBL := hideP (HBL.out.fr g20)
 replace HLs := hideP (HLs.out.fr g20)
 replace HCs := hideP (HCs.out.fr g20)
 clear g20
 go_wp2_with fail
 generalize w19.alloc (.cells #[.int .i64 2, .int .i64 0, .int .i64 0, .int .i64 0, .string ⟨#[]⟩, .string ⟨#[110]⟩, .int .i64 1, .int .i64 0, .int .i64 1, .int .i64 1, .string ⟨#[]⟩, .string ⟨#[]⟩, .int .i64 14, .int .i64 2, .int .i64 0, .int .i64 0, .string ⟨#[]⟩, .string ⟨#[]⟩] 61) = w20 at *
 generalize w19.heap.size = ge at *
 refine (nodes_any _ _ _ _).mono ?_
 rintro _ w21 ⟨rfl, rfl⟩
 go_wp2_with fail
 have c22 := filter_any _ _ _ BJ.ls BJ.cs BJ.eF w21 HLs.out HCs.out HEf.out BJ.nmF (by decide) BJ.csz (HTn.out.fr FW.out) (HT.out.fr FW.out) BJ.gdF BJ.gdr (by decide) BJ.len2
 rw [BJ.fil] at c22
 have C22 := hideP c22
 clear c22
 refine C22.out.mono ?_
 rintro _ w22 ⟨⟨u0, rfl, hO⟩, f22⟩
 replace FW := hideP (FW.out.trans f22)
 replace HB0 := hideP (HB0.out.fr f22)
 replace HB1 := hideP (HB1.out.fr f22)
 replace HB2 := hideP (HB2.out.fr f22)
 replace HBL := hideP (HBL.out.fr f22)
 replace HLs := hideP (HLs.out.fr f22)
 replace HCs := hideP (HCs.out.fr f22)
 replace HEf := hideP (HEf.out.fr f22)
 clear f22 C22
 obtain ⟨ua, uc, rfl⟩ : ∃ a c, u0 = .slice a 2 c := hO.slice
 have HFa := hideP hO.rows
 clear hO
 clear HEf
 have HKy := hideP (show IsL cdY (w22.alloc (.cells #[.int .i64 1, .bool false, .int .i64 0, .bool false] 46)) (.slice (some ⟨w22.heap.size, 0, none⟩) 2 2) [⟨1, false⟩, ⟨0, false⟩] from lit_many cdY w22 [⟨1, false⟩, ⟨0, false⟩] 46)
 have g23 : Fr w22 (w22.alloc (.cells #[.int .i64 1, .bool false, .int .i64 0, .bool false] 46)) := (Fr.refl _).alloc _
 replace FW := hideP (FW.out.trans g23)
 replace HB0 := hideP (HB0.out.fr g23)
 replace HB1 := hideP (HB1.out.fr g23)
 replace HB2 := hideP (HB2.out.fr g23)
 replace HBL := hideP (HBL.out.fr g23)
 replace HLs := hideP (HLs.out.fr g23)
 replace HCs := hideP (HCs.out.fr g23)
 replace HFa := hideP (HFa.out.fr g23)
 clear g23
 go_wp2_with fail
 generalize w22.alloc (.cells #[.int .i64 1, .bool false, .int .i64 0, .bool false] 46) = w23 at *
 generalize w22.heap.size = gk at *
 have c24 := sort_short _ _ BJ.ls [⟨1, false⟩, ⟨0, false⟩] w23 HLs.out HKy.out (by decide) BJ.len2 (by decide)
 rw [BJ.srt] at c24
 have C24 := hideP c24
 clear c24
 refine C24.out.mono ?_
 rintro _ w24 ⟨⟨s0, rfl, hO⟩, f24⟩
 replace FW := hideP (FW.out.trans f24)
 replace HB0 := hideP (HB0.out.fr f24)
 replace HB1 := hideP (HB1.out.fr f24)
 replace HB2 := hideP (HB2.out.fr f24)
 replace HBL := hideP (HBL.out.fr f24)
 replace HLs := hideP (HLs.out.fr f24)
 replace HCs := hideP (HCs.out.fr f24)
 replace HFa := hideP (HFa.out.fr f24)
 replace HKy := hideP (HKy.out.fr f24)
 clear f24 C24
 obtain ⟨sa, sc, rfl⟩ : ∃ a c, s0 = .slice a 3 c := hO.slice
 have HS := hideP hO.rows
 clear hO
 clear HKy
 go_wp2_with fail
 have c25 := distinct_any _ BJ.ls w24 HLs.out BJ.wdr (by decide) BJ.len2
 rw [BJ.dst] at c25
 have C25 := hideP c25
 clear c25
 refine C25.out.mono ?_
 rintro _ w25 ⟨⟨d0, rfl, hO⟩, f25⟩
 replace FW := hideP (FW.out.trans f25)
 replace HB0 := hideP (HB0.out.fr f25)
 replace HB1 := hideP (HB1.out.fr f25)
 replace HB2 := hideP (HB2.out.fr f25)
 replace HBL := hideP (HBL.out.fr f25)
 replace HLs := hideP (HLs.out.fr f25)
 replace HCs := hideP (HCs.out.fr f25)
 replace HFa := hideP (HFa.out.fr f25)
 replace HS := hideP (HS.out.fr f25)
 clear f25 C25
 obtain ⟨da, dc, rfl⟩ : ∃ a c, d0 = .slice a 2 c := hO.slice
 have HD := hideP hO.rows
 clear hO
 have HGc := hideP (IsL.fr (show IsL cdZ (w25.alloc (.cells #[.int .i64 1] 3)) (.slice (some ⟨w25.heap.size, 0, none⟩) 1 1) [1] from lit_many cdZ w25 [1] 3) ((Fr.refl _).alloc (.cells #[.int .i64 2, .int .i64 0, .int .i64 1, .int .i64 (-1)] 66)))
 have HGg := hideP (show IsL cdG ((w25.alloc (.cells #[.int .i64 1] 3)).alloc (.cells #[.int .i64 2, .int .i64 0, .int .i64 1, .int .i64 (-1)] 66)) (.slice (some ⟨(w25.alloc (.cells #[.int .i64 1] 3)).heap.size, 0, none⟩) 2 2) [⟨2, 0⟩, ⟨1, -1⟩] from lit_many cdG (w25.alloc (.cells #[.int .i64 1] 3)) [⟨2, 0⟩, ⟨1, -1⟩] 66)
 rw [World.size_alloc] at HGg
 have g26 : Fr w25 ((w25.alloc (.cells #[.int .i64 1] 3)).alloc (.cells #[.int .i64 2, .int .i64 0, .int .i64 1, .int .i64 (-1)] 66)) := ((Fr.refl _).alloc _).alloc _
 replace FW := hideP (FW.out.trans g26)
 replace HB0 := hideP (HB0.out.fr g26)
 replace HB1 := hideP (HB1.out.fr g26)
 replace HB2 := hideP (HB2.out.fr g26)
 replace HBL := hideP (HBL.out.fr g26)
 replace HLs := hideP (HLs.out.fr g26)
 replace HCs := hideP (HCs.out.fr g26)
 replace HFa := hideP (HFa.out.fr g26)
 replace HS := hideP (HS.out.fr g26)
 replace HD := hideP (HD.out.fr g26)
 clear g26
 go_wp2_with fail
 generalize (w25.alloc (.cells #[.int .i64 1] 3)).alloc (.cells #[.int .i64 2, .int .i64 0, .int .i64 1, .int .i64 (-1)] 66) = w26 at *
 generalize w25.heap.size = gg at *
 have c27 := group_any _ _ _ BJ.ls [1] [⟨2, 0⟩, ⟨1, -1⟩] w26 HLs.out HGc.out HGg.out BJ.wdr (by decide) BJ.len2 (by decide) (by decide)
 rw [BJ.grp] at c27
 have C27 := hideP c27
 clear c27
 refine C27.out.mono ?_
 rintro _ w27 ⟨⟨p0, rfl, hO⟩, f27⟩
 replace FW := hideP (FW.out.trans f27)
 replace HB0 := hideP (HB0.out.fr f27)
 replace HB1 := hideP (HB1.out.fr f27)
 replace HB2 := hideP (HB2.out.fr f27)
 replace HBL := hideP (HBL.out.fr f27)
 replace HLs := hideP (HLs.out.fr f27)
 replace HCs := hideP (HCs.out.fr f27)
 replace HFa := hideP (HFa.out.fr f27)
 replace HS := hideP (HS.out.fr f27)
 replace HD := hideP (HD.out.fr f27)
 replace HGc := hideP (HGc.out.fr f27)
 replace HGg := hideP (HGg.out.fr f27)
 clear f27 C27
 obtain ⟨pa, pc, rfl⟩ : ∃ a c, p0 = .slice a 1 c := hO.slice
 have HG := hideP hO.rows
 clear hO
 clear HGc
 clear HGg
 go_upto_region 7 with fail
 have HPj := hideP (show ∀ W (q : Value), Fr w27 W → IsEE W q [BJ.e1, BJ.e2] → Calls Tryz.prog 39 #[.slice (some ⟨rl, 0, none⟩) 1 3, .slice (some ⟨gc, 0, none⟩) 2 2, q] W fun r w' => (∃ a c, r = .returned (.tuple #[.slice a 1 c, .int .i64 0]) ∧ IsRR w' (.slice a 1 c) [[BJ.tb, BJ.vi (-2)]]) ∧ Fr W w' from by
  intro W q f hq
  have c := project_any _ _ q [BJ.ra] BJ.cs [BJ.e1, BJ.e2] W ((isRR_front HLs.out 1 (by decide)).fr f) (HCs.out.fr f) hq BJ.nmP (by intro e he; simp only [List.mem_cons, List.not_mem_nil, or_false] at he; rcases he with rfl | rfl <;> decide) BJ.csz (HTn.out.fr (FW.out.trans f)) (HT.out.fr (FW.out.trans f)) BJ.gdP (fun r hr => BJ.gdr r (by simp at hr; subst hr; exact .head _)) (by decide) (fun r hr => BJ.len2 r (by simp at hr; subst hr; exact .head _)) (by decide)
  rw [BJ.prj] at c
  refine c.mono ?_
  rintro r w' ⟨⟨u, rfl, hO⟩, f'⟩
  obtain ⟨a, cc, rfl⟩ := hO.slice
  exact ⟨⟨a, cc, rfl, hO.rows⟩, f'⟩)
 refine region_inv2 rfl (fun listed v w9' => ∃ Gf, RZ (bj7 rl gc) w27 Gf (fun i => listed.getD i false) v w9') ⟨_, RZ.start (Fr.drew (Fr.refl _)) 17 _⟩ (by decide) ?_ ?_
 ·
  rintro listed v w9' A hs ⟨Gf, J⟩ HA HO i hi
  have hi1 := (ready_spec hi).1
  have hlt : i < listed.size := by rw [hs]; exact hi1
  have hno := not_yet hs hi
  have hiN : i < 17 := hi1
  rcases (show i = 0 ∨ i = 1 ∨ i = 2 ∨ i = 3 ∨ i = 4 ∨ i = 5 ∨ i = 6 ∨ i = 7 ∨ i = 8 ∨ i = 9 ∨ i = 10 ∨ i = 11 ∨ i = 12 ∨ i = 13 ∨ i = 14 ∨ i = 15 ∨ i = 16 by omega) with rfl | rfl | rfl | rfl | rfl | rfl | rfl | rfl | rfl | rfl | rfl | rfl | rfl | rfl | rfl | rfl | rfl
  ·
   have t1 : A.eval (.tmp 1) = .slice (some ⟨rl, 0, none⟩) (3) (3) := HO 1 (by decide)
   exact wpOp_gval rfl (wanted_none rfl) (x := .slice (some ⟨rl, 0, none⟩) (3) (3)) (w' := w9') (exec_mv t1) ⟨_, rfl, _, by rw [toL hlt]; exact bj7_pure J 0 hno (by decide) (by decide) no0 no0 (Fr.refl _)⟩
  ·
   have h0 := after_one hi rfl 0 (by decide)
   have e0 : A.eval (.tmp 67) = .slice (some ⟨rl, 0, none⟩) (3) (3) := (HA 0 67 rfl (by show 67 < 210; decide) h0).trans (J.vl 0 (show 0 ∉ ([11] : List Nat) from by decide) h0)
   refine wpOp_gis (Instr.sliceAt 22 (A.eval (.tmp 67)) none (some (.int .i64 (1))) none) rfl (wanted_none rfl) rfl (y := .slice (some ⟨rl, 0, none⟩) (1) (3)) (w' := w9') ?_ ⟨_, rfl, _, by rw [toL hlt]; exact bj7_pure J 1 hno (by decide) (by decide) no0 no0 (Fr.refl _)⟩
   rw [e0]
   kernel_rfl
  ·
   have t2 : A.eval (.tmp 2) = .slice (some ⟨gc, 0, none⟩) (2) (2) := HO 2 (by decide)
   exact wpOp_gval rfl (wanted_none rfl) (x := .slice (some ⟨gc, 0, none⟩) (2) (2)) (w' := w9') (exec_mv t2) ⟨_, rfl, _, by rw [toL hlt]; exact bj7_pure J 2 hno (by decide) (by decide) no0 no0 (Fr.refl _)⟩
  ·
   refine wpOp_gcall rfl (wanted_none rfl) (args := #[.string (⟨#[115]⟩)]) (by first | rfl | (simp only [List.map_toArray, List.map_cons, List.map_nil]; done) | (simp only [List.map_toArray, List.map_cons, List.map_nil]; rfl)) (by kernel_rfl) (nCol_any _ _) ?_
   rintro e w2 ⟨rfl, f2⟩
   exact ⟨_, rfl, _, rfl, _, by rw [toL hlt]; exact bj7_pure J 3 hno (by decide) (by decide) no0 no0 f2⟩
  ·
   have h3 := after_one hi rfl 3 (by decide)
   have e3 : A.eval (.tmp 70) = .agg #[.int .i64 (2), .int .i64 (0), .int .i64 (0), .int .i64 (0), .string (⟨#[]⟩), .string (⟨#[115]⟩)] := (HA 3 70 rfl (by show 70 < 210; decide) h3).trans (J.vl 3 (show 3 ∉ ([11] : List Nat) from by decide) h3)
   refine wpOp_gis (Instr.buildSlice 33 1 (#[(0, Operand.tmp 70)].map fun (i, x) => (i, A.eval x))) rfl (wanted_none rfl) rfl (y := .slice (some ⟨w9'.heap.size, 0, none⟩) 1 1) (w' := w9'.alloc (.cells #[.int .i64 (2), .int .i64 (0), .int .i64 (0), .int .i64 (0), .string (⟨#[]⟩), .string (⟨#[115]⟩)] 61)) ?_ ⟨_, rfl, _, by rw [toL hlt]; exact J.new 4 (show 4 ∈ ([4, 8, 10] : List Nat) from by decide) (show 4 ∉ ([11] : List Nat) from by decide) hno rfl no0 (bj7_st rl gc) (by intro k hk hne hkL; change k ∈ ([4, 8, 10] : List Nat) at hk; simp only [List.mem_cons, List.not_mem_nil, or_false] at hk; rcases hk with rfl | rfl | rfl <;> first | rfl | exact absurd rfl hne) rfl⟩
   simp only [List.map_toArray, List.map_cons, List.map_nil, e3]
   kernel_rfl
  ·
   have h4 := after_one hi rfl 4 (by decide)
   have e4 : A.eval (.tmp 71) = .slice (some ⟨(Gf 4), 0, none⟩) (1) (1) := (HA 4 71 rfl (by show 71 < 210; decide) h4).trans (J.vl 4 (show 4 ∉ ([11] : List Nat) from by decide) h4)
   refine wpOp_gcall rfl (wanted_none rfl) (args := #[.slice (some ⟨(Gf 4), 0, none⟩) (1) (1)]) (by first | rfl | (simp only [List.map_toArray, List.map_cons, List.map_nil, e4]; done) | (simp only [List.map_toArray, List.map_cons, List.map_nil, e4]; rfl)) (by kernel_rfl) (nodes_any _ _ _ _) ?_
   rintro e w2 ⟨rfl, rfl⟩
   exact ⟨_, rfl, _, rfl, _, by rw [toL hlt]; exact bj7_pure J 5 hno (by decide) (by decide) (no1 h4) no0 (Fr.refl _)⟩
  ·
   refine wpOp_gcall rfl (wanted_none rfl) (args := #[.string (⟨#[110]⟩)]) (by first | rfl | (simp only [List.map_toArray, List.map_cons, List.map_nil]; done) | (simp only [List.map_toArray, List.map_cons, List.map_nil]; rfl)) (by kernel_rfl) (nCol_any _ _) ?_
   rintro e w2 ⟨rfl, f2⟩
   exact ⟨_, rfl, _, rfl, _, by rw [toL hlt]; exact bj7_pure J 6 hno (by decide) (by decide) no0 no0 f2⟩
  ·
   refine wpOp_gcall rfl (wanted_none rfl) (args := #[.int .i64 (3), .int .i64 (1)]) (by first | rfl | (simp only [List.map_toArray, List.map_cons, List.map_nil]; done) | (simp only [List.map_toArray, List.map_cons, List.map_nil]; rfl)) (by kernel_rfl) (nOp_any _ _ _) ?_
   rintro e w2 ⟨rfl, f2⟩
   exact ⟨_, rfl, _, rfl, _, by rw [toL hlt]; exact bj7_pure J 7 hno (by decide) (by decide) no0 no0 f2⟩
  ·
   have h6 := after_one hi rfl 6 (by decide)
   have e6 : A.eval (.tmp 73) = .agg #[.int .i64 (2), .int .i64 (0), .int .i64 (0), .int .i64 (0), .string (⟨#[]⟩), .string (⟨#[110]⟩)] := (HA 6 73 rfl (by show 73 < 210; decide) h6).trans (J.vl 6 (show 6 ∉ ([11] : List Nat) from by decide) h6)
   have h7 := after_one hi rfl 7 (by decide)
   have e7 : A.eval (.tmp 74) = .agg #[.int .i64 (3), .int .i64 (1), .int .i64 (0), .int .i64 (0), .string (⟨#[]⟩), .string (⟨#[]⟩)] := (HA 7 74 rfl (by show 74 < 210; decide) h7).trans (J.vl 7 (show 7 ∉ ([11] : List Nat) from by decide) h7)
   refine wpOp_gis (Instr.buildSlice 33 2 (#[(0, Operand.tmp 73), (1, Operand.tmp 74)].map fun (i, x) => (i, A.eval x))) rfl (wanted_none rfl) rfl (y := .slice (some ⟨w9'.heap.size, 0, none⟩) 2 2) (w' := w9'.alloc (.cells #[.int .i64 (2), .int .i64 (0), .int .i64 (0), .int .i64 (0), .string (⟨#[]⟩), .string (⟨#[110]⟩), .int .i64 (3), .int .i64 (1), .int .i64 (0), .int .i64 (0), .string (⟨#[]⟩), .string (⟨#[]⟩)] 61)) ?_ ⟨_, rfl, _, by rw [toL hlt]; exact J.new 8 (show 8 ∈ ([4, 8, 10] : List Nat) from by decide) (show 8 ∉ ([11] : List Nat) from by decide) hno rfl no0 (bj7_st rl gc) (by intro k hk hne hkL; change k ∈ ([4, 8, 10] : List Nat) at hk; simp only [List.mem_cons, List.not_mem_nil, or_false] at hk; rcases hk with rfl | rfl | rfl <;> first | rfl | exact absurd rfl hne) rfl⟩
   simp only [List.map_toArray, List.map_cons, List.map_nil, e6, e7]
   kernel_rfl
  ·
   have h8 := after_one hi rfl 8 (by decide)
   have e8 : A.eval (.tmp 75) = .slice (some ⟨(Gf 8), 0, none⟩) (2) (2) := (HA 8 75 rfl (by show 75 < 210; decide) h8).trans (J.vl 8 (show 8 ∉ ([11] : List Nat) from by decide) h8)
   refine wpOp_gcall rfl (wanted_none rfl) (args := #[.slice (some ⟨(Gf 8), 0, none⟩) (2) (2)]) (by first | rfl | (simp only [List.map_toArray, List.map_cons, List.map_nil, e8]; done) | (simp only [List.map_toArray, List.map_cons, List.map_nil, e8]; rfl)) (by kernel_rfl) (nodes_any _ _ _ _) ?_
   rintro e w2 ⟨rfl, rfl⟩
   exact ⟨_, rfl, _, rfl, _, by rw [toL hlt]; exact bj7_pure J 9 hno (by decide) (by decide) (no1 h8) no0 (Fr.refl _)⟩
  ·
   have h5 := after_one hi rfl 5 (by decide)
   have e5 : A.eval (.tmp 72) = v 5 := HA 5 72 rfl (by show 72 < 210; decide) h5
   have h9 := after_one hi rfl 9 (by decide)
   have e9 : A.eval (.tmp 76) = v 9 := HA 9 76 rfl (by show 76 < 210; decide) h9
   refine wpOp_gis (Instr.buildSlice 68 2 (#[(0, Operand.tmp 72), (1, Operand.tmp 76)].map fun (i, x) => (i, A.eval x))) rfl (wanted_none rfl) rfl (y := .slice (some ⟨w9'.heap.size, 0, none⟩) 2 2) (w' := w9'.alloc (.cells #[(v 5), (v 9)] 33)) ?_ ⟨_, rfl, _, by rw [toL hlt]; exact J.new 10 (show 10 ∈ ([4, 8, 10] : List Nat) from by decide) (show 10 ∉ ([11] : List Nat) from by decide) hno rfl (by intro d hd; change d ∈ ([5, 9] : List Nat) at hd; simp only [List.mem_cons, List.not_mem_nil, or_false] at hd; rcases hd with rfl | rfl; exact h5; exact h9) (bj7_st rl gc) (by intro k hk hne hkL; change k ∈ ([4, 8, 10] : List Nat) at hk; simp only [List.mem_cons, List.not_mem_nil, or_false] at hk; rcases hk with rfl | rfl | rfl <;> first | rfl | exact absurd rfl hne) rfl⟩
   simp only [List.map_toArray, List.map_cons, List.map_nil, e5, e9]
   rw [show v 5 = .slice (some ⟨(Gf 4), 0, none⟩) (1) (1) from J.vl 5 (show 5 ∉ ([11] : List Nat) from by decide) h5]
   rw [show v 9 = .slice (some ⟨(Gf 8), 0, none⟩) (2) (2) from J.vl 9 (show 9 ∉ ([11] : List Nat) from by decide) h9]
   kernel_rfl
  ·
   have h1 := after_one hi rfl 1 (by decide)
   have e1 : A.eval (.tmp 68) = .slice (some ⟨rl, 0, none⟩) (1) (3) := (HA 1 68 rfl (by show 68 < 210; decide) h1).trans (J.vl 1 (show 1 ∉ ([11] : List Nat) from by decide) h1)
   have h2 := after_one hi rfl 2 (by decide)
   have e2 : A.eval (.tmp 69) = .slice (some ⟨gc, 0, none⟩) (2) (2) := (HA 2 69 rfl (by show 69 < 210; decide) h2).trans (J.vl 2 (show 2 ∉ ([11] : List Nat) from by decide) h2)
   have h10 := after_one hi rfl 10 (by decide)
   have e10 : A.eval (.tmp 77) = .slice (some ⟨(Gf 10), 0, none⟩) (2) (2) := (HA 10 77 rfl (by show 77 < 210; decide) h10).trans (J.vl 10 (show 10 ∉ ([11] : List Nat) from by decide) h10)
   have h5 := J.dw 10 h10 5 (show 5 ∈ ([5, 9] : List Nat) from by decide)
   have h9 := J.dw 10 h10 9 (show 9 ∈ ([5, 9] : List Nat) from by decide)
   have h4 := J.dp 5 h5 4 (show 4 ∈ ([4] : List Nat) from by decide)
   have h8 := J.dp 9 h9 8 (show 8 ∈ ([8] : List Nat) from by decide)
   have q5 : v 5 = .slice (some ⟨Gf 4, 0, none⟩) 1 1 := J.vl 5 (show 5 ∉ ([11] : List Nat) from by decide) h5
   have q9 : v 9 = .slice (some ⟨Gf 8, 0, none⟩) 2 2 := J.vl 9 (show 9 ∉ ([11] : List Nat) from by decide) h9
   have b10 : Blk w9' (Gf 10) #[v 5, v 9] 33 := (J.bk 10 (show 10 ∈ ([4, 8, 10] : List Nat) from by decide) h10).2
   have b4 : Blk w9' (Gf 4) (flat cdN BJ.e1).toArray 61 := (J.bk 4 (show 4 ∈ ([4, 8, 10] : List Nat) from by decide) h4).2
   have b8 : Blk w9' (Gf 8) (flat cdN BJ.e2).toArray 61 := (J.bk 8 (show 8 ∈ ([4, 8, 10] : List Nat) from by decide) h8).2
   rw [q5, q9] at b10
   refine wpOp_gcall rfl (wanted_none rfl) (args := #[.slice (some ⟨rl, 0, none⟩) (1) (3), .slice (some ⟨gc, 0, none⟩) (2) (2), .slice (some ⟨(Gf 10), 0, none⟩) (2) (2)]) (by first | rfl | (simp only [List.map_toArray, List.map_cons, List.map_nil, e1, e2, e10]; done) | (simp only [List.map_toArray, List.map_cons, List.map_nil, e1, e2, e10]; rfl)) (by kernel_rfl) (HPj.out w9' _ J.fr (isEE_two (a := ⟨some ⟨Gf 4, 0, none⟩, 1, 1⟩) (b := ⟨some ⟨Gf 8, 0, none⟩, 2, 2⟩) b10 (isL_blk cdN BJ.e1 b4) (isL_blk cdN BJ.e2 b8))) ?_
   rintro e w2 ⟨⟨a2, c2, rfl, hP2⟩, f2⟩
   exact ⟨_, rfl, _, rfl, _, by rw [toL hlt]; exact J.ex 11 _ hno (show 11 ∉ ([4, 8, 10] : List Nat) from by decide) (show 11 ∈ ([11] : List Nat) from by decide) no0 no0 f2 (bj7_st rl gc) (⟨a2, c2, rfl, hP2⟩) (by intro k hk hkL; change k ∈ ([4, 8, 10] : List Nat) at hk; simp only [List.mem_cons, List.not_mem_nil, or_false] at hk; rcases hk with rfl | rfl | rfl <;> first | rfl)⟩
  ·
   have h11 := after_one hi rfl 11 (by decide)
   have e11 : A.eval (.tmp 78) = v 11 := HA 11 78 rfl (by show 78 < 210; decide) h11
   exact wpOp_gval rfl (wanted_none rfl) (x := (v 11)) (w' := w9') (exec_mv e11) ⟨_, rfl, _, by rw [toL hlt]; exact bj7_pure J 12 hno (by decide) (by decide) no0 (no1 h11) (Fr.refl _)⟩
  ·
   have h12 := after_one hi rfl 12 (by decide)
   have e12 : A.eval (.tmp 66) = (v 11) := (HA 12 66 rfl (by show 66 < 210; decide) h12).trans (J.vl 12 (show 12 ∉ ([11] : List Nat) from by decide) h12)
   have hx11 := J.dw 12 h12 11 (show 11 ∈ ([11] : List Nat) from by decide)
   obtain ⟨a9, c9, hq, _⟩ := J.xs 11 (show 11 ∈ ([11] : List Nat) from by decide) hx11 (fun c hc => by cases hc)
   refine wpOp_gis (Instr.extract (A.eval (.tmp 66)) 0) rfl (wanted_none rfl) rfl (y := .slice a9 1 c9) (w' := w9') ?_ ⟨_, rfl, _, by rw [toL hlt]; exact J.pure' 13 _ hno (show 13 ∉ ([4, 8, 10] : List Nat) from by decide) (show 13 ∉ ([11] : List Nat) from by decide) no0 (by intro d hd; change d ∈ ([11] : List Nat) at hd; simp only [List.mem_cons, List.not_mem_nil, or_false] at hd; rcases hd with rfl; exact J.dw 12 h12 11 (show 11 ∈ ([11] : List Nat) from by decide)) (by show _ = tupAt ((v 11)) 0; rw [hq]; rfl) (Fr.refl _) (bj7_st rl gc) (by intro k hk hkL; change k ∈ ([4, 8, 10] : List Nat) at hk; simp only [List.mem_cons, List.not_mem_nil, or_false] at hk; rcases hk with rfl | rfl | rfl <;> first | rfl)⟩
   rw [e12, hq]
   kernel_rfl
  ·
   have h12 := after_one hi rfl 12 (by decide)
   have e12 : A.eval (.tmp 66) = (v 11) := (HA 12 66 rfl (by show 66 < 210; decide) h12).trans (J.vl 12 (show 12 ∉ ([11] : List Nat) from by decide) h12)
   have hx11 := J.dw 12 h12 11 (show 11 ∈ ([11] : List Nat) from by decide)
   obtain ⟨a9, c9, hq, _⟩ := J.xs 11 (show 11 ∈ ([11] : List Nat) from by decide) hx11 (fun c hc => by cases hc)
   refine wpOp_gis (Instr.extract (A.eval (.tmp 66)) 1) rfl (wanted_none rfl) rfl (y := .int .i64 0) (w' := w9') ?_ ⟨_, rfl, _, by rw [toL hlt]; exact J.pure' 14 _ hno (show 14 ∉ ([4, 8, 10] : List Nat) from by decide) (show 14 ∉ ([11] : List Nat) from by decide) no0 (by intro d hd; change d ∈ ([11] : List Nat) at hd; simp only [List.mem_cons, List.not_mem_nil, or_false] at hd; rcases hd with rfl; exact J.dw 12 h12 11 (show 11 ∈ ([11] : List Nat) from by decide)) (by show _ = tupAt ((v 11)) 1; rw [hq]; rfl) (Fr.refl _) (bj7_st rl gc) (by intro k hk hkL; change k ∈ ([4, 8, 10] : List Nat) at hk; simp only [List.mem_cons, List.not_mem_nil, or_false] at hk; rcases hk with rfl | rfl | rfl <;> first | rfl)⟩
   rw [e12, hq]
   kernel_rfl
  ·
   have h13 := after_one hi rfl 13 (by decide)
   have e13 : A.eval (.tmp 79) = tupAt ((v 11)) 0 := (HA 13 79 rfl (by show 79 < 210; decide) h13).trans (J.vl 13 (show 13 ∉ ([11] : List Nat) from by decide) h13)
   exact wpOp_gval rfl (wanted_none rfl) (x := tupAt ((v 11)) 0) (w' := w9') (exec_as e13) ⟨_, rfl, _, by rw [toL hlt]; exact bj7_pure J 15 hno (by decide) (by decide) no0 (by intro d hd; change d ∈ ([11] : List Nat) at hd; simp only [List.mem_cons, List.not_mem_nil, or_false] at hd; rcases hd with rfl; exact J.dw 13 h13 11 (show 11 ∈ ([11] : List Nat) from by decide)) (Fr.refl _)⟩
  ·
   have h14 := after_one hi rfl 14 (by decide)
   have e14 : A.eval (.tmp 80) = tupAt ((v 11)) 1 := (HA 14 80 rfl (by show 80 < 210; decide) h14).trans (J.vl 14 (show 14 ∉ ([11] : List Nat) from by decide) h14)
   exact wpOp_gval rfl (wanted_none rfl) (x := tupAt ((v 11)) 1) (w' := w9') (exec_as e14) ⟨_, rfl, _, by rw [toL hlt]; exact bj7_pure J 16 hno (by decide) (by decide) no0 (by intro d hd; change d ∈ ([11] : List Nat) at hd; simp only [List.mem_cons, List.not_mem_nil, or_false] at hd; rcases hd with rfl; exact J.dw 14 h14 11 (show 11 ∈ ([11] : List Nat) from by decide)) (Fr.refl _)⟩
 ·
  rintro listed v w9' hs ⟨Gf, J⟩ hr
  have al := all_done hs hr (by decide)
  have l0 := al 0 (by decide)
  have l1 := al 1 (by decide)
  have l2 := al 2 (by decide)
  have l3 := al 3 (by decide)
  have l4 := al 4 (by decide)
  have l5 := al 5 (by decide)
  have l6 := al 6 (by decide)
  have l7 := al 7 (by decide)
  have l8 := al 8 (by decide)
  have l9 := al 9 (by decide)
  have l10 := al 10 (by decide)
  have l11 := al 11 (by decide)
  have l12 := al 12 (by decide)
  have l13 := al 13 (by decide)
  have l14 := al 14 (by decide)
  have l15 := al 15 (by decide)
  have l16 := al 16 (by decide)
  change Exit.then _ _ .normal (putL _ listed v [0, 1, 2, 3, 4, 5, 6, 7, 8, 9, 10, 11, 12, 13, 14, 15, 16] _) w9'
  simp only [putL, l0, l1, l2, l3, l4, l5, l6, l7, l8, l9, l10, l11, l12, l13, l14, l15, l16, if_true]
  change Exit.then _ _ .normal (Act.put (Act.put (Act.put (Act.put (Act.put (Act.put (Act.put (Act.put (Act.put (Act.put (Act.put (Act.put (Act.put (Act.put (Act.put (Act.put (Act.put _ (some 67) (v 0)) (some 68) (v 1)) (some 69) (v 2)) (some 70) (v 3)) (some 71) (v 4)) (some 72) (v 5)) (some 73) (v 6)) (some 74) (v 7)) (some 75) (v 8)) (some 76) (v 9)) (some 77) (v 10)) (some 78) (v 11)) (some 66) (v 12)) (some 79) (v 13)) (some 80) (v 14)) (some 11) (v 15)) (some 12) (v 16)) w9'
  simp only [Act.put, List.setIfInBounds_toArray, List.set_cons_succ, List.set_cons_zero]
  obtain ⟨ja, jc, hq, hP⟩ := J.xs 11 (show 11 ∈ ([11] : List Nat) from by decide) l11 (fun c hc => by cases hc)
  have hv15 : v 15 = tupAt ((v 11)) 0 := J.vl 15 (show 15 ∉ ([11] : List Nat) from by decide) l15
  rw [hq] at hv15
  have hv16 : v 16 = tupAt ((v 11)) 1 := J.vl 16 (show 16 ∉ ([11] : List Nat) from by decide) l16
  rw [hq] at hv16
  replace hv15 : v 15 = .slice ja 1 jc := hv15
  replace hv16 : v 16 = .int .i64 0 := hv16
  rw [hv15, hv16]
  have f9 := J.fr
  have HP := hideP hP
  replace FW := hideP (FW.out.trans f9)
  replace HB0 := hideP (HB0.out.fr f9)
  replace HB1 := hideP (HB1.out.fr f9)
  replace HB2 := hideP (HB2.out.fr f9)
  replace HBL := hideP (HBL.out.fr f9)
  replace HLs := hideP (HLs.out.fr f9)
  replace HCs := hideP (HCs.out.fr f9)
  replace HFa := hideP (HFa.out.fr f9)
  replace HS := hideP (HS.out.fr f9)
  replace HD := hideP (HD.out.fr f9)
  replace HG := hideP (HG.out.fr f9)
  clear al l0 l1 l2 l3 l4 l5 l6 l7 l8 l9 l10 l11 l12 l13 l14 l15 l16 J hr hs hv15 hv16 hq hP f9
  clear HPj
  go_upto_region 8 with fail
  have HJn := hideP (show ∀ W, Fr w9' W → Calls Tryz.prog 21 #[.slice (some ⟨rl, 0, none⟩) 1 3, .slice (some ⟨rl, 0, none⟩) 2 3] W fun r w' => (∃ a c, r = .returned (.tuple #[.slice a 2 c, .int .i64 0]) ∧ IsRR w' (.slice a 2 c) [[BJ.vi 2, BJ.tb, BJ.vi 2, BJ.tb], [BJ.vi 2, BJ.tb, BJ.vi 1, BJ.tb]]) ∧ Fr W w' from by
   intro W f
   have c := join_any _ _ [BJ.ra] [BJ.ra, BJ.rb] W ((isRR_front HLs.out 1 (by decide)).fr f) ((isRR_front HLs.out 2 (by decide)).fr f) (by decide) (fun r hr => BJ.len2 r (by simp at hr; subst hr; exact .head _)) (by decide) (fun r hr => BJ.len2 r (by simp at hr; rcases hr with rfl | rfl <;> simp [BJ.ls]))
   rw [BJ.jn] at c
   refine c.mono ?_
   rintro r w' ⟨⟨u, rfl, hO⟩, f'⟩
   obtain ⟨a, cc, rfl⟩ := hO.slice
   exact ⟨⟨a, cc, rfl, hO.rows⟩, f'⟩)
  refine region_inv2 rfl (fun listed v w8' => ∃ Gf, RZ (bj8 rl) w9' Gf (fun i => listed.getD i false) v w8') ⟨_, RZ.start (Fr.drew (Fr.refl _)) 10 _⟩ (by decide) ?_ ?_
  ·
   rintro listed v w8' A hs ⟨Gf, J⟩ HA HO i hi
   have hi1 := (ready_spec hi).1
   have hlt : i < listed.size := by rw [hs]; exact hi1
   have hno := not_yet hs hi
   have hiN : i < 10 := hi1
   rcases (show i = 0 ∨ i = 1 ∨ i = 2 ∨ i = 3 ∨ i = 4 ∨ i = 5 ∨ i = 6 ∨ i = 7 ∨ i = 8 ∨ i = 9 by omega) with rfl | rfl | rfl | rfl | rfl | rfl | rfl | rfl | rfl | rfl
   ·
    have t1 : A.eval (.tmp 1) = .slice (some ⟨rl, 0, none⟩) (3) (3) := HO 1 (by decide)
    exact wpOp_gval rfl (wanted_none rfl) (x := .slice (some ⟨rl, 0, none⟩) (3) (3)) (w' := w8') (exec_mv t1) ⟨_, rfl, _, by rw [toL hlt]; exact J.pure 0 hno (show 0 ∉ ([] : List Nat) from by decide) (show 0 ∉ ([4] : List Nat) from by decide) no0 no0 (Fr.refl _) (bj8_st rl) (by intro k hk; cases hk)⟩
   ·
    have h0 := after_one hi rfl 0 (by decide)
    have e0 : A.eval (.tmp 82) = .slice (some ⟨rl, 0, none⟩) (3) (3) := (HA 0 82 rfl (by show 82 < 210; decide) h0).trans (J.vl 0 (show 0 ∉ ([4] : List Nat) from by decide) h0)
    refine wpOp_gis (Instr.sliceAt 22 (A.eval (.tmp 82)) none (some (.int .i64 (1))) none) rfl (wanted_none rfl) rfl (y := .slice (some ⟨rl, 0, none⟩) (1) (3)) (w' := w8') ?_ ⟨_, rfl, _, by rw [toL hlt]; exact J.pure 1 hno (show 1 ∉ ([] : List Nat) from by decide) (show 1 ∉ ([4] : List Nat) from by decide) no0 no0 (Fr.refl _) (bj8_st rl) (by intro k hk; cases hk)⟩
    rw [e0]
    kernel_rfl
   ·
    have t1 : A.eval (.tmp 1) = .slice (some ⟨rl, 0, none⟩) (3) (3) := HO 1 (by decide)
    exact wpOp_gval rfl (wanted_none rfl) (x := .slice (some ⟨rl, 0, none⟩) (3) (3)) (w' := w8') (exec_mv t1) ⟨_, rfl, _, by rw [toL hlt]; exact J.pure 2 hno (show 2 ∉ ([] : List Nat) from by decide) (show 2 ∉ ([4] : List Nat) from by decide) no0 no0 (Fr.refl _) (bj8_st rl) (by intro k hk; cases hk)⟩
   ·
    have h2 := after_one hi rfl 2 (by decide)
    have e2 : A.eval (.tmp 84) = .slice (some ⟨rl, 0, none⟩) (3) (3) := (HA 2 84 rfl (by show 84 < 210; decide) h2).trans (J.vl 2 (show 2 ∉ ([4] : List Nat) from by decide) h2)
    refine wpOp_gis (Instr.sliceAt 22 (A.eval (.tmp 84)) none (some (.int .i64 (2))) none) rfl (wanted_none rfl) rfl (y := .slice (some ⟨rl, 0, none⟩) (2) (3)) (w' := w8') ?_ ⟨_, rfl, _, by rw [toL hlt]; exact J.pure 3 hno (show 3 ∉ ([] : List Nat) from by decide) (show 3 ∉ ([4] : List Nat) from by decide) no0 no0 (Fr.refl _) (bj8_st rl) (by intro k hk; cases hk)⟩
    rw [e2]
    kernel_rfl
   ·
    have h1 := after_one hi rfl 1 (by decide)
    have e1 : A.eval (.tmp 83) = .slice (some ⟨rl, 0, none⟩) (1) (3) := (HA 1 83 rfl (by show 83 < 210; decide) h1).trans (J.vl 1 (show 1 ∉ ([4] : List Nat) from by decide) h1)
    have h3 := after_one hi rfl 3 (by decide)
    have e3 : A.eval (.tmp 85) = .slice (some ⟨rl, 0, none⟩) (2) (3) := (HA 3 85 rfl (by show 85 < 210; decide) h3).trans (J.vl 3 (show 3 ∉ ([4] : List Nat) from by decide) h3)
    refine wpOp_gcall rfl (wanted_none rfl) (args := #[.slice (some ⟨rl, 0, none⟩) (1) (3), .slice (some ⟨rl, 0, none⟩) (2) (3)]) (by first | rfl | (simp only [List.map_toArray, List.map_cons, List.map_nil, e1, e3]; done) | (simp only [List.map_toArray, List.map_cons, List.map_nil, e1, e3]; rfl)) (by kernel_rfl) (HJn.out w8' J.fr) ?_
    rintro e w2 ⟨⟨a2, c2, rfl, hP2⟩, f2⟩
    exact ⟨_, rfl, _, rfl, _, by rw [toL hlt]; exact J.ex 4 _ hno (show 4 ∉ ([] : List Nat) from by decide) (show 4 ∈ ([4] : List Nat) from by decide) no0 no0 f2 (bj8_st rl) (⟨a2, c2, rfl, hP2⟩) (by intro k hk; cases hk)⟩
   ·
    have h4 := after_one hi rfl 4 (by decide)
    have e4 : A.eval (.tmp 86) = v 4 := HA 4 86 rfl (by show 86 < 210; decide) h4
    exact wpOp_gval rfl (wanted_none rfl) (x := (v 4)) (w' := w8') (exec_mv e4) ⟨_, rfl, _, by rw [toL hlt]; exact J.pure 5 hno (show 5 ∉ ([] : List Nat) from by decide) (show 5 ∉ ([4] : List Nat) from by decide) no0 (no1 h4) (Fr.refl _) (bj8_st rl) (by intro k hk; cases hk)⟩
   ·
    have h5 := after_one hi rfl 5 (by decide)
    have e5 : A.eval (.tmp 81) = (v 4) := (HA 5 81 rfl (by show 81 < 210; decide) h5).trans (J.vl 5 (show 5 ∉ ([4] : List Nat) from by decide) h5)
    have hx4 := J.dw 5 h5 4 (show 4 ∈ ([4] : List Nat) from by decide)
    obtain ⟨a9, c9, hq, _⟩ := J.xs 4 (show 4 ∈ ([4] : List Nat) from by decide) hx4 (fun c hc => by cases hc)
    refine wpOp_gis (Instr.extract (A.eval (.tmp 81)) 0) rfl (wanted_none rfl) rfl (y := .slice a9 2 c9) (w' := w8') ?_ ⟨_, rfl, _, by rw [toL hlt]; exact J.pure' 6 _ hno (show 6 ∉ ([] : List Nat) from by decide) (show 6 ∉ ([4] : List Nat) from by decide) no0 (by intro d hd; change d ∈ ([4] : List Nat) at hd; simp only [List.mem_cons, List.not_mem_nil, or_false] at hd; rcases hd with rfl; exact J.dw 5 h5 4 (show 4 ∈ ([4] : List Nat) from by decide)) (by show _ = tupAt ((v 4)) 0; rw [hq]; rfl) (Fr.refl _) (bj8_st rl) (by intro k hk; cases hk)⟩
    rw [e5, hq]
    kernel_rfl
   ·
    have h5 := after_one hi rfl 5 (by decide)
    have e5 : A.eval (.tmp 81) = (v 4) := (HA 5 81 rfl (by show 81 < 210; decide) h5).trans (J.vl 5 (show 5 ∉ ([4] : List Nat) from by decide) h5)
    have hx4 := J.dw 5 h5 4 (show 4 ∈ ([4] : List Nat) from by decide)
    obtain ⟨a9, c9, hq, _⟩ := J.xs 4 (show 4 ∈ ([4] : List Nat) from by decide) hx4 (fun c hc => by cases hc)
    refine wpOp_gis (Instr.extract (A.eval (.tmp 81)) 1) rfl (wanted_none rfl) rfl (y := .int .i64 0) (w' := w8') ?_ ⟨_, rfl, _, by rw [toL hlt]; exact J.pure' 7 _ hno (show 7 ∉ ([] : List Nat) from by decide) (show 7 ∉ ([4] : List Nat) from by decide) no0 (by intro d hd; change d ∈ ([4] : List Nat) at hd; simp only [List.mem_cons, List.not_mem_nil, or_false] at hd; rcases hd with rfl; exact J.dw 5 h5 4 (show 4 ∈ ([4] : List Nat) from by decide)) (by show _ = tupAt ((v 4)) 1; rw [hq]; rfl) (Fr.refl _) (bj8_st rl) (by intro k hk; cases hk)⟩
    rw [e5, hq]
    kernel_rfl
   ·
    have h6 := after_one hi rfl 6 (by decide)
    have e6 : A.eval (.tmp 87) = tupAt ((v 4)) 0 := (HA 6 87 rfl (by show 87 < 210; decide) h6).trans (J.vl 6 (show 6 ∉ ([4] : List Nat) from by decide) h6)
    exact wpOp_gval rfl (wanted_none rfl) (x := tupAt ((v 4)) 0) (w' := w8') (exec_as e6) ⟨_, rfl, _, by rw [toL hlt]; exact J.pure 8 hno (show 8 ∉ ([] : List Nat) from by decide) (show 8 ∉ ([4] : List Nat) from by decide) no0 (by intro d hd; change d ∈ ([4] : List Nat) at hd; simp only [List.mem_cons, List.not_mem_nil, or_false] at hd; rcases hd with rfl; exact J.dw 6 h6 4 (show 4 ∈ ([4] : List Nat) from by decide)) (Fr.refl _) (bj8_st rl) (by intro k hk; cases hk)⟩
   ·
    have h7 := after_one hi rfl 7 (by decide)
    have e7 : A.eval (.tmp 88) = tupAt ((v 4)) 1 := (HA 7 88 rfl (by show 88 < 210; decide) h7).trans (J.vl 7 (show 7 ∉ ([4] : List Nat) from by decide) h7)
    exact wpOp_gval rfl (wanted_none rfl) (x := tupAt ((v 4)) 1) (w' := w8') (exec_as e7) ⟨_, rfl, _, by rw [toL hlt]; exact J.pure 9 hno (show 9 ∉ ([] : List Nat) from by decide) (show 9 ∉ ([4] : List Nat) from by decide) no0 (by intro d hd; change d ∈ ([4] : List Nat) at hd; simp only [List.mem_cons, List.not_mem_nil, or_false] at hd; rcases hd with rfl; exact J.dw 7 h7 4 (show 4 ∈ ([4] : List Nat) from by decide)) (Fr.refl _) (bj8_st rl) (by intro k hk; cases hk)⟩
  ·
   rintro listed v w8' hs ⟨Gf, J⟩ hr
   have al := all_done hs hr (by decide)
   have l0 := al 0 (by decide)
   have l1 := al 1 (by decide)
   have l2 := al 2 (by decide)
   have l3 := al 3 (by decide)
   have l4 := al 4 (by decide)
   have l5 := al 5 (by decide)
   have l6 := al 6 (by decide)
   have l7 := al 7 (by decide)
   have l8 := al 8 (by decide)
   have l9 := al 9 (by decide)
   change Exit.then _ _ .normal (putL _ listed v [0, 1, 2, 3, 4, 5, 6, 7, 8, 9] _) w8'
   simp only [putL, l0, l1, l2, l3, l4, l5, l6, l7, l8, l9, if_true]
   change Exit.then _ _ .normal (Act.put (Act.put (Act.put (Act.put (Act.put (Act.put (Act.put (Act.put (Act.put (Act.put _ (some 82) (v 0)) (some 83) (v 1)) (some 84) (v 2)) (some 85) (v 3)) (some 86) (v 4)) (some 81) (v 5)) (some 87) (v 6)) (some 88) (v 7)) (some 13) (v 8)) (some 14) (v 9)) w8'
   simp only [Act.put, List.setIfInBounds_toArray, List.set_cons_succ, List.set_cons_zero]
   obtain ⟨na, nc, hq, hP⟩ := J.xs 4 (show 4 ∈ ([4] : List Nat) from by decide) l4 (fun c hc => by cases hc)
   have hv8 : v 8 = tupAt ((v 4)) 0 := J.vl 8 (show 8 ∉ ([4] : List Nat) from by decide) l8
   rw [hq] at hv8
   have hv9 : v 9 = tupAt ((v 4)) 1 := J.vl 9 (show 9 ∉ ([4] : List Nat) from by decide) l9
   rw [hq] at hv9
   replace hv8 : v 8 = .slice na 2 nc := hv8
   replace hv9 : v 9 = .int .i64 0 := hv9
   rw [hv8, hv9]
   have f9 := J.fr
   have HJ := hideP hP
   replace FW := hideP (FW.out.trans f9)
   replace HB0 := hideP (HB0.out.fr f9)
   replace HB1 := hideP (HB1.out.fr f9)
   replace HB2 := hideP (HB2.out.fr f9)
   replace HBL := hideP (HBL.out.fr f9)
   replace HLs := hideP (HLs.out.fr f9)
   replace HCs := hideP (HCs.out.fr f9)
   replace HFa := hideP (HFa.out.fr f9)
   replace HS := hideP (HS.out.fr f9)
   replace HD := hideP (HD.out.fr f9)
   replace HG := hideP (HG.out.fr f9)
   replace HP := hideP (HP.out.fr f9)
   clear al l0 l1 l2 l3 l4 l5 l6 l7 l8 l9 J hr hs hv8 hv9 hq hP f9
   clear HJn
   go_wp2_with fail
   have c29 := limit_any _ BJ.ls 1 1 w8' HLs.out (by decide) BJ.len2
   rw [BJ.lim] at c29
   have C29 := hideP c29
   clear c29
   refine C29.out.mono ?_
   rintro _ w29 ⟨⟨m0, rfl, hO⟩, f29⟩
   replace FW := hideP (FW.out.trans f29)
   replace HB0 := hideP (HB0.out.fr f29)
   replace HB1 := hideP (HB1.out.fr f29)
   replace HB2 := hideP (HB2.out.fr f29)
   replace HBL := hideP (HBL.out.fr f29)
   replace HLs := hideP (HLs.out.fr f29)
   replace HCs := hideP (HCs.out.fr f29)
   replace HFa := hideP (HFa.out.fr f29)
   replace HS := hideP (HS.out.fr f29)
   replace HD := hideP (HD.out.fr f29)
   replace HG := hideP (HG.out.fr f29)
   replace HP := hideP (HP.out.fr f29)
   replace HJ := hideP (HJ.out.fr f29)
   clear f29 C29
   obtain ⟨ma, mc, rfl⟩ : ∃ a c, m0 = .slice a 1 c := hO.slice
   have HM := hideP hO.rows
   clear hO
   go_upto_region 10 with fail
   obtain ⟨nb, no, qb, qo, qc, hna, hj0, hj9, hj1, hj2, hj3, hj4⟩ := join_look HJ.out
   subst hna
   have K0 := hideP hj0
   have K9 := hideP hj9
   have K1 := hideP hj1
   have K2 := hideP hj2
   have K3 := hideP hj3
   have K4 := hideP hj4
   clear hj0 hj9 hj1 hj2 hj3 hj4
   have HCk := hideP (show ∀ W (q : Value), Fr w29 W → IsRR W q [[], BJ.ra] → Calls Tryz.prog 25 #[q] W fun e w' => e = .returned (.int .i64 1) ∧ Fr W w' from by
    intro W q f hq
    have c := bagCheck_any q _ W hq (by decide) (BJ.lenA (by rfl))
    rw [BJ.chk] at c
    exact c)
   refine region_inv2 rfl (fun listed v w7' => ∃ Gf, RZ (bja rl gc r0 r1 r2 uc sc dc pc jc nb no nc qb qo qc mc ua sa da pa ja ma) w29 Gf (fun i => listed.getD i false) v w7') ⟨_, RZ.start (Fr.drew (Fr.refl _)) 117 _⟩ (by decide) ?_ ?_
   ·
    rintro listed v w7' A hs ⟨Gf, J⟩ HA HO i hi
    have hi1 := (ready_spec hi).1
    have hlt : i < listed.size := by rw [hs]; exact hi1
    have hno := not_yet hs hi
    have hiN : i < 117 := hi1
    rcases (show i = 0 ∨ i = 1 ∨ i = 2 ∨ i = 3 ∨ i = 4 ∨ i = 5 ∨ i = 6 ∨ i = 7 ∨ i = 8 ∨ i = 9 ∨ i = 10 ∨ i = 11 ∨ i = 12 ∨ i = 13 ∨ i = 14 ∨ i = 15 ∨ i = 16 ∨ i = 17 ∨ i = 18 ∨ i = 19 ∨ i = 20 ∨ i = 21 ∨ i = 22 ∨ i = 23 ∨ i = 24 ∨ i = 25 ∨ i = 26 ∨ i = 27 ∨ i = 28 ∨ i = 29 ∨ i = 30 ∨ i = 31 ∨ i = 32 ∨ i = 33 ∨ i = 34 ∨ i = 35 ∨ i = 36 ∨ i = 37 ∨ i = 38 ∨ i = 39 ∨ i = 40 ∨ i = 41 ∨ i = 42 ∨ i = 43 ∨ i = 44 ∨ i = 45 ∨ i = 46 ∨ i = 47 ∨ i = 48 ∨ i = 49 ∨ i = 50 ∨ i = 51 ∨ i = 52 ∨ i = 53 ∨ i = 54 ∨ i = 55 ∨ i = 56 ∨ i = 57 ∨ i = 58 ∨ i = 59 ∨ i = 60 ∨ i = 61 ∨ i = 62 ∨ i = 63 ∨ i = 64 ∨ i = 65 ∨ i = 66 ∨ i = 67 ∨ i = 68 ∨ i = 69 ∨ i = 70 ∨ i = 71 ∨ i = 72 ∨ i = 73 ∨ i = 74 ∨ i = 75 ∨ i = 76 ∨ i = 77 ∨ i = 78 ∨ i = 79 ∨ i = 80 ∨ i = 81 ∨ i = 82 ∨ i = 83 ∨ i = 84 ∨ i = 85 ∨ i = 86 ∨ i = 87 ∨ i = 88 ∨ i = 89 ∨ i = 90 ∨ i = 91 ∨ i = 92 ∨ i = 93 ∨ i = 94 ∨ i = 95 ∨ i = 96 ∨ i = 97 ∨ i = 98 ∨ i = 99 ∨ i = 100 ∨ i = 101 ∨ i = 102 ∨ i = 103 ∨ i = 104 ∨ i = 105 ∨ i = 106 ∨ i = 107 ∨ i = 108 ∨ i = 109 ∨ i = 110 ∨ i = 111 ∨ i = 112 ∨ i = 113 ∨ i = 114 ∨ i = 115 ∨ i = 116 by omega) with rfl | rfl | rfl | rfl | rfl | rfl | rfl | rfl | rfl | rfl | rfl | rfl | rfl | rfl | rfl | rfl | rfl | rfl | rfl | rfl | rfl | rfl | rfl | rfl | rfl | rfl | rfl | rfl | rfl | rfl | rfl | rfl | rfl | rfl | rfl | rfl | rfl | rfl | rfl | rfl | rfl | rfl | rfl | rfl | rfl | rfl | rfl | rfl | rfl | rfl | rfl | rfl | rfl | rfl | rfl | rfl | rfl | rfl | rfl | rfl | rfl | rfl | rfl | rfl | rfl | rfl | rfl | rfl | rfl | rfl | rfl | rfl | rfl | rfl | rfl | rfl | rfl | rfl | rfl | rfl | rfl | rfl | rfl | rfl | rfl | rfl | rfl | rfl | rfl | rfl | rfl | rfl | rfl | rfl | rfl | rfl | rfl | rfl | rfl | rfl | rfl | rfl | rfl | rfl | rfl | rfl | rfl | rfl | rfl | rfl | rfl | rfl | rfl | rfl | rfl | rfl | rfl
    ·
     have t4 : A.eval (.tmp 4) = .int .i64 (0) := HO 4 (by decide)
     exact wpOp_gval rfl (wanted_none rfl) (x := .int .i64 (0)) (w' := w7') (exec_mv t4) ⟨_, rfl, _, by rw [toL hlt]; exact bja_pure J 0 hno (by decide) no0 no0 (Fr.refl _)⟩
    ·
     have h0 := after_one hi rfl 0 (by decide)
     have e0 : A.eval (.tmp 94) = .int .i64 (0) := (HA 0 94 rfl (by show 94 < 210; decide) h0).trans (J.vl 0 (show 0 ∉ ([] : List Nat) from by decide) h0)
     refine wpOp_gis (do eqGuard .eql 24 (.tmp 94) (.const (.int .i64 (0))) (A.eval (.tmp 94)) (.int .i64 (0)); binOp .eql 24 (A.eval (.tmp 94)) (.int .i64 (0))) rfl (wanted_none rfl) rfl (y := .bool true) (w' := w7') ?_ ⟨_, rfl, _, by rw [toL hlt]; exact bja_pure J 1 hno (by decide) no0 no0 (Fr.refl _)⟩
     rw [e0]
     kernel_rfl
    ·
     have h1 := after_one hi rfl 1 (by decide)
     have e1 : A.eval (.tmp 95) = .bool true := (HA 1 95 rfl (by show 95 < 210; decide) h1).trans (J.vl 1 (show 1 ∉ ([] : List Nat) from by decide) h1)
     exact wpOp_gval rfl (wanted_none rfl) (x := .bool true) (w' := w7') (exec_mv e1) ⟨_, rfl, _, by rw [toL hlt]; exact bja_pure J 2 hno (by decide) no0 no0 (Fr.refl _)⟩
    ·
     have h2 := after_one hi rfl 2 (by decide)
     have e2 : A.eval (.tmp 96) = .bool true := (HA 2 96 rfl (by show 96 < 210; decide) h2).trans (J.vl 2 (show 2 ∉ ([] : List Nat) from by decide) h2)
     have t3 : A.eval (.tmp 3) = .slice (ua) (2) (uc) := HO 3 (by decide)
     exact wpOp_gval rfl (wanted_of rfl rfl e2) (x := .slice (ua) (2) (uc)) (w' := w7') (exec_mv t3) ⟨_, rfl, _, by rw [toL hlt]; exact bja_pure J 3 hno (by decide) no0 no0 (Fr.refl _)⟩
    ·
     have h2 := after_one hi rfl 2 (by decide)
     have e2 : A.eval (.tmp 96) = .bool true := (HA 2 96 rfl (by show 96 < 210; decide) h2).trans (J.vl 2 (show 2 ∉ ([] : List Nat) from by decide) h2)
     have t1 : A.eval (.tmp 1) = .slice (some ⟨rl, 0, none⟩) (3) (3) := HO 1 (by decide)
     exact wpOp_gval rfl (wanted_of rfl rfl e2) (x := .slice (some ⟨rl, 0, none⟩) (3) (3)) (w' := w7') (exec_mv t1) ⟨_, rfl, _, by rw [toL hlt]; exact bja_pure J 4 hno (by decide) no0 no0 (Fr.refl _)⟩
    ·
     have h2 := after_one hi rfl 2 (by decide)
     have e2 : A.eval (.tmp 96) = .bool true := (HA 2 96 rfl (by show 96 < 210; decide) h2).trans (J.vl 2 (show 2 ∉ ([] : List Nat) from by decide) h2)
     have h4 := after_one hi rfl 4 (by decide)
     have e4 : A.eval (.tmp 98) = .slice (some ⟨rl, 0, none⟩) (3) (3) := (HA 4 98 rfl (by show 98 < 210; decide) h4).trans (J.vl 4 (show 4 ∉ ([] : List Nat) from by decide) h4)
     refine wpOp_gis (Instr.indexAt 22 (A.eval (.tmp 98)) (.int .i64 (0))) rfl (wanted_of rfl rfl e2) rfl (y := .pointer (some ⟨rl, 0, none⟩)) (w' := w7') ?_ ⟨_, rfl, _, by rw [toL hlt]; exact bja_pure J 5 hno (by decide) no0 no0 (Fr.refl _)⟩
     rw [e4]
     kernel_rfl
    ·
     have h2 := after_one hi rfl 2 (by decide)
     have e2 : A.eval (.tmp 96) = .bool true := (HA 2 96 rfl (by show 96 < 210; decide) h2).trans (J.vl 2 (show 2 ∉ ([] : List Nat) from by decide) h2)
     have h5 := after_one hi rfl 5 (by decide)
     have e5 : A.eval (.tmp 99) = .pointer (some ⟨rl, 0, none⟩) := (HA 5 99 rfl (by show 99 < 210; decide) h5).trans (J.vl 5 (show 5 ∉ ([] : List Nat) from by decide) h5)
     refine wpOp_gis (Instr.loadAt 31 (A.eval (.tmp 99))) rfl (wanted_of rfl rfl e2) rfl (y := .slice (some ⟨r0, 0, none⟩) (2) (2)) (w' := w7') ?_ ⟨_, rfl, _, by rw [toL hlt]; exact bja_pure J 6 hno (by decide) no0 no0 (Fr.refl _)⟩
     rw [e5]
     have m0 : w7'.cell? ⟨rl, 0, none⟩ = some (.slice (some ⟨r0, 0, none⟩) (2) (2)) := (HBL.out.fr J.fr).cell 0 rfl
     simp [go_sem, m0]
    ·
     have h2 := after_one hi rfl 2 (by decide)
     have e2 : A.eval (.tmp 96) = .bool true := (HA 2 96 rfl (by show 96 < 210; decide) h2).trans (J.vl 2 (show 2 ∉ ([] : List Nat) from by decide) h2)
     have t1 : A.eval (.tmp 1) = .slice (some ⟨rl, 0, none⟩) (3) (3) := HO 1 (by decide)
     exact wpOp_gval rfl (wanted_of rfl rfl e2) (x := .slice (some ⟨rl, 0, none⟩) (3) (3)) (w' := w7') (exec_mv t1) ⟨_, rfl, _, by rw [toL hlt]; exact bja_pure J 7 hno (by decide) no0 no0 (Fr.refl _)⟩
    ·
     have h2 := after_one hi rfl 2 (by decide)
     have e2 : A.eval (.tmp 96) = .bool true := (HA 2 96 rfl (by show 96 < 210; decide) h2).trans (J.vl 2 (show 2 ∉ ([] : List Nat) from by decide) h2)
     have h7 := after_one hi rfl 7 (by decide)
     have e7 : A.eval (.tmp 101) = .slice (some ⟨rl, 0, none⟩) (3) (3) := (HA 7 101 rfl (by show 101 < 210; decide) h7).trans (J.vl 7 (show 7 ∉ ([] : List Nat) from by decide) h7)
     refine wpOp_gis (Instr.indexAt 22 (A.eval (.tmp 101)) (.int .i64 (2))) rfl (wanted_of rfl rfl e2) rfl (y := .pointer (some ⟨rl, 2, none⟩)) (w' := w7') ?_ ⟨_, rfl, _, by rw [toL hlt]; exact bja_pure J 8 hno (by decide) no0 no0 (Fr.refl _)⟩
     rw [e7]
     kernel_rfl
    ·
     have h2 := after_one hi rfl 2 (by decide)
     have e2 : A.eval (.tmp 96) = .bool true := (HA 2 96 rfl (by show 96 < 210; decide) h2).trans (J.vl 2 (show 2 ∉ ([] : List Nat) from by decide) h2)
     have h8 := after_one hi rfl 8 (by decide)
     have e8 : A.eval (.tmp 102) = .pointer (some ⟨rl, 2, none⟩) := (HA 8 102 rfl (by show 102 < 210; decide) h8).trans (J.vl 8 (show 8 ∉ ([] : List Nat) from by decide) h8)
     refine wpOp_gis (Instr.loadAt 31 (A.eval (.tmp 102))) rfl (wanted_of rfl rfl e2) rfl (y := .slice (some ⟨r2, 0, none⟩) (2) (2)) (w' := w7') ?_ ⟨_, rfl, _, by rw [toL hlt]; exact bja_pure J 9 hno (by decide) no0 no0 (Fr.refl _)⟩
     rw [e8]
     have m0 : w7'.cell? ⟨rl, 2, none⟩ = some (.slice (some ⟨r2, 0, none⟩) (2) (2)) := (HBL.out.fr J.fr).cell 2 rfl
     simp [go_sem, m0]
    ·
     have h2 := after_one hi rfl 2 (by decide)
     have e2 : A.eval (.tmp 96) = .bool true := (HA 2 96 rfl (by show 96 < 210; decide) h2).trans (J.vl 2 (show 2 ∉ ([] : List Nat) from by decide) h2)
     have h6 := after_one hi rfl 6 (by decide)
     have e6 : A.eval (.tmp 100) = .slice (some ⟨r0, 0, none⟩) (2) (2) := (HA 6 100 rfl (by show 100 < 210; decide) h6).trans (J.vl 6 (show 6 ∉ ([] : List Nat) from by decide) h6)
     have h9 := after_one hi rfl 9 (by decide)
     have e9 : A.eval (.tmp 103) = .slice (some ⟨r2, 0, none⟩) (2) (2) := (HA 9 103 rfl (by show 103 < 210; decide) h9).trans (J.vl 9 (show 9 ∉ ([] : List Nat) from by decide) h9)
     refine wpOp_gis (Instr.buildSlice 22 2 (#[(0, Operand.tmp 100), (1, Operand.tmp 103)].map fun (i, x) => (i, A.eval x))) rfl (wanted_of rfl rfl e2) rfl (y := .slice (some ⟨w7'.heap.size, 0, none⟩) 2 2) (w' := w7'.alloc (.cells #[.slice (some ⟨r0, 0, none⟩) (2) (2), .slice (some ⟨r2, 0, none⟩) (2) (2)] 31)) ?_ ⟨_, rfl, _, by rw [toL hlt]; exact J.new 10 (show 10 ∈ ([10, 29, 52, 54, 66, 68, 111] : List Nat) from by decide) (show 10 ∉ ([] : List Nat) from by decide) hno rfl no0 (bja_st rl gc r0 r1 r2 uc sc dc pc jc nb no nc qb qo qc mc ua sa da pa ja ma) (by intro k hk hne hkL; change k ∈ ([10, 29, 52, 54, 66, 68, 111] : List Nat) at hk; simp only [List.mem_cons, List.not_mem_nil, or_false] at hk; rcases hk with rfl | rfl | rfl | rfl | rfl | rfl | rfl <;> first | rfl | exact absurd rfl hne) rfl⟩
     simp only [List.map_toArray, List.map_cons, List.map_nil, e6, e9]
     kernel_rfl
    ·
     have h2 := after_one hi rfl 2 (by decide)
     have e2 : A.eval (.tmp 96) = .bool true := (HA 2 96 rfl (by show 96 < 210; decide) h2).trans (J.vl 2 (show 2 ∉ ([] : List Nat) from by decide) h2)
     have h10 := after_one hi rfl 10 (by decide)
     have e10 : A.eval (.tmp 104) = .slice (some ⟨(Gf 10), 0, none⟩) (2) (2) := (HA 10 104 rfl (by show 104 < 210; decide) h10).trans (J.vl 10 (show 10 ∉ ([] : List Nat) from by decide) h10)
     refine wpOp_gcall rfl (wanted_of rfl rfl e2) (args := #[.slice (some ⟨(Gf 10), 0, none⟩) (2) (2)]) (by first | rfl | (simp only [List.map_toArray, List.map_cons, List.map_nil, e10]; done) | (simp only [List.map_toArray, List.map_cons, List.map_nil, e10]; rfl)) (by kernel_rfl) (rowsOf_any _ _ _ _) ?_
     rintro e w2 ⟨rfl, rfl⟩
     exact ⟨_, rfl, _, rfl, _, by rw [toL hlt]; exact bja_pure J 11 hno (by decide) (no1 h10) no0 (Fr.refl _)⟩
    ·
     have h2 := after_one hi rfl 2 (by decide)
     have e2 : A.eval (.tmp 96) = .bool true := (HA 2 96 rfl (by show 96 < 210; decide) h2).trans (J.vl 2 (show 2 ∉ ([] : List Nat) from by decide) h2)
     have h3 := after_one hi rfl 3 (by decide)
     have e3 : A.eval (.tmp 97) = .slice (ua) (2) (uc) := (HA 3 97 rfl (by show 97 < 210; decide) h3).trans (J.vl 3 (show 3 ∉ ([] : List Nat) from by decide) h3)
     have h11 := after_one hi rfl 11 (by decide)
     have e11 : A.eval (.tmp 105) = .slice (some ⟨(Gf 10), 0, none⟩) (2) (2) := (HA 11 105 rfl (by show 105 < 210; decide) h11).trans (J.vl 11 (show 11 ∉ ([] : List Nat) from by decide) h11)
     have h10 := J.dp 11 h11 10 (show 10 ∈ ([10] : List Nat) from by decide)
     have b10 : Blk w7' (Gf 10) #[.slice (some ⟨r0, 0, none⟩) 2 2, .slice (some ⟨r2, 0, none⟩) 2 2] 31 := (J.bk 10 (show 10 ∈ ([10, 29, 52, 54, 66, 68, 111] : List Nat) from by decide) h10).2
     refine wpOp_gcall rfl (wanted_of rfl rfl e2) (args := #[.slice (ua) (2) (uc), .slice (some ⟨(Gf 10), 0, none⟩) (2) (2)]) (by first | rfl | (simp only [List.map_toArray, List.map_cons, List.map_nil, e3, e11]; done) | (simp only [List.map_toArray, List.map_cons, List.map_nil, e3, e11]; rfl)) (by kernel_rfl) (sameRows_eq _ _ [BJ.ra, BJ.ra] w7' (HFa.out.fr J.fr) (isRR_two (a := ⟨some ⟨r0, 0, none⟩, 2, 2⟩) (b := ⟨some ⟨r2, 0, none⟩, 2, 2⟩) b10 ((isL_blkV BJ.ra HB0.out).fr J.fr) ((isL_blkV BJ.ra HB2.out).fr J.fr)) (by decide) (BJ.lenA (by rfl))) ?_
     rintro e w2 ⟨rfl, f2⟩
     exact ⟨_, rfl, _, rfl, _, by rw [toL hlt]; exact bja_pure J 12 hno (by decide) no0 no0 f2⟩
    ·
     have h2 := after_one hi rfl 2 (by decide)
     have e2 : A.eval (.tmp 96) = .bool true := (HA 2 96 rfl (by show 96 < 210; decide) h2).trans (J.vl 2 (show 2 ∉ ([] : List Nat) from by decide) h2)
     have h12 := after_one hi rfl 12 (by decide)
     have e12 : A.eval (.tmp 106) = .bool true := (HA 12 106 rfl (by show 106 < 210; decide) h12).trans (J.vl 12 (show 12 ∉ ([] : List Nat) from by decide) h12)
     exact wpOp_gval rfl (wanted_none rfl) (x := .bool true) (w' := w7') (exec_pick e2 e12) ⟨_, rfl, _, by rw [toL hlt]; exact bja_pure J 13 hno (by decide) no0 no0 (Fr.refl _)⟩
    ·
     have h13 := after_one hi rfl 13 (by decide)
     have e13 : A.eval (.tmp 107) = .bool true := (HA 13 107 rfl (by show 107 < 210; decide) h13).trans (J.vl 13 (show 13 ∉ ([] : List Nat) from by decide) h13)
     exact wpOp_gval rfl (wanted_none rfl) (x := .bool true) (w' := w7') (exec_mv e13) ⟨_, rfl, _, by rw [toL hlt]; exact bja_pure J 14 hno (by decide) no0 no0 (Fr.refl _)⟩
    ·
     have h14 := after_one hi rfl 14 (by decide)
     have e14 : A.eval (.tmp 108) = .bool true := (HA 14 108 rfl (by show 108 < 210; decide) h14).trans (J.vl 14 (show 14 ∉ ([] : List Nat) from by decide) h14)
     have t6 : A.eval (.tmp 6) = .int .i64 (0) := HO 6 (by decide)
     exact wpOp_gval rfl (wanted_of rfl rfl e14) (x := .int .i64 (0)) (w' := w7') (exec_mv t6) ⟨_, rfl, _, by rw [toL hlt]; exact bja_pure J 15 hno (by decide) no0 no0 (Fr.refl _)⟩
    ·
     have h14 := after_one hi rfl 14 (by decide)
     have e14 : A.eval (.tmp 108) = .bool true := (HA 14 108 rfl (by show 108 < 210; decide) h14).trans (J.vl 14 (show 14 ∉ ([] : List Nat) from by decide) h14)
     have h15 := after_one hi rfl 15 (by decide)
     have e15 : A.eval (.tmp 109) = .int .i64 (0) := (HA 15 109 rfl (by show 109 < 210; decide) h15).trans (J.vl 15 (show 15 ∉ ([] : List Nat) from by decide) h15)
     refine wpOp_gis (do eqGuard .eql 24 (.tmp 109) (.const (.int .i64 (0))) (A.eval (.tmp 109)) (.int .i64 (0)); binOp .eql 24 (A.eval (.tmp 109)) (.int .i64 (0))) rfl (wanted_of rfl rfl e14) rfl (y := .bool true) (w' := w7') ?_ ⟨_, rfl, _, by rw [toL hlt]; exact bja_pure J 16 hno (by decide) no0 no0 (Fr.refl _)⟩
     rw [e15]
     kernel_rfl
    ·
     have h14 := after_one hi rfl 14 (by decide)
     have e14 : A.eval (.tmp 108) = .bool true := (HA 14 108 rfl (by show 108 < 210; decide) h14).trans (J.vl 14 (show 14 ∉ ([] : List Nat) from by decide) h14)
     have h16 := after_one hi rfl 16 (by decide)
     have e16 : A.eval (.tmp 110) = .bool true := (HA 16 110 rfl (by show 110 < 210; decide) h16).trans (J.vl 16 (show 16 ∉ ([] : List Nat) from by decide) h16)
     exact wpOp_gval rfl (wanted_none rfl) (x := .bool true) (w' := w7') (exec_pick e14 e16) ⟨_, rfl, _, by rw [toL hlt]; exact bja_pure J 17 hno (by decide) no0 no0 (Fr.refl _)⟩
    ·
     have h17 := after_one hi rfl 17 (by decide)
     have e17 : A.eval (.tmp 111) = .bool true := (HA 17 111 rfl (by show 111 < 210; decide) h17).trans (J.vl 17 (show 17 ∉ ([] : List Nat) from by decide) h17)
     exact wpOp_gval rfl (wanted_none rfl) (x := .bool true) (w' := w7') (exec_mv e17) ⟨_, rfl, _, by rw [toL hlt]; exact bja_pure J 18 hno (by decide) no0 no0 (Fr.refl _)⟩
    ·
     have h18 := after_one hi rfl 18 (by decide)
     have e18 : A.eval (.tmp 112) = .bool true := (HA 18 112 rfl (by show 112 < 210; decide) h18).trans (J.vl 18 (show 18 ∉ ([] : List Nat) from by decide) h18)
     have t5 : A.eval (.tmp 5) = .slice (sa) (3) (sc) := HO 5 (by decide)
     exact wpOp_gval rfl (wanted_of rfl rfl e18) (x := .slice (sa) (3) (sc)) (w' := w7') (exec_mv t5) ⟨_, rfl, _, by rw [toL hlt]; exact bja_pure J 19 hno (by decide) no0 no0 (Fr.refl _)⟩
    ·
     have h18 := after_one hi rfl 18 (by decide)
     have e18 : A.eval (.tmp 112) = .bool true := (HA 18 112 rfl (by show 112 < 210; decide) h18).trans (J.vl 18 (show 18 ∉ ([] : List Nat) from by decide) h18)
     have t1 : A.eval (.tmp 1) = .slice (some ⟨rl, 0, none⟩) (3) (3) := HO 1 (by decide)
     exact wpOp_gval rfl (wanted_of rfl rfl e18) (x := .slice (some ⟨rl, 0, none⟩) (3) (3)) (w' := w7') (exec_mv t1) ⟨_, rfl, _, by rw [toL hlt]; exact bja_pure J 20 hno (by decide) no0 no0 (Fr.refl _)⟩
    ·
     have h18 := after_one hi rfl 18 (by decide)
     have e18 : A.eval (.tmp 112) = .bool true := (HA 18 112 rfl (by show 112 < 210; decide) h18).trans (J.vl 18 (show 18 ∉ ([] : List Nat) from by decide) h18)
     have h20 := after_one hi rfl 20 (by decide)
     have e20 : A.eval (.tmp 114) = .slice (some ⟨rl, 0, none⟩) (3) (3) := (HA 20 114 rfl (by show 114 < 210; decide) h20).trans (J.vl 20 (show 20 ∉ ([] : List Nat) from by decide) h20)
     refine wpOp_gis (Instr.indexAt 22 (A.eval (.tmp 114)) (.int .i64 (1))) rfl (wanted_of rfl rfl e18) rfl (y := .pointer (some ⟨rl, 1, none⟩)) (w' := w7') ?_ ⟨_, rfl, _, by rw [toL hlt]; exact bja_pure J 21 hno (by decide) no0 no0 (Fr.refl _)⟩
     rw [e20]
     kernel_rfl
    ·
     have h18 := after_one hi rfl 18 (by decide)
     have e18 : A.eval (.tmp 112) = .bool true := (HA 18 112 rfl (by show 112 < 210; decide) h18).trans (J.vl 18 (show 18 ∉ ([] : List Nat) from by decide) h18)
     have h21 := after_one hi rfl 21 (by decide)
     have e21 : A.eval (.tmp 115) = .pointer (some ⟨rl, 1, none⟩) := (HA 21 115 rfl (by show 115 < 210; decide) h21).trans (J.vl 21 (show 21 ∉ ([] : List Nat) from by decide) h21)
     refine wpOp_gis (Instr.loadAt 31 (A.eval (.tmp 115))) rfl (wanted_of rfl rfl e18) rfl (y := .slice (some ⟨r1, 0, none⟩) (2) (2)) (w' := w7') ?_ ⟨_, rfl, _, by rw [toL hlt]; exact bja_pure J 22 hno (by decide) no0 no0 (Fr.refl _)⟩
     rw [e21]
     have m0 : w7'.cell? ⟨rl, 1, none⟩ = some (.slice (some ⟨r1, 0, none⟩) (2) (2)) := (HBL.out.fr J.fr).cell 1 rfl
     simp [go_sem, m0]
    ·
     have h18 := after_one hi rfl 18 (by decide)
     have e18 : A.eval (.tmp 112) = .bool true := (HA 18 112 rfl (by show 112 < 210; decide) h18).trans (J.vl 18 (show 18 ∉ ([] : List Nat) from by decide) h18)
     have t1 : A.eval (.tmp 1) = .slice (some ⟨rl, 0, none⟩) (3) (3) := HO 1 (by decide)
     exact wpOp_gval rfl (wanted_of rfl rfl e18) (x := .slice (some ⟨rl, 0, none⟩) (3) (3)) (w' := w7') (exec_mv t1) ⟨_, rfl, _, by rw [toL hlt]; exact bja_pure J 23 hno (by decide) no0 no0 (Fr.refl _)⟩
    ·
     have h18 := after_one hi rfl 18 (by decide)
     have e18 : A.eval (.tmp 112) = .bool true := (HA 18 112 rfl (by show 112 < 210; decide) h18).trans (J.vl 18 (show 18 ∉ ([] : List Nat) from by decide) h18)
     have h23 := after_one hi rfl 23 (by decide)
     have e23 : A.eval (.tmp 117) = .slice (some ⟨rl, 0, none⟩) (3) (3) := (HA 23 117 rfl (by show 117 < 210; decide) h23).trans (J.vl 23 (show 23 ∉ ([] : List Nat) from by decide) h23)
     refine wpOp_gis (Instr.indexAt 22 (A.eval (.tmp 117)) (.int .i64 (0))) rfl (wanted_of rfl rfl e18) rfl (y := .pointer (some ⟨rl, 0, none⟩)) (w' := w7') ?_ ⟨_, rfl, _, by rw [toL hlt]; exact bja_pure J 24 hno (by decide) no0 no0 (Fr.refl _)⟩
     rw [e23]
     kernel_rfl
    ·
     have h18 := after_one hi rfl 18 (by decide)
     have e18 : A.eval (.tmp 112) = .bool true := (HA 18 112 rfl (by show 112 < 210; decide) h18).trans (J.vl 18 (show 18 ∉ ([] : List Nat) from by decide) h18)
     have h24 := after_one hi rfl 24 (by decide)
     have e24 : A.eval (.tmp 118) = .pointer (some ⟨rl, 0, none⟩) := (HA 24 118 rfl (by show 118 < 210; decide) h24).trans (J.vl 24 (show 24 ∉ ([] : List Nat) from by decide) h24)
     refine wpOp_gis (Instr.loadAt 31 (A.eval (.tmp 118))) rfl (wanted_of rfl rfl e18) rfl (y := .slice (some ⟨r0, 0, none⟩) (2) (2)) (w' := w7') ?_ ⟨_, rfl, _, by rw [toL hlt]; exact bja_pure J 25 hno (by decide) no0 no0 (Fr.refl _)⟩
     rw [e24]
     have m0 : w7'.cell? ⟨rl, 0, none⟩ = some (.slice (some ⟨r0, 0, none⟩) (2) (2)) := (HBL.out.fr J.fr).cell 0 rfl
     simp [go_sem, m0]
    ·
     have h18 := after_one hi rfl 18 (by decide)
     have e18 : A.eval (.tmp 112) = .bool true := (HA 18 112 rfl (by show 112 < 210; decide) h18).trans (J.vl 18 (show 18 ∉ ([] : List Nat) from by decide) h18)
     have t1 : A.eval (.tmp 1) = .slice (some ⟨rl, 0, none⟩) (3) (3) := HO 1 (by decide)
     exact wpOp_gval rfl (wanted_of rfl rfl e18) (x := .slice (some ⟨rl, 0, none⟩) (3) (3)) (w' := w7') (exec_mv t1) ⟨_, rfl, _, by rw [toL hlt]; exact bja_pure J 26 hno (by decide) no0 no0 (Fr.refl _)⟩
    ·
     have h18 := after_one hi rfl 18 (by decide)
     have e18 : A.eval (.tmp 112) = .bool true := (HA 18 112 rfl (by show 112 < 210; decide) h18).trans (J.vl 18 (show 18 ∉ ([] : List Nat) from by decide) h18)
     have h26 := after_one hi rfl 26 (by decide)
     have e26 : A.eval (.tmp 120) = .slice (some ⟨rl, 0, none⟩) (3) (3) := (HA 26 120 rfl (by show 120 < 210; decide) h26).trans (J.vl 26 (show 26 ∉ ([] : List Nat) from by decide) h26)
     refine wpOp_gis (Instr.indexAt 22 (A.eval (.tmp 120)) (.int .i64 (2))) rfl (wanted_of rfl rfl e18) rfl (y := .pointer (some ⟨rl, 2, none⟩)) (w' := w7') ?_ ⟨_, rfl, _, by rw [toL hlt]; exact bja_pure J 27 hno (by decide) no0 no0 (Fr.refl _)⟩
     rw [e26]
     kernel_rfl
    ·
     have h18 := after_one hi rfl 18 (by decide)
     have e18 : A.eval (.tmp 112) = .bool true := (HA 18 112 rfl (by show 112 < 210; decide) h18).trans (J.vl 18 (show 18 ∉ ([] : List Nat) from by decide) h18)
     have h27 := after_one hi rfl 27 (by decide)
     have e27 : A.eval (.tmp 121) = .pointer (some ⟨rl, 2, none⟩) := (HA 27 121 rfl (by show 121 < 210; decide) h27).trans (J.vl 27 (show 27 ∉ ([] : List Nat) from by decide) h27)
     refine wpOp_gis (Instr.loadAt 31 (A.eval (.tmp 121))) rfl (wanted_of rfl rfl e18) rfl (y := .slice (some ⟨r2, 0, none⟩) (2) (2)) (w' := w7') ?_ ⟨_, rfl, _, by rw [toL hlt]; exact bja_pure J 28 hno (by decide) no0 no0 (Fr.refl _)⟩
     rw [e27]
     have m0 : w7'.cell? ⟨rl, 2, none⟩ = some (.slice (some ⟨r2, 0, none⟩) (2) (2)) := (HBL.out.fr J.fr).cell 2 rfl
     simp [go_sem, m0]
    ·
     have h18 := after_one hi rfl 18 (by decide)
     have e18 : A.eval (.tmp 112) = .bool true := (HA 18 112 rfl (by show 112 < 210; decide) h18).trans (J.vl 18 (show 18 ∉ ([] : List Nat) from by decide) h18)
     have h22 := after_one hi rfl 22 (by decide)
     have e22 : A.eval (.tmp 116) = .slice (some ⟨r1, 0, none⟩) (2) (2) := (HA 22 116 rfl (by show 116 < 210; decide) h22).trans (J.vl 22 (show 22 ∉ ([] : List Nat) from by decide) h22)
     have h25 := after_one hi rfl 25 (by decide)
     have e25 : A.eval (.tmp 119) = .slice (some ⟨r0, 0, none⟩) (2) (2) := (HA 25 119 rfl (by show 119 < 210; decide) h25).trans (J.vl 25 (show 25 ∉ ([] : List Nat) from by decide) h25)
     have h28 := after_one hi rfl 28 (by decide)
     have e28 : A.eval (.tmp 122) = .slice (some ⟨r2, 0, none⟩) (2) (2) := (HA 28 122 rfl (by show 122 < 210; decide) h28).trans (J.vl 28 (show 28 ∉ ([] : List Nat) from by decide) h28)
     refine wpOp_gis (Instr.buildSlice 22 3 (#[(0, Operand.tmp 116), (1, Operand.tmp 119), (2, Operand.tmp 122)].map fun (i, x) => (i, A.eval x))) rfl (wanted_of rfl rfl e18) rfl (y := .slice (some ⟨w7'.heap.size, 0, none⟩) 3 3) (w' := w7'.alloc (.cells #[.slice (some ⟨r1, 0, none⟩) (2) (2), .slice (some ⟨r0, 0, none⟩) (2) (2), .slice (some ⟨r2, 0, none⟩) (2) (2)] 31)) ?_ ⟨_, rfl, _, by rw [toL hlt]; exact J.new 29 (show 29 ∈ ([10, 29, 52, 54, 66, 68, 111] : List Nat) from by decide) (show 29 ∉ ([] : List Nat) from by decide) hno rfl no0 (bja_st rl gc r0 r1 r2 uc sc dc pc jc nb no nc qb qo qc mc ua sa da pa ja ma) (by intro k hk hne hkL; change k ∈ ([10, 29, 52, 54, 66, 68, 111] : List Nat) at hk; simp only [List.mem_cons, List.not_mem_nil, or_false] at hk; rcases hk with rfl | rfl | rfl | rfl | rfl | rfl | rfl <;> first | rfl | exact absurd rfl hne) rfl⟩
     simp only [List.map_toArray, List.map_cons, List.map_nil, e22, e25, e28]
     kernel_rfl
    ·
     have h18 := after_one hi rfl 18 (by decide)
     have e18 : A.eval (.tmp 112) = .bool true := (HA 18 112 rfl (by show 112 < 210; decide) h18).trans (J.vl 18 (show 18 ∉ ([] : List Nat) from by decide) h18)
     have h29 := after_one hi rfl 29 (by decide)
     have e29 : A.eval (.tmp 123) = .slice (some ⟨(Gf 29), 0, none⟩) (3) (3) := (HA 29 123 rfl (by show 123 < 210; decide) h29).trans (J.vl 29 (show 29 ∉ ([] : List Nat) from by decide) h29)
     refine wpOp_gcall rfl (wanted_of rfl rfl e18) (args := #[.slice (some ⟨(Gf 29), 0, none⟩) (3) (3)]) (by first | rfl | (simp only [List.map_toArray, List.map_cons, List.map_nil, e29]; done) | (simp only [List.map_toArray, List.map_cons, List.map_nil, e29]; rfl)) (by kernel_rfl) (rowsOf_any _ _ _ _) ?_
     rintro e w2 ⟨rfl, rfl⟩
     exact ⟨_, rfl, _, rfl, _, by rw [toL hlt]; exact bja_pure J 30 hno (by decide) (no1 h29) no0 (Fr.refl _)⟩
    ·
     have h18 := after_one hi rfl 18 (by decide)
     have e18 : A.eval (.tmp 112) = .bool true := (HA 18 112 rfl (by show 112 < 210; decide) h18).trans (J.vl 18 (show 18 ∉ ([] : List Nat) from by decide) h18)
     have h19 := after_one hi rfl 19 (by decide)
     have e19 : A.eval (.tmp 113) = .slice (sa) (3) (sc) := (HA 19 113 rfl (by show 113 < 210; decide) h19).trans (J.vl 19 (show 19 ∉ ([] : List Nat) from by decide) h19)
     have h30 := after_one hi rfl 30 (by decide)
     have e30 : A.eval (.tmp 124) = .slice (some ⟨(Gf 29), 0, none⟩) (3) (3) := (HA 30 124 rfl (by show 124 < 210; decide) h30).trans (J.vl 30 (show 30 ∉ ([] : List Nat) from by decide) h30)
     have h29 := J.dp 30 h30 29 (show 29 ∈ ([29] : List Nat) from by decide)
     have b29 : Blk w7' (Gf 29) #[.slice (some ⟨r1, 0, none⟩) 2 2, .slice (some ⟨r0, 0, none⟩) 2 2, .slice (some ⟨r2, 0, none⟩) 2 2] 31 := (J.bk 29 (show 29 ∈ ([10, 29, 52, 54, 66, 68, 111] : List Nat) from by decide) h29).2
     refine wpOp_gcall rfl (wanted_of rfl rfl e18) (args := #[.slice (sa) (3) (sc), .slice (some ⟨(Gf 29), 0, none⟩) (3) (3)]) (by first | rfl | (simp only [List.map_toArray, List.map_cons, List.map_nil, e19, e30]; done) | (simp only [List.map_toArray, List.map_cons, List.map_nil, e19, e30]; rfl)) (by kernel_rfl) (sameRows_eq _ _ [BJ.rb, BJ.ra, BJ.ra] w7' (HS.out.fr J.fr) (isRR_three (a := ⟨some ⟨r1, 0, none⟩, 2, 2⟩) (b := ⟨some ⟨r0, 0, none⟩, 2, 2⟩) (c := ⟨some ⟨r2, 0, none⟩, 2, 2⟩) b29 ((isL_blkV BJ.rb HB1.out).fr J.fr) ((isL_blkV BJ.ra HB0.out).fr J.fr) ((isL_blkV BJ.ra HB2.out).fr J.fr)) (by decide) (BJ.lenA (by rfl))) ?_
     rintro e w2 ⟨rfl, f2⟩
     exact ⟨_, rfl, _, rfl, _, by rw [toL hlt]; exact bja_pure J 31 hno (by decide) no0 no0 f2⟩
    ·
     have h18 := after_one hi rfl 18 (by decide)
     have e18 : A.eval (.tmp 112) = .bool true := (HA 18 112 rfl (by show 112 < 210; decide) h18).trans (J.vl 18 (show 18 ∉ ([] : List Nat) from by decide) h18)
     have h31 := after_one hi rfl 31 (by decide)
     have e31 : A.eval (.tmp 125) = .bool true := (HA 31 125 rfl (by show 125 < 210; decide) h31).trans (J.vl 31 (show 31 ∉ ([] : List Nat) from by decide) h31)
     exact wpOp_gval rfl (wanted_none rfl) (x := .bool true) (w' := w7') (exec_pick e18 e31) ⟨_, rfl, _, by rw [toL hlt]; exact bja_pure J 32 hno (by decide) no0 no0 (Fr.refl _)⟩
    ·
     have h32 := after_one hi rfl 32 (by decide)
     have e32 : A.eval (.tmp 126) = .bool true := (HA 32 126 rfl (by show 126 < 210; decide) h32).trans (J.vl 32 (show 32 ∉ ([] : List Nat) from by decide) h32)
     exact wpOp_gval rfl (wanted_none rfl) (x := .bool true) (w' := w7') (exec_mv e32) ⟨_, rfl, _, by rw [toL hlt]; exact bja_pure J 33 hno (by decide) no0 no0 (Fr.refl _)⟩
    ·
     have h33 := after_one hi rfl 33 (by decide)
     have e33 : A.eval (.tmp 127) = .bool true := (HA 33 127 rfl (by show 127 < 210; decide) h33).trans (J.vl 33 (show 33 ∉ ([] : List Nat) from by decide) h33)
     have t8 : A.eval (.tmp 8) = .int .i64 (0) := HO 8 (by decide)
     exact wpOp_gval rfl (wanted_of rfl rfl e33) (x := .int .i64 (0)) (w' := w7') (exec_mv t8) ⟨_, rfl, _, by rw [toL hlt]; exact bja_pure J 34 hno (by decide) no0 no0 (Fr.refl _)⟩
    ·
     have h33 := after_one hi rfl 33 (by decide)
     have e33 : A.eval (.tmp 127) = .bool true := (HA 33 127 rfl (by show 127 < 210; decide) h33).trans (J.vl 33 (show 33 ∉ ([] : List Nat) from by decide) h33)
     have h34 := after_one hi rfl 34 (by decide)
     have e34 : A.eval (.tmp 128) = .int .i64 (0) := (HA 34 128 rfl (by show 128 < 210; decide) h34).trans (J.vl 34 (show 34 ∉ ([] : List Nat) from by decide) h34)
     refine wpOp_gis (do eqGuard .eql 24 (.tmp 128) (.const (.int .i64 (0))) (A.eval (.tmp 128)) (.int .i64 (0)); binOp .eql 24 (A.eval (.tmp 128)) (.int .i64 (0))) rfl (wanted_of rfl rfl e33) rfl (y := .bool true) (w' := w7') ?_ ⟨_, rfl, _, by rw [toL hlt]; exact bja_pure J 35 hno (by decide) no0 no0 (Fr.refl _)⟩
     rw [e34]
     kernel_rfl
    ·
     have h33 := after_one hi rfl 33 (by decide)
     have e33 : A.eval (.tmp 127) = .bool true := (HA 33 127 rfl (by show 127 < 210; decide) h33).trans (J.vl 33 (show 33 ∉ ([] : List Nat) from by decide) h33)
     have h35 := after_one hi rfl 35 (by decide)
     have e35 : A.eval (.tmp 129) = .bool true := (HA 35 129 rfl (by show 129 < 210; decide) h35).trans (J.vl 35 (show 35 ∉ ([] : List Nat) from by decide) h35)
     exact wpOp_gval rfl (wanted_none rfl) (x := .bool true) (w' := w7') (exec_pick e33 e35) ⟨_, rfl, _, by rw [toL hlt]; exact bja_pure J 36 hno (by decide) no0 no0 (Fr.refl _)⟩
    ·
     have h36 := after_one hi rfl 36 (by decide)
     have e36 : A.eval (.tmp 130) = .bool true := (HA 36 130 rfl (by show 130 < 210; decide) h36).trans (J.vl 36 (show 36 ∉ ([] : List Nat) from by decide) h36)
     exact wpOp_gval rfl (wanted_none rfl) (x := .bool true) (w' := w7') (exec_mv e36) ⟨_, rfl, _, by rw [toL hlt]; exact bja_pure J 37 hno (by decide) no0 no0 (Fr.refl _)⟩
    ·
     have h37 := after_one hi rfl 37 (by decide)
     have e37 : A.eval (.tmp 131) = .bool true := (HA 37 131 rfl (by show 131 < 210; decide) h37).trans (J.vl 37 (show 37 ∉ ([] : List Nat) from by decide) h37)
     have t7 : A.eval (.tmp 7) = .slice (da) (2) (dc) := HO 7 (by decide)
     exact wpOp_gval rfl (wanted_of rfl rfl e37) (x := .slice (da) (2) (dc)) (w' := w7') (exec_mv t7) ⟨_, rfl, _, by rw [toL hlt]; exact bja_pure J 38 hno (by decide) no0 no0 (Fr.refl _)⟩
    ·
     have h37 := after_one hi rfl 37 (by decide)
     have e37 : A.eval (.tmp 131) = .bool true := (HA 37 131 rfl (by show 131 < 210; decide) h37).trans (J.vl 37 (show 37 ∉ ([] : List Nat) from by decide) h37)
     have t1 : A.eval (.tmp 1) = .slice (some ⟨rl, 0, none⟩) (3) (3) := HO 1 (by decide)
     exact wpOp_gval rfl (wanted_of rfl rfl e37) (x := .slice (some ⟨rl, 0, none⟩) (3) (3)) (w' := w7') (exec_mv t1) ⟨_, rfl, _, by rw [toL hlt]; exact bja_pure J 39 hno (by decide) no0 no0 (Fr.refl _)⟩
    ·
     have h37 := after_one hi rfl 37 (by decide)
     have e37 : A.eval (.tmp 131) = .bool true := (HA 37 131 rfl (by show 131 < 210; decide) h37).trans (J.vl 37 (show 37 ∉ ([] : List Nat) from by decide) h37)
     have h39 := after_one hi rfl 39 (by decide)
     have e39 : A.eval (.tmp 133) = .slice (some ⟨rl, 0, none⟩) (3) (3) := (HA 39 133 rfl (by show 133 < 210; decide) h39).trans (J.vl 39 (show 39 ∉ ([] : List Nat) from by decide) h39)
     refine wpOp_gis (Instr.sliceAt 22 (A.eval (.tmp 133)) none (some (.int .i64 (2))) none) rfl (wanted_of rfl rfl e37) rfl (y := .slice (some ⟨rl, 0, none⟩) (2) (3)) (w' := w7') ?_ ⟨_, rfl, _, by rw [toL hlt]; exact bja_pure J 40 hno (by decide) no0 no0 (Fr.refl _)⟩
     rw [e39]
     kernel_rfl
    ·
     have h37 := after_one hi rfl 37 (by decide)
     have e37 : A.eval (.tmp 131) = .bool true := (HA 37 131 rfl (by show 131 < 210; decide) h37).trans (J.vl 37 (show 37 ∉ ([] : List Nat) from by decide) h37)
     have h38 := after_one hi rfl 38 (by decide)
     have e38 : A.eval (.tmp 132) = .slice (da) (2) (dc) := (HA 38 132 rfl (by show 132 < 210; decide) h38).trans (J.vl 38 (show 38 ∉ ([] : List Nat) from by decide) h38)
     have h40 := after_one hi rfl 40 (by decide)
     have e40 : A.eval (.tmp 134) = .slice (some ⟨rl, 0, none⟩) (2) (3) := (HA 40 134 rfl (by show 134 < 210; decide) h40).trans (J.vl 40 (show 40 ∉ ([] : List Nat) from by decide) h40)
     refine wpOp_gcall rfl (wanted_of rfl rfl e37) (args := #[.slice (da) (2) (dc), .slice (some ⟨rl, 0, none⟩) (2) (3)]) (by first | rfl | (simp only [List.map_toArray, List.map_cons, List.map_nil, e38, e40]; done) | (simp only [List.map_toArray, List.map_cons, List.map_nil, e38, e40]; rfl)) (by kernel_rfl) (sameRows_eq _ _ [BJ.ra, BJ.rb] w7' (HD.out.fr J.fr) ((isRR_front HLs.out 2 (by decide)).fr J.fr) (by decide) (BJ.lenA (by rfl))) ?_
     rintro e w2 ⟨rfl, f2⟩
     exact ⟨_, rfl, _, rfl, _, by rw [toL hlt]; exact bja_pure J 41 hno (by decide) no0 no0 f2⟩
    ·
     have h37 := after_one hi rfl 37 (by decide)
     have e37 : A.eval (.tmp 131) = .bool true := (HA 37 131 rfl (by show 131 < 210; decide) h37).trans (J.vl 37 (show 37 ∉ ([] : List Nat) from by decide) h37)
     have h41 := after_one hi rfl 41 (by decide)
     have e41 : A.eval (.tmp 135) = .bool true := (HA 41 135 rfl (by show 135 < 210; decide) h41).trans (J.vl 41 (show 41 ∉ ([] : List Nat) from by decide) h41)
     exact wpOp_gval rfl (wanted_none rfl) (x := .bool true) (w' := w7') (exec_pick e37 e41) ⟨_, rfl, _, by rw [toL hlt]; exact bja_pure J 42 hno (by decide) no0 no0 (Fr.refl _)⟩
    ·
     have h42 := after_one hi rfl 42 (by decide)
     have e42 : A.eval (.tmp 136) = .bool true := (HA 42 136 rfl (by show 136 < 210; decide) h42).trans (J.vl 42 (show 42 ∉ ([] : List Nat) from by decide) h42)
     exact wpOp_gval rfl (wanted_none rfl) (x := .bool true) (w' := w7') (exec_mv e42) ⟨_, rfl, _, by rw [toL hlt]; exact bja_pure J 43 hno (by decide) no0 no0 (Fr.refl _)⟩
    ·
     have h43 := after_one hi rfl 43 (by decide)
     have e43 : A.eval (.tmp 137) = .bool true := (HA 43 137 rfl (by show 137 < 210; decide) h43).trans (J.vl 43 (show 43 ∉ ([] : List Nat) from by decide) h43)
     have t10 : A.eval (.tmp 10) = .int .i64 (0) := HO 10 (by decide)
     exact wpOp_gval rfl (wanted_of rfl rfl e43) (x := .int .i64 (0)) (w' := w7') (exec_mv t10) ⟨_, rfl, _, by rw [toL hlt]; exact bja_pure J 44 hno (by decide) no0 no0 (Fr.refl _)⟩
    ·
     have h43 := after_one hi rfl 43 (by decide)
     have e43 : A.eval (.tmp 137) = .bool true := (HA 43 137 rfl (by show 137 < 210; decide) h43).trans (J.vl 43 (show 43 ∉ ([] : List Nat) from by decide) h43)
     have h44 := after_one hi rfl 44 (by decide)
     have e44 : A.eval (.tmp 138) = .int .i64 (0) := (HA 44 138 rfl (by show 138 < 210; decide) h44).trans (J.vl 44 (show 44 ∉ ([] : List Nat) from by decide) h44)
     refine wpOp_gis (do eqGuard .eql 24 (.tmp 138) (.const (.int .i64 (0))) (A.eval (.tmp 138)) (.int .i64 (0)); binOp .eql 24 (A.eval (.tmp 138)) (.int .i64 (0))) rfl (wanted_of rfl rfl e43) rfl (y := .bool true) (w' := w7') ?_ ⟨_, rfl, _, by rw [toL hlt]; exact bja_pure J 45 hno (by decide) no0 no0 (Fr.refl _)⟩
     rw [e44]
     kernel_rfl
    ·
     have h43 := after_one hi rfl 43 (by decide)
     have e43 : A.eval (.tmp 137) = .bool true := (HA 43 137 rfl (by show 137 < 210; decide) h43).trans (J.vl 43 (show 43 ∉ ([] : List Nat) from by decide) h43)
     have h45 := after_one hi rfl 45 (by decide)
     have e45 : A.eval (.tmp 139) = .bool true := (HA 45 139 rfl (by show 139 < 210; decide) h45).trans (J.vl 45 (show 45 ∉ ([] : List Nat) from by decide) h45)
     exact wpOp_gval rfl (wanted_none rfl) (x := .bool true) (w' := w7') (exec_pick e43 e45) ⟨_, rfl, _, by rw [toL hlt]; exact bja_pure J 46 hno (by decide) no0 no0 (Fr.refl _)⟩
    ·
     have h46 := after_one hi rfl 46 (by decide)
     have e46 : A.eval (.tmp 140) = .bool true := (HA 46 140 rfl (by show 140 < 210; decide) h46).trans (J.vl 46 (show 46 ∉ ([] : List Nat) from by decide) h46)
     exact wpOp_gval rfl (wanted_none rfl) (x := .bool true) (w' := w7') (exec_mv e46) ⟨_, rfl, _, by rw [toL hlt]; exact bja_pure J 47 hno (by decide) no0 no0 (Fr.refl _)⟩
    ·
     have h47 := after_one hi rfl 47 (by decide)
     have e47 : A.eval (.tmp 141) = .bool true := (HA 47 141 rfl (by show 141 < 210; decide) h47).trans (J.vl 47 (show 47 ∉ ([] : List Nat) from by decide) h47)
     have t9 : A.eval (.tmp 9) = .slice (pa) (1) (pc) := HO 9 (by decide)
     exact wpOp_gval rfl (wanted_of rfl rfl e47) (x := .slice (pa) (1) (pc)) (w' := w7') (exec_mv t9) ⟨_, rfl, _, by rw [toL hlt]; exact bja_pure J 48 hno (by decide) no0 no0 (Fr.refl _)⟩
    ·
     have h47 := after_one hi rfl 47 (by decide)
     have e47 : A.eval (.tmp 141) = .bool true := (HA 47 141 rfl (by show 141 < 210; decide) h47).trans (J.vl 47 (show 47 ∉ ([] : List Nat) from by decide) h47)
     refine wpOp_gcall rfl (wanted_of rfl rfl e47) (args := #[.string (⟨#[98]⟩)]) (by first | rfl | (simp only [List.map_toArray, List.map_cons, List.map_nil]; done) | (simp only [List.map_toArray, List.map_cons, List.map_nil]; rfl)) (by kernel_rfl) (vText_any _ _) ?_
     rintro e w2 ⟨rfl, f2⟩
     exact ⟨_, rfl, _, rfl, _, by rw [toL hlt]; exact bja_pure J 49 hno (by decide) no0 no0 f2⟩
    ·
     have h47 := after_one hi rfl 47 (by decide)
     have e47 : A.eval (.tmp 141) = .bool true := (HA 47 141 rfl (by show 141 < 210; decide) h47).trans (J.vl 47 (show 47 ∉ ([] : List Nat) from by decide) h47)
     refine wpOp_gcall rfl (wanted_of rfl rfl e47) (args := #[.int .i64 (5)]) (by first | rfl | (simp only [List.map_toArray, List.map_cons, List.map_nil]; done) | (simp only [List.map_toArray, List.map_cons, List.map_nil]; rfl)) (by kernel_rfl) (vInt_any _ _) ?_
     rintro e w2 ⟨rfl, f2⟩
     exact ⟨_, rfl, _, rfl, _, by rw [toL hlt]; exact bja_pure J 50 hno (by decide) no0 no0 f2⟩
    ·
     have h47 := after_one hi rfl 47 (by decide)
     have e47 : A.eval (.tmp 141) = .bool true := (HA 47 141 rfl (by show 141 < 210; decide) h47).trans (J.vl 47 (show 47 ∉ ([] : List Nat) from by decide) h47)
     refine wpOp_gcall rfl (wanted_of rfl rfl e47) (args := #[.int .i64 (3)]) (by first | rfl | (simp only [List.map_toArray, List.map_cons, List.map_nil]; done) | (simp only [List.map_toArray, List.map_cons, List.map_nil]; rfl)) (by kernel_rfl) (vInt_any _ _) ?_
     rintro e w2 ⟨rfl, f2⟩
     exact ⟨_, rfl, _, rfl, _, by rw [toL hlt]; exact bja_pure J 51 hno (by decide) no0 no0 f2⟩
    ·
     have h47 := after_one hi rfl 47 (by decide)
     have e47 : A.eval (.tmp 141) = .bool true := (HA 47 141 rfl (by show 141 < 210; decide) h47).trans (J.vl 47 (show 47 ∉ ([] : List Nat) from by decide) h47)
     have h49 := after_one hi rfl 49 (by decide)
     have e49 : A.eval (.tmp 143) = .agg #[.int .i64 (2), .int .i64 (0), .string (⟨#[98]⟩)] := (HA 49 143 rfl (by show 143 < 210; decide) h49).trans (J.vl 49 (show 49 ∉ ([] : List Nat) from by decide) h49)
     have h50 := after_one hi rfl 50 (by decide)
     have e50 : A.eval (.tmp 144) = .agg #[.int .i64 (1), .int .i64 (5), .string (⟨#[]⟩)] := (HA 50 144 rfl (by show 144 < 210; decide) h50).trans (J.vl 50 (show 50 ∉ ([] : List Nat) from by decide) h50)
     have h51 := after_one hi rfl 51 (by decide)
     have e51 : A.eval (.tmp 145) = .agg #[.int .i64 (1), .int .i64 (3), .string (⟨#[]⟩)] := (HA 51 145 rfl (by show 145 < 210; decide) h51).trans (J.vl 51 (show 51 ∉ ([] : List Nat) from by decide) h51)
     refine wpOp_gis (Instr.buildSlice 31 3 (#[(0, Operand.tmp 143), (1, Operand.tmp 144), (2, Operand.tmp 145)].map fun (i, x) => (i, A.eval x))) rfl (wanted_of rfl rfl e47) rfl (y := .slice (some ⟨w7'.heap.size, 0, none⟩) 3 3) (w' := w7'.alloc (.cells #[.int .i64 (2), .int .i64 (0), .string (⟨#[98]⟩), .int .i64 (1), .int .i64 (5), .string (⟨#[]⟩), .int .i64 (1), .int .i64 (3), .string (⟨#[]⟩)] 56)) ?_ ⟨_, rfl, _, by rw [toL hlt]; exact J.new 52 (show 52 ∈ ([10, 29, 52, 54, 66, 68, 111] : List Nat) from by decide) (show 52 ∉ ([] : List Nat) from by decide) hno rfl no0 (bja_st rl gc r0 r1 r2 uc sc dc pc jc nb no nc qb qo qc mc ua sa da pa ja ma) (by intro k hk hne hkL; change k ∈ ([10, 29, 52, 54, 66, 68, 111] : List Nat) at hk; simp only [List.mem_cons, List.not_mem_nil, or_false] at hk; rcases hk with rfl | rfl | rfl | rfl | rfl | rfl | rfl <;> first | rfl | exact absurd rfl hne) rfl⟩
     simp only [List.map_toArray, List.map_cons, List.map_nil, e49, e50, e51]
     kernel_rfl
    ·
     have h47 := after_one hi rfl 47 (by decide)
     have e47 : A.eval (.tmp 141) = .bool true := (HA 47 141 rfl (by show 141 < 210; decide) h47).trans (J.vl 47 (show 47 ∉ ([] : List Nat) from by decide) h47)
     have h52 := after_one hi rfl 52 (by decide)
     have e52 : A.eval (.tmp 146) = .slice (some ⟨(Gf 52), 0, none⟩) (3) (3) := (HA 52 146 rfl (by show 146 < 210; decide) h52).trans (J.vl 52 (show 52 ∉ ([] : List Nat) from by decide) h52)
     refine wpOp_gcall rfl (wanted_of rfl rfl e47) (args := #[.slice (some ⟨(Gf 52), 0, none⟩) (3) (3)]) (by first | rfl | (simp only [List.map_toArray, List.map_cons, List.map_nil, e52]; done) | (simp only [List.map_toArray, List.map_cons, List.map_nil, e52]; rfl)) (by kernel_rfl) (rowOf_any _ _ _ _) ?_
     rintro e w2 ⟨rfl, rfl⟩
     exact ⟨_, rfl, _, rfl, _, by rw [toL hlt]; exact bja_pure J 53 hno (by decide) (no1 h52) no0 (Fr.refl _)⟩
    ·
     have h47 := after_one hi rfl 47 (by decide)
     have e47 : A.eval (.tmp 141) = .bool true := (HA 47 141 rfl (by show 141 < 210; decide) h47).trans (J.vl 47 (show 47 ∉ ([] : List Nat) from by decide) h47)
     have h53 := after_one hi rfl 53 (by decide)
     have e53 : A.eval (.tmp 147) = v 53 := HA 53 147 rfl (by show 147 < 210; decide) h53
     refine wpOp_gis (Instr.buildSlice 22 1 (#[(0, Operand.tmp 147)].map fun (i, x) => (i, A.eval x))) rfl (wanted_of rfl rfl e47) rfl (y := .slice (some ⟨w7'.heap.size, 0, none⟩) 1 1) (w' := w7'.alloc (.cells #[(v 53)] 31)) ?_ ⟨_, rfl, _, by rw [toL hlt]; exact J.new 54 (show 54 ∈ ([10, 29, 52, 54, 66, 68, 111] : List Nat) from by decide) (show 54 ∉ ([] : List Nat) from by decide) hno rfl (no1 h53) (bja_st rl gc r0 r1 r2 uc sc dc pc jc nb no nc qb qo qc mc ua sa da pa ja ma) (by intro k hk hne hkL; change k ∈ ([10, 29, 52, 54, 66, 68, 111] : List Nat) at hk; simp only [List.mem_cons, List.not_mem_nil, or_false] at hk; rcases hk with rfl | rfl | rfl | rfl | rfl | rfl | rfl <;> first | rfl | exact absurd rfl hne) rfl⟩
     simp only [List.map_toArray, List.map_cons, List.map_nil, e53]
     rw [show v 53 = .slice (some ⟨(Gf 52), 0, none⟩) (3) (3) from J.vl 53 (show 53 ∉ ([] : List Nat) from by decide) h53]
     kernel_rfl
    ·
     have h47 := after_one hi rfl 47 (by decide)
     have e47 : A.eval (.tmp 141) = .bool true := (HA 47 141 rfl (by show 141 < 210; decide) h47).trans (J.vl 47 (show 47 ∉ ([] : List Nat) from by decide) h47)
     have h54 := after_one hi rfl 54 (by decide)
     have e54 : A.eval (.tmp 148) = .slice (some ⟨(Gf 54), 0, none⟩) (1) (1) := (HA 54 148 rfl (by show 148 < 210; decide) h54).trans (J.vl 54 (show 54 ∉ ([] : List Nat) from by decide) h54)
     refine wpOp_gcall rfl (wanted_of rfl rfl e47) (args := #[.slice (some ⟨(Gf 54), 0, none⟩) (1) (1)]) (by first | rfl | (simp only [List.map_toArray, List.map_cons, List.map_nil, e54]; done) | (simp only [List.map_toArray, List.map_cons, List.map_nil, e54]; rfl)) (by kernel_rfl) (rowsOf_any _ _ _ _) ?_
     rintro e w2 ⟨rfl, rfl⟩
     exact ⟨_, rfl, _, rfl, _, by rw [toL hlt]; exact bja_pure J 55 hno (by decide) (no1 h54) no0 (Fr.refl _)⟩
    ·
     have h47 := after_one hi rfl 47 (by decide)
     have e47 : A.eval (.tmp 141) = .bool true := (HA 47 141 rfl (by show 141 < 210; decide) h47).trans (J.vl 47 (show 47 ∉ ([] : List Nat) from by decide) h47)
     have h48 := after_one hi rfl 48 (by decide)
     have e48 : A.eval (.tmp 142) = .slice (pa) (1) (pc) := (HA 48 142 rfl (by show 142 < 210; decide) h48).trans (J.vl 48 (show 48 ∉ ([] : List Nat) from by decide) h48)
     have h55 := after_one hi rfl 55 (by decide)
     have e55 : A.eval (.tmp 149) = .slice (some ⟨(Gf 54), 0, none⟩) (1) (1) := (HA 55 149 rfl (by show 149 < 210; decide) h55).trans (J.vl 55 (show 55 ∉ ([] : List Nat) from by decide) h55)
     have h54 := J.dp 55 h55 54 (show 54 ∈ ([54] : List Nat) from by decide)
     have h53 := J.dw 54 h54 53 (show 53 ∈ ([53] : List Nat) from by decide)
     have h52 := J.dp 53 h53 52 (show 52 ∈ ([52] : List Nat) from by decide)
     have q53 : v 53 = .slice (some ⟨Gf 52, 0, none⟩) 3 3 := J.vl 53 (show 53 ∉ ([] : List Nat) from by decide) h53
     have b54 : Blk w7' (Gf 54) #[v 53] 31 := (J.bk 54 (show 54 ∈ ([10, 29, 52, 54, 66, 68, 111] : List Nat) from by decide) h54).2
     have b52 : Blk w7' (Gf 52) (flat cdV [BJ.tb, BJ.vi 5, BJ.vi 3]).toArray 56 := (J.bk 52 (show 52 ∈ ([10, 29, 52, 54, 66, 68, 111] : List Nat) from by decide) h52).2
     rw [q53] at b54
     refine wpOp_gcall rfl (wanted_of rfl rfl e47) (args := #[.slice (pa) (1) (pc), .slice (some ⟨(Gf 54), 0, none⟩) (1) (1)]) (by first | rfl | (simp only [List.map_toArray, List.map_cons, List.map_nil, e48, e55]; done) | (simp only [List.map_toArray, List.map_cons, List.map_nil, e48, e55]; rfl)) (by kernel_rfl) (sameRows_eq _ _ [[BJ.tb, BJ.vi 5, BJ.vi 3]] w7' (HG.out.fr J.fr) (isRR_one (a := ⟨some ⟨Gf 52, 0, none⟩, 3, 3⟩) b54 (isL_blkV [BJ.tb, BJ.vi 5, BJ.vi 3] b52)) (by decide) (BJ.lenA (by rfl))) ?_
     rintro e w2 ⟨rfl, f2⟩
     exact ⟨_, rfl, _, rfl, _, by rw [toL hlt]; exact bja_pure J 56 hno (by decide) no0 no0 f2⟩
    ·
     have h47 := after_one hi rfl 47 (by decide)
     have e47 : A.eval (.tmp 141) = .bool true := (HA 47 141 rfl (by show 141 < 210; decide) h47).trans (J.vl 47 (show 47 ∉ ([] : List Nat) from by decide) h47)
     have h56 := after_one hi rfl 56 (by decide)
     have e56 : A.eval (.tmp 150) = .bool true := (HA 56 150 rfl (by show 150 < 210; decide) h56).trans (J.vl 56 (show 56 ∉ ([] : List Nat) from by decide) h56)
     exact wpOp_gval rfl (wanted_none rfl) (x := .bool true) (w' := w7') (exec_pick e47 e56) ⟨_, rfl, _, by rw [toL hlt]; exact bja_pure J 57 hno (by decide) no0 no0 (Fr.refl _)⟩
    ·
     have h57 := after_one hi rfl 57 (by decide)
     have e57 : A.eval (.tmp 151) = .bool true := (HA 57 151 rfl (by show 151 < 210; decide) h57).trans (J.vl 57 (show 57 ∉ ([] : List Nat) from by decide) h57)
     exact wpOp_gval rfl (wanted_none rfl) (x := .bool true) (w' := w7') (exec_mv e57) ⟨_, rfl, _, by rw [toL hlt]; exact bja_pure J 58 hno (by decide) no0 no0 (Fr.refl _)⟩
    ·
     have h58 := after_one hi rfl 58 (by decide)
     have e58 : A.eval (.tmp 152) = .bool true := (HA 58 152 rfl (by show 152 < 210; decide) h58).trans (J.vl 58 (show 58 ∉ ([] : List Nat) from by decide) h58)
     have t12 : A.eval (.tmp 12) = .int .i64 (0) := HO 12 (by decide)
     exact wpOp_gval rfl (wanted_of rfl rfl e58) (x := .int .i64 (0)) (w' := w7') (exec_mv t12) ⟨_, rfl, _, by rw [toL hlt]; exact bja_pure J 59 hno (by decide) no0 no0 (Fr.refl _)⟩
    ·
     have h58 := after_one hi rfl 58 (by decide)
     have e58 : A.eval (.tmp 152) = .bool true := (HA 58 152 rfl (by show 152 < 210; decide) h58).trans (J.vl 58 (show 58 ∉ ([] : List Nat) from by decide) h58)
     have h59 := after_one hi rfl 59 (by decide)
     have e59 : A.eval (.tmp 153) = .int .i64 (0) := (HA 59 153 rfl (by show 153 < 210; decide) h59).trans (J.vl 59 (show 59 ∉ ([] : List Nat) from by decide) h59)
     refine wpOp_gis (do eqGuard .eql 24 (.tmp 153) (.const (.int .i64 (0))) (A.eval (.tmp 153)) (.int .i64 (0)); binOp .eql 24 (A.eval (.tmp 153)) (.int .i64 (0))) rfl (wanted_of rfl rfl e58) rfl (y := .bool true) (w' := w7') ?_ ⟨_, rfl, _, by rw [toL hlt]; exact bja_pure J 60 hno (by decide) no0 no0 (Fr.refl _)⟩
     rw [e59]
     kernel_rfl
    ·
     have h58 := after_one hi rfl 58 (by decide)
     have e58 : A.eval (.tmp 152) = .bool true := (HA 58 152 rfl (by show 152 < 210; decide) h58).trans (J.vl 58 (show 58 ∉ ([] : List Nat) from by decide) h58)
     have h60 := after_one hi rfl 60 (by decide)
     have e60 : A.eval (.tmp 154) = .bool true := (HA 60 154 rfl (by show 154 < 210; decide) h60).trans (J.vl 60 (show 60 ∉ ([] : List Nat) from by decide) h60)
     exact wpOp_gval rfl (wanted_none rfl) (x := .bool true) (w' := w7') (exec_pick e58 e60) ⟨_, rfl, _, by rw [toL hlt]; exact bja_pure J 61 hno (by decide) no0 no0 (Fr.refl _)⟩
    ·
     have h61 := after_one hi rfl 61 (by decide)
     have e61 : A.eval (.tmp 155) = .bool true := (HA 61 155 rfl (by show 155 < 210; decide) h61).trans (J.vl 61 (show 61 ∉ ([] : List Nat) from by decide) h61)
     exact wpOp_gval rfl (wanted_none rfl) (x := .bool true) (w' := w7') (exec_mv e61) ⟨_, rfl, _, by rw [toL hlt]; exact bja_pure J 62 hno (by decide) no0 no0 (Fr.refl _)⟩
    ·
     have h62 := after_one hi rfl 62 (by decide)
     have e62 : A.eval (.tmp 156) = .bool true := (HA 62 156 rfl (by show 156 < 210; decide) h62).trans (J.vl 62 (show 62 ∉ ([] : List Nat) from by decide) h62)
     have t11 : A.eval (.tmp 11) = .slice (ja) (1) (jc) := HO 11 (by decide)
     exact wpOp_gval rfl (wanted_of rfl rfl e62) (x := .slice (ja) (1) (jc)) (w' := w7') (exec_mv t11) ⟨_, rfl, _, by rw [toL hlt]; exact bja_pure J 63 hno (by decide) no0 no0 (Fr.refl _)⟩
    ·
     have h62 := after_one hi rfl 62 (by decide)
     have e62 : A.eval (.tmp 156) = .bool true := (HA 62 156 rfl (by show 156 < 210; decide) h62).trans (J.vl 62 (show 62 ∉ ([] : List Nat) from by decide) h62)
     refine wpOp_gcall rfl (wanted_of rfl rfl e62) (args := #[.string (⟨#[98]⟩)]) (by first | rfl | (simp only [List.map_toArray, List.map_cons, List.map_nil]; done) | (simp only [List.map_toArray, List.map_cons, List.map_nil]; rfl)) (by kernel_rfl) (vText_any _ _) ?_
     rintro e w2 ⟨rfl, f2⟩
     exact ⟨_, rfl, _, rfl, _, by rw [toL hlt]; exact bja_pure J 64 hno (by decide) no0 no0 f2⟩
    ·
     have h62 := after_one hi rfl 62 (by decide)
     have e62 : A.eval (.tmp 156) = .bool true := (HA 62 156 rfl (by show 156 < 210; decide) h62).trans (J.vl 62 (show 62 ∉ ([] : List Nat) from by decide) h62)
     refine wpOp_gcall rfl (wanted_of rfl rfl e62) (args := #[.int .i64 (-2)]) (by first | rfl | (simp only [List.map_toArray, List.map_cons, List.map_nil]; done) | (simp only [List.map_toArray, List.map_cons, List.map_nil]; rfl)) (by kernel_rfl) (vInt_any _ _) ?_
     rintro e w2 ⟨rfl, f2⟩
     exact ⟨_, rfl, _, rfl, _, by rw [toL hlt]; exact bja_pure J 65 hno (by decide) no0 no0 f2⟩
    ·
     have h62 := after_one hi rfl 62 (by decide)
     have e62 : A.eval (.tmp 156) = .bool true := (HA 62 156 rfl (by show 156 < 210; decide) h62).trans (J.vl 62 (show 62 ∉ ([] : List Nat) from by decide) h62)
     have h64 := after_one hi rfl 64 (by decide)
     have e64 : A.eval (.tmp 158) = .agg #[.int .i64 (2), .int .i64 (0), .string (⟨#[98]⟩)] := (HA 64 158 rfl (by show 158 < 210; decide) h64).trans (J.vl 64 (show 64 ∉ ([] : List Nat) from by decide) h64)
     have h65 := after_one hi rfl 65 (by decide)
     have e65 : A.eval (.tmp 159) = .agg #[.int .i64 (1), .int .i64 (-2), .string (⟨#[]⟩)] := (HA 65 159 rfl (by show 159 < 210; decide) h65).trans (J.vl 65 (show 65 ∉ ([] : List Nat) from by decide) h65)
     refine wpOp_gis (Instr.buildSlice 31 2 (#[(0, Operand.tmp 158), (1, Operand.tmp 159)].map fun (i, x) => (i, A.eval x))) rfl (wanted_of rfl rfl e62) rfl (y := .slice (some ⟨w7'.heap.size, 0, none⟩) 2 2) (w' := w7'.alloc (.cells #[.int .i64 (2), .int .i64 (0), .string (⟨#[98]⟩), .int .i64 (1), .int .i64 (-2), .string (⟨#[]⟩)] 56)) ?_ ⟨_, rfl, _, by rw [toL hlt]; exact J.new 66 (show 66 ∈ ([10, 29, 52, 54, 66, 68, 111] : List Nat) from by decide) (show 66 ∉ ([] : List Nat) from by decide) hno rfl no0 (bja_st rl gc r0 r1 r2 uc sc dc pc jc nb no nc qb qo qc mc ua sa da pa ja ma) (by intro k hk hne hkL; change k ∈ ([10, 29, 52, 54, 66, 68, 111] : List Nat) at hk; simp only [List.mem_cons, List.not_mem_nil, or_false] at hk; rcases hk with rfl | rfl | rfl | rfl | rfl | rfl | rfl <;> first | rfl | exact absurd rfl hne) rfl⟩
     simp only [List.map_toArray, List.map_cons, List.map_nil, e64, e65]
     kernel_rfl
    ·
     have h62 := after_one hi rfl 62 (by decide)
     have e62 : A.eval (.tmp 156) = .bool true := (HA 62 156 rfl (by show 156 < 210; decide) h62).trans (J.vl 62 (show 62 ∉ ([] : List Nat) from by decide) h62)
     have h66 := after_one hi rfl 66 (by decide)
     have e66 : A.eval (.tmp 160) = .slice (some ⟨(Gf 66), 0, none⟩) (2) (2) := (HA 66 160 rfl (by show 160 < 210; decide) h66).trans (J.vl 66 (show 66 ∉ ([] : List Nat) from by decide) h66)
     refine wpOp_gcall rfl (wanted_of rfl rfl e62) (args := #[.slice (some ⟨(Gf 66), 0, none⟩) (2) (2)]) (by first | rfl | (simp only [List.map_toArray, List.map_cons, List.map_nil, e66]; done) | (simp only [List.map_toArray, List.map_cons, List.map_nil, e66]; rfl)) (by kernel_rfl) (rowOf_any _ _ _ _) ?_
     rintro e w2 ⟨rfl, rfl⟩
     exact ⟨_, rfl, _, rfl, _, by rw [toL hlt]; exact bja_pure J 67 hno (by decide) (no1 h66) no0 (Fr.refl _)⟩
    ·
     have h62 := after_one hi rfl 62 (by decide)
     have e62 : A.eval (.tmp 156) = .bool true := (HA 62 156 rfl (by show 156 < 210; decide) h62).trans (J.vl 62 (show 62 ∉ ([] : List Nat) from by decide) h62)
     have h67 := after_one hi rfl 67 (by decide)
     have e67 : A.eval (.tmp 161) = v 67 := HA 67 161 rfl (by show 161 < 210; decide) h67
     refine wpOp_gis (Instr.buildSlice 22 1 (#[(0, Operand.tmp 161)].map fun (i, x) => (i, A.eval x))) rfl (wanted_of rfl rfl e62) rfl (y := .slice (some ⟨w7'.heap.size, 0, none⟩) 1 1) (w' := w7'.alloc (.cells #[(v 67)] 31)) ?_ ⟨_, rfl, _, by rw [toL hlt]; exact J.new 68 (show 68 ∈ ([10, 29, 52, 54, 66, 68, 111] : List Nat) from by decide) (show 68 ∉ ([] : List Nat) from by decide) hno rfl (no1 h67) (bja_st rl gc r0 r1 r2 uc sc dc pc jc nb no nc qb qo qc mc ua sa da pa ja ma) (by intro k hk hne hkL; change k ∈ ([10, 29, 52, 54, 66, 68, 111] : List Nat) at hk; simp only [List.mem_cons, List.not_mem_nil, or_false] at hk; rcases hk with rfl | rfl | rfl | rfl | rfl | rfl | rfl <;> first | rfl | exact absurd rfl hne) rfl⟩
     simp only [List.map_toArray, List.map_cons, List.map_nil, e67]
     rw [show v 67 = .slice (some ⟨(Gf 66), 0, none⟩) (2) (2) from J.vl 67 (show 67 ∉ ([] : List Nat) from by decide) h67]
     kernel_rfl
    ·
     have h62 := after_one hi rfl 62 (by decide)
     have e62 : A.eval (.tmp 156) = .bool true := (HA 62 156 rfl (by show 156 < 210; decide) h62).trans (J.vl 62 (show 62 ∉ ([] : List Nat) from by decide) h62)
     have h68 := after_one hi rfl 68 (by decide)
     have e68 : A.eval (.tmp 162) = .slice (some ⟨(Gf 68), 0, none⟩) (1) (1) := (HA 68 162 rfl (by show 162 < 210; decide) h68).trans (J.vl 68 (show 68 ∉ ([] : List Nat) from by decide) h68)
     refine wpOp_gcall rfl (wanted_of rfl rfl e62) (args := #[.slice (some ⟨(Gf 68), 0, none⟩) (1) (1)]) (by first | rfl | (simp only [List.map_toArray, List.map_cons, List.map_nil, e68]; done) | (simp only [List.map_toArray, List.map_cons, List.map_nil, e68]; rfl)) (by kernel_rfl) (rowsOf_any _ _ _ _) ?_
     rintro e w2 ⟨rfl, rfl⟩
     exact ⟨_, rfl, _, rfl, _, by rw [toL hlt]; exact bja_pure J 69 hno (by decide) (no1 h68) no0 (Fr.refl _)⟩
    ·
     have h62 := after_one hi rfl 62 (by decide)
     have e62 : A.eval (.tmp 156) = .bool true := (HA 62 156 rfl (by show 156 < 210; decide) h62).trans (J.vl 62 (show 62 ∉ ([] : List Nat) from by decide) h62)
     have h63 := after_one hi rfl 63 (by decide)
     have e63 : A.eval (.tmp 157) = .slice (ja) (1) (jc) := (HA 63 157 rfl (by show 157 < 210; decide) h63).trans (J.vl 63 (show 63 ∉ ([] : List Nat) from by decide) h63)
     have h69 := after_one hi rfl 69 (by decide)
     have e69 : A.eval (.tmp 163) = .slice (some ⟨(Gf 68), 0, none⟩) (1) (1) := (HA 69 163 rfl (by show 163 < 210; decide) h69).trans (J.vl 69 (show 69 ∉ ([] : List Nat) from by decide) h69)
     have h68 := J.dp 69 h69 68 (show 68 ∈ ([68] : List Nat) from by decide)
     have h67 := J.dw 68 h68 67 (show 67 ∈ ([67] : List Nat) from by decide)
     have h66 := J.dp 67 h67 66 (show 66 ∈ ([66] : List Nat) from by decide)
     have q67 : v 67 = .slice (some ⟨Gf 66, 0, none⟩) 2 2 := J.vl 67 (show 67 ∉ ([] : List Nat) from by decide) h67
     have b68 : Blk w7' (Gf 68) #[v 67] 31 := (J.bk 68 (show 68 ∈ ([10, 29, 52, 54, 66, 68, 111] : List Nat) from by decide) h68).2
     have b66 : Blk w7' (Gf 66) (flat cdV [BJ.tb, BJ.vi (-2)]).toArray 56 := (J.bk 66 (show 66 ∈ ([10, 29, 52, 54, 66, 68, 111] : List Nat) from by decide) h66).2
     rw [q67] at b68
     refine wpOp_gcall rfl (wanted_of rfl rfl e62) (args := #[.slice (ja) (1) (jc), .slice (some ⟨(Gf 68), 0, none⟩) (1) (1)]) (by first | rfl | (simp only [List.map_toArray, List.map_cons, List.map_nil, e63, e69]; done) | (simp only [List.map_toArray, List.map_cons, List.map_nil, e63, e69]; rfl)) (by kernel_rfl) (sameRows_eq _ _ [[BJ.tb, BJ.vi (-2)]] w7' (HP.out.fr J.fr) (isRR_one (a := ⟨some ⟨Gf 66, 0, none⟩, 2, 2⟩) b68 (isL_blkV [BJ.tb, BJ.vi (-2)] b66)) (by decide) (BJ.lenA (by rfl))) ?_
     rintro e w2 ⟨rfl, f2⟩
     exact ⟨_, rfl, _, rfl, _, by rw [toL hlt]; exact bja_pure J 70 hno (by decide) no0 no0 f2⟩
    ·
     have h62 := after_one hi rfl 62 (by decide)
     have e62 : A.eval (.tmp 156) = .bool true := (HA 62 156 rfl (by show 156 < 210; decide) h62).trans (J.vl 62 (show 62 ∉ ([] : List Nat) from by decide) h62)
     have h70 := after_one hi rfl 70 (by decide)
     have e70 : A.eval (.tmp 164) = .bool true := (HA 70 164 rfl (by show 164 < 210; decide) h70).trans (J.vl 70 (show 70 ∉ ([] : List Nat) from by decide) h70)
     exact wpOp_gval rfl (wanted_none rfl) (x := .bool true) (w' := w7') (exec_pick e62 e70) ⟨_, rfl, _, by rw [toL hlt]; exact bja_pure J 71 hno (by decide) no0 no0 (Fr.refl _)⟩
    ·
     have h71 := after_one hi rfl 71 (by decide)
     have e71 : A.eval (.tmp 165) = .bool true := (HA 71 165 rfl (by show 165 < 210; decide) h71).trans (J.vl 71 (show 71 ∉ ([] : List Nat) from by decide) h71)
     exact wpOp_gval rfl (wanted_none rfl) (x := .bool true) (w' := w7') (exec_mv e71) ⟨_, rfl, _, by rw [toL hlt]; exact bja_pure J 72 hno (by decide) no0 no0 (Fr.refl _)⟩
    ·
     have h72 := after_one hi rfl 72 (by decide)
     have e72 : A.eval (.tmp 166) = .bool true := (HA 72 166 rfl (by show 166 < 210; decide) h72).trans (J.vl 72 (show 72 ∉ ([] : List Nat) from by decide) h72)
     have t14 : A.eval (.tmp 14) = .int .i64 (0) := HO 14 (by decide)
     exact wpOp_gval rfl (wanted_of rfl rfl e72) (x := .int .i64 (0)) (w' := w7') (exec_mv t14) ⟨_, rfl, _, by rw [toL hlt]; exact bja_pure J 73 hno (by decide) no0 no0 (Fr.refl _)⟩
    ·
     have h72 := after_one hi rfl 72 (by decide)
     have e72 : A.eval (.tmp 166) = .bool true := (HA 72 166 rfl (by show 166 < 210; decide) h72).trans (J.vl 72 (show 72 ∉ ([] : List Nat) from by decide) h72)
     have h73 := after_one hi rfl 73 (by decide)
     have e73 : A.eval (.tmp 167) = .int .i64 (0) := (HA 73 167 rfl (by show 167 < 210; decide) h73).trans (J.vl 73 (show 73 ∉ ([] : List Nat) from by decide) h73)
     refine wpOp_gis (do eqGuard .eql 24 (.tmp 167) (.const (.int .i64 (0))) (A.eval (.tmp 167)) (.int .i64 (0)); binOp .eql 24 (A.eval (.tmp 167)) (.int .i64 (0))) rfl (wanted_of rfl rfl e72) rfl (y := .bool true) (w' := w7') ?_ ⟨_, rfl, _, by rw [toL hlt]; exact bja_pure J 74 hno (by decide) no0 no0 (Fr.refl _)⟩
     rw [e73]
     kernel_rfl
    ·
     have h72 := after_one hi rfl 72 (by decide)
     have e72 : A.eval (.tmp 166) = .bool true := (HA 72 166 rfl (by show 166 < 210; decide) h72).trans (J.vl 72 (show 72 ∉ ([] : List Nat) from by decide) h72)
     have h74 := after_one hi rfl 74 (by decide)
     have e74 : A.eval (.tmp 168) = .bool true := (HA 74 168 rfl (by show 168 < 210; decide) h74).trans (J.vl 74 (show 74 ∉ ([] : List Nat) from by decide) h74)
     exact wpOp_gval rfl (wanted_none rfl) (x := .bool true) (w' := w7') (exec_pick e72 e74) ⟨_, rfl, _, by rw [toL hlt]; exact bja_pure J 75 hno (by decide) no0 no0 (Fr.refl _)⟩
    ·
     have h75 := after_one hi rfl 75 (by decide)
     have e75 : A.eval (.tmp 169) = .bool true := (HA 75 169 rfl (by show 169 < 210; decide) h75).trans (J.vl 75 (show 75 ∉ ([] : List Nat) from by decide) h75)
     exact wpOp_gval rfl (wanted_none rfl) (x := .bool true) (w' := w7') (exec_mv e75) ⟨_, rfl, _, by rw [toL hlt]; exact bja_pure J 76 hno (by decide) no0 no0 (Fr.refl _)⟩
    ·
     have h76 := after_one hi rfl 76 (by decide)
     have e76 : A.eval (.tmp 170) = .bool true := (HA 76 170 rfl (by show 170 < 210; decide) h76).trans (J.vl 76 (show 76 ∉ ([] : List Nat) from by decide) h76)
     have t13 : A.eval (.tmp 13) = .slice (some ⟨nb, no, none⟩) (2) (nc) := HO 13 (by decide)
     exact wpOp_gval rfl (wanted_of rfl rfl e76) (x := .slice (some ⟨nb, no, none⟩) (2) (nc)) (w' := w7') (exec_mv t13) ⟨_, rfl, _, by rw [toL hlt]; exact bja_pure J 77 hno (by decide) no0 no0 (Fr.refl _)⟩
    ·
     have h76 := after_one hi rfl 76 (by decide)
     have e76 : A.eval (.tmp 170) = .bool true := (HA 76 170 rfl (by show 170 < 210; decide) h76).trans (J.vl 76 (show 76 ∉ ([] : List Nat) from by decide) h76)
     have h77 := after_one hi rfl 77 (by decide)
     have e77 : A.eval (.tmp 171) = .slice (some ⟨nb, no, none⟩) (2) (nc) := (HA 77 171 rfl (by show 171 < 210; decide) h77).trans (J.vl 77 (show 77 ∉ ([] : List Nat) from by decide) h77)
     exact wpOp_gval rfl (wanted_of rfl rfl e76) (x := .int .i64 (2)) (w' := w7') (exec_len Tryz.underlying22 e77) ⟨_, rfl, _, by rw [toL hlt]; exact bja_pure J 78 hno (by decide) no0 no0 (Fr.refl _)⟩
    ·
     have h76 := after_one hi rfl 76 (by decide)
     have e76 : A.eval (.tmp 170) = .bool true := (HA 76 170 rfl (by show 170 < 210; decide) h76).trans (J.vl 76 (show 76 ∉ ([] : List Nat) from by decide) h76)
     have h78 := after_one hi rfl 78 (by decide)
     have e78 : A.eval (.tmp 172) = .int .i64 (2) := (HA 78 172 rfl (by show 172 < 210; decide) h78).trans (J.vl 78 (show 78 ∉ ([] : List Nat) from by decide) h78)
     refine wpOp_gis (do eqGuard .eql 3 (.tmp 172) (.const (.int .i64 (2))) (A.eval (.tmp 172)) (.int .i64 (2)); binOp .eql 3 (A.eval (.tmp 172)) (.int .i64 (2))) rfl (wanted_of rfl rfl e76) rfl (y := .bool true) (w' := w7') ?_ ⟨_, rfl, _, by rw [toL hlt]; exact bja_pure J 79 hno (by decide) no0 no0 (Fr.refl _)⟩
     rw [e78]
     kernel_rfl
    ·
     have h76 := after_one hi rfl 76 (by decide)
     have e76 : A.eval (.tmp 170) = .bool true := (HA 76 170 rfl (by show 170 < 210; decide) h76).trans (J.vl 76 (show 76 ∉ ([] : List Nat) from by decide) h76)
     have h79 := after_one hi rfl 79 (by decide)
     have e79 : A.eval (.tmp 173) = .bool true := (HA 79 173 rfl (by show 173 < 210; decide) h79).trans (J.vl 79 (show 79 ∉ ([] : List Nat) from by decide) h79)
     exact wpOp_gval rfl (wanted_none rfl) (x := .bool true) (w' := w7') (exec_pick e76 e79) ⟨_, rfl, _, by rw [toL hlt]; exact bja_pure J 80 hno (by decide) no0 no0 (Fr.refl _)⟩
    ·
     have h80 := after_one hi rfl 80 (by decide)
     have e80 : A.eval (.tmp 174) = .bool true := (HA 80 174 rfl (by show 174 < 210; decide) h80).trans (J.vl 80 (show 80 ∉ ([] : List Nat) from by decide) h80)
     exact wpOp_gval rfl (wanted_none rfl) (x := .bool true) (w' := w7') (exec_mv e80) ⟨_, rfl, _, by rw [toL hlt]; exact bja_pure J 81 hno (by decide) no0 no0 (Fr.refl _)⟩
    ·
     have h81 := after_one hi rfl 81 (by decide)
     have e81 : A.eval (.tmp 175) = .bool true := (HA 81 175 rfl (by show 175 < 210; decide) h81).trans (J.vl 81 (show 81 ∉ ([] : List Nat) from by decide) h81)
     have t13 : A.eval (.tmp 13) = .slice (some ⟨nb, no, none⟩) (2) (nc) := HO 13 (by decide)
     exact wpOp_gval rfl (wanted_of rfl rfl e81) (x := .slice (some ⟨nb, no, none⟩) (2) (nc)) (w' := w7') (exec_mv t13) ⟨_, rfl, _, by rw [toL hlt]; exact bja_pure J 82 hno (by decide) no0 no0 (Fr.refl _)⟩
    ·
     have h81 := after_one hi rfl 81 (by decide)
     have e81 : A.eval (.tmp 175) = .bool true := (HA 81 175 rfl (by show 175 < 210; decide) h81).trans (J.vl 81 (show 81 ∉ ([] : List Nat) from by decide) h81)
     have h82 := after_one hi rfl 82 (by decide)
     have e82 : A.eval (.tmp 176) = .slice (some ⟨nb, no, none⟩) (2) (nc) := (HA 82 176 rfl (by show 176 < 210; decide) h82).trans (J.vl 82 (show 82 ∉ ([] : List Nat) from by decide) h82)
     refine wpOp_gis (Instr.indexAt 22 (A.eval (.tmp 176)) (.int .i64 (1))) rfl (wanted_of rfl rfl e81) rfl (y := .pointer (some ⟨nb, no + 1, none⟩)) (w' := w7') ?_ ⟨_, rfl, _, by rw [toL hlt]; exact bja_pure J 83 hno (by decide) no0 no0 (Fr.refl _)⟩
     rw [e82]
     kernel_rfl
    ·
     have h81 := after_one hi rfl 81 (by decide)
     have e81 : A.eval (.tmp 175) = .bool true := (HA 81 175 rfl (by show 175 < 210; decide) h81).trans (J.vl 81 (show 81 ∉ ([] : List Nat) from by decide) h81)
     have h83 := after_one hi rfl 83 (by decide)
     have e83 : A.eval (.tmp 177) = .pointer (some ⟨nb, no + 1, none⟩) := (HA 83 177 rfl (by show 177 < 210; decide) h83).trans (J.vl 83 (show 83 ∉ ([] : List Nat) from by decide) h83)
     refine wpOp_gis (Instr.loadAt 31 (A.eval (.tmp 177))) rfl (wanted_of rfl rfl e81) rfl (y := .slice (some ⟨qb, qo, none⟩) (4) (qc)) (w' := w7') ?_ ⟨_, rfl, _, by rw [toL hlt]; exact bja_pure J 84 hno (by decide) no0 no0 (Fr.refl _)⟩
     rw [e83]
     have m0 := (Below.cell J.fr K0.out).trans K1.out
     simp [go_sem, m0]
    ·
     have h81 := after_one hi rfl 81 (by decide)
     have e81 : A.eval (.tmp 175) = .bool true := (HA 81 175 rfl (by show 175 < 210; decide) h81).trans (J.vl 81 (show 81 ∉ ([] : List Nat) from by decide) h81)
     have h84 := after_one hi rfl 84 (by decide)
     have e84 : A.eval (.tmp 178) = .slice (some ⟨qb, qo, none⟩) (4) (qc) := (HA 84 178 rfl (by show 178 < 210; decide) h84).trans (J.vl 84 (show 84 ∉ ([] : List Nat) from by decide) h84)
     exact wpOp_gval rfl (wanted_of rfl rfl e81) (x := .int .i64 (4)) (w' := w7') (exec_len Tryz.underlying31 e84) ⟨_, rfl, _, by rw [toL hlt]; exact bja_pure J 85 hno (by decide) no0 no0 (Fr.refl _)⟩
    ·
     have h81 := after_one hi rfl 81 (by decide)
     have e81 : A.eval (.tmp 175) = .bool true := (HA 81 175 rfl (by show 175 < 210; decide) h81).trans (J.vl 81 (show 81 ∉ ([] : List Nat) from by decide) h81)
     have h85 := after_one hi rfl 85 (by decide)
     have e85 : A.eval (.tmp 179) = .int .i64 (4) := (HA 85 179 rfl (by show 179 < 210; decide) h85).trans (J.vl 85 (show 85 ∉ ([] : List Nat) from by decide) h85)
     refine wpOp_gis (do eqGuard .eql 3 (.tmp 179) (.const (.int .i64 (4))) (A.eval (.tmp 179)) (.int .i64 (4)); binOp .eql 3 (A.eval (.tmp 179)) (.int .i64 (4))) rfl (wanted_of rfl rfl e81) rfl (y := .bool true) (w' := w7') ?_ ⟨_, rfl, _, by rw [toL hlt]; exact bja_pure J 86 hno (by decide) no0 no0 (Fr.refl _)⟩
     rw [e85]
     kernel_rfl
    ·
     have h81 := after_one hi rfl 81 (by decide)
     have e81 : A.eval (.tmp 175) = .bool true := (HA 81 175 rfl (by show 175 < 210; decide) h81).trans (J.vl 81 (show 81 ∉ ([] : List Nat) from by decide) h81)
     have h86 := after_one hi rfl 86 (by decide)
     have e86 : A.eval (.tmp 180) = .bool true := (HA 86 180 rfl (by show 180 < 210; decide) h86).trans (J.vl 86 (show 86 ∉ ([] : List Nat) from by decide) h86)
     exact wpOp_gval rfl (wanted_none rfl) (x := .bool true) (w' := w7') (exec_pick e81 e86) ⟨_, rfl, _, by rw [toL hlt]; exact bja_pure J 87 hno (by decide) no0 no0 (Fr.refl _)⟩
    ·
     have h87 := after_one hi rfl 87 (by decide)
     have e87 : A.eval (.tmp 181) = .bool true := (HA 87 181 rfl (by show 181 < 210; decide) h87).trans (J.vl 87 (show 87 ∉ ([] : List Nat) from by decide) h87)
     exact wpOp_gval rfl (wanted_none rfl) (x := .bool true) (w' := w7') (exec_mv e87) ⟨_, rfl, _, by rw [toL hlt]; exact bja_pure J 88 hno (by decide) no0 no0 (Fr.refl _)⟩
    ·
     have h88 := after_one hi rfl 88 (by decide)
     have e88 : A.eval (.tmp 182) = .bool true := (HA 88 182 rfl (by show 182 < 210; decide) h88).trans (J.vl 88 (show 88 ∉ ([] : List Nat) from by decide) h88)
     have t13 : A.eval (.tmp 13) = .slice (some ⟨nb, no, none⟩) (2) (nc) := HO 13 (by decide)
     exact wpOp_gval rfl (wanted_of rfl rfl e88) (x := .slice (some ⟨nb, no, none⟩) (2) (nc)) (w' := w7') (exec_mv t13) ⟨_, rfl, _, by rw [toL hlt]; exact bja_pure J 89 hno (by decide) no0 no0 (Fr.refl _)⟩
    ·
     have h88 := after_one hi rfl 88 (by decide)
     have e88 : A.eval (.tmp 182) = .bool true := (HA 88 182 rfl (by show 182 < 210; decide) h88).trans (J.vl 88 (show 88 ∉ ([] : List Nat) from by decide) h88)
     have h89 := after_one hi rfl 89 (by decide)
     have e89 : A.eval (.tmp 183) = .slice (some ⟨nb, no, none⟩) (2) (nc) := (HA 89 183 rfl (by show 183 < 210; decide) h89).trans (J.vl 89 (show 89 ∉ ([] : List Nat) from by decide) h89)
     refine wpOp_gis (Instr.indexAt 22 (A.eval (.tmp 183)) (.int .i64 (1))) rfl (wanted_of rfl rfl e88) rfl (y := .pointer (some ⟨nb, no + 1, none⟩)) (w' := w7') ?_ ⟨_, rfl, _, by rw [toL hlt]; exact bja_pure J 90 hno (by decide) no0 no0 (Fr.refl _)⟩
     rw [e89]
     kernel_rfl
    ·
     have h88 := after_one hi rfl 88 (by decide)
     have e88 : A.eval (.tmp 182) = .bool true := (HA 88 182 rfl (by show 182 < 210; decide) h88).trans (J.vl 88 (show 88 ∉ ([] : List Nat) from by decide) h88)
     have h90 := after_one hi rfl 90 (by decide)
     have e90 : A.eval (.tmp 184) = .pointer (some ⟨nb, no + 1, none⟩) := (HA 90 184 rfl (by show 184 < 210; decide) h90).trans (J.vl 90 (show 90 ∉ ([] : List Nat) from by decide) h90)
     refine wpOp_gis (Instr.loadAt 31 (A.eval (.tmp 184))) rfl (wanted_of rfl rfl e88) rfl (y := .slice (some ⟨qb, qo, none⟩) (4) (qc)) (w' := w7') ?_ ⟨_, rfl, _, by rw [toL hlt]; exact bja_pure J 91 hno (by decide) no0 no0 (Fr.refl _)⟩
     rw [e90]
     have m0 := (Below.cell J.fr K0.out).trans K1.out
     simp [go_sem, m0]
    ·
     have h88 := after_one hi rfl 88 (by decide)
     have e88 : A.eval (.tmp 182) = .bool true := (HA 88 182 rfl (by show 182 < 210; decide) h88).trans (J.vl 88 (show 88 ∉ ([] : List Nat) from by decide) h88)
     have h91 := after_one hi rfl 91 (by decide)
     have e91 : A.eval (.tmp 185) = .slice (some ⟨qb, qo, none⟩) (4) (qc) := (HA 91 185 rfl (by show 185 < 210; decide) h91).trans (J.vl 91 (show 91 ∉ ([] : List Nat) from by decide) h91)
     refine wpOp_gis (Instr.indexAt 31 (A.eval (.tmp 185)) (.int .i64 (2))) rfl (wanted_of rfl rfl e88) rfl (y := .pointer (some ⟨qb, qo + 6, none⟩)) (w' := w7') ?_ ⟨_, rfl, _, by rw [toL hlt]; exact bja_pure J 92 hno (by decide) no0 no0 (Fr.refl _)⟩
     rw [e91]
     kernel_rfl
    ·
     have h88 := after_one hi rfl 88 (by decide)
     have e88 : A.eval (.tmp 182) = .bool true := (HA 88 182 rfl (by show 182 < 210; decide) h88).trans (J.vl 88 (show 88 ∉ ([] : List Nat) from by decide) h88)
     have h92 := after_one hi rfl 92 (by decide)
     have e92 : A.eval (.tmp 186) = .pointer (some ⟨qb, qo + 6, none⟩) := (HA 92 186 rfl (by show 186 < 210; decide) h92).trans (J.vl 92 (show 92 ∉ ([] : List Nat) from by decide) h92)
     refine wpOp_gis (Instr.loadAt 56 (A.eval (.tmp 186))) rfl (wanted_of rfl rfl e88) rfl (y := .agg #[.int .i64 (1), .int .i64 (1), .string (⟨#[]⟩)]) (w' := w7') ?_ ⟨_, rfl, _, by rw [toL hlt]; exact bja_pure J 93 hno (by decide) no0 no0 (Fr.refl _)⟩
     rw [e92]
     have m0 := (Below.cell J.fr K9.out).trans K2.out
     have m1 := (Below.cell J.fr K9.out).trans K3.out
     have m2 := (Below.cell J.fr K9.out).trans K4.out
     simp [go_sem, m0, m1, m2]
    ·
     have h88 := after_one hi rfl 88 (by decide)
     have e88 : A.eval (.tmp 182) = .bool true := (HA 88 182 rfl (by show 182 < 210; decide) h88).trans (J.vl 88 (show 88 ∉ ([] : List Nat) from by decide) h88)
     refine wpOp_gcall rfl (wanted_of rfl rfl e88) (args := #[.int .i64 (1)]) (by first | rfl | (simp only [List.map_toArray, List.map_cons, List.map_nil]; done) | (simp only [List.map_toArray, List.map_cons, List.map_nil]; rfl)) (by kernel_rfl) (vInt_any _ _) ?_
     rintro e w2 ⟨rfl, f2⟩
     exact ⟨_, rfl, _, rfl, _, by rw [toL hlt]; exact bja_pure J 94 hno (by decide) no0 no0 f2⟩
    ·
     have h88 := after_one hi rfl 88 (by decide)
     have e88 : A.eval (.tmp 182) = .bool true := (HA 88 182 rfl (by show 182 < 210; decide) h88).trans (J.vl 88 (show 88 ∉ ([] : List Nat) from by decide) h88)
     have h93 := after_one hi rfl 93 (by decide)
     have e93 : A.eval (.tmp 187) = .agg #[.int .i64 (1), .int .i64 (1), .string (⟨#[]⟩)] := (HA 93 187 rfl (by show 187 < 210; decide) h93).trans (J.vl 93 (show 93 ∉ ([] : List Nat) from by decide) h93)
     have h94 := after_one hi rfl 94 (by decide)
     have e94 : A.eval (.tmp 188) = .agg #[.int .i64 (1), .int .i64 (1), .string (⟨#[]⟩)] := (HA 94 188 rfl (by show 188 < 210; decide) h94).trans (J.vl 94 (show 94 ∉ ([] : List Nat) from by decide) h94)
     refine wpOp_gis (do eqGuard .eql 56 (.tmp 187) (.tmp 188) (A.eval (.tmp 187)) (A.eval (.tmp 188)); binOp .eql 56 (A.eval (.tmp 187)) (A.eval (.tmp 188))) rfl (wanted_of rfl rfl e88) rfl (y := .bool true) (w' := w7') ?_ ⟨_, rfl, _, by rw [toL hlt]; exact bja_pure J 95 hno (by decide) no0 no0 (Fr.refl _)⟩
     rw [e93, e94]
     kernel_rfl
    ·
     have h88 := after_one hi rfl 88 (by decide)
     have e88 : A.eval (.tmp 182) = .bool true := (HA 88 182 rfl (by show 182 < 210; decide) h88).trans (J.vl 88 (show 88 ∉ ([] : List Nat) from by decide) h88)
     have h95 := after_one hi rfl 95 (by decide)
     have e95 : A.eval (.tmp 189) = .bool true := (HA 95 189 rfl (by show 189 < 210; decide) h95).trans (J.vl 95 (show 95 ∉ ([] : List Nat) from by decide) h95)
     exact wpOp_gval rfl (wanted_none rfl) (x := .bool true) (w' := w7') (exec_pick e88 e95) ⟨_, rfl, _, by rw [toL hlt]; exact bja_pure J 96 hno (by decide) no0 no0 (Fr.refl _)⟩
    ·
     have h96 := after_one hi rfl 96 (by decide)
     have e96 : A.eval (.tmp 190) = .bool true := (HA 96 190 rfl (by show 190 < 210; decide) h96).trans (J.vl 96 (show 96 ∉ ([] : List Nat) from by decide) h96)
     exact wpOp_gval rfl (wanted_none rfl) (x := .bool true) (w' := w7') (exec_mv e96) ⟨_, rfl, _, by rw [toL hlt]; exact bja_pure J 97 hno (by decide) no0 no0 (Fr.refl _)⟩
    ·
     have h97 := after_one hi rfl 97 (by decide)
     have e97 : A.eval (.tmp 191) = .bool true := (HA 97 191 rfl (by show 191 < 210; decide) h97).trans (J.vl 97 (show 97 ∉ ([] : List Nat) from by decide) h97)
     have t16 : A.eval (.tmp 16) = .int .i64 (0) := HO 16 (by decide)
     exact wpOp_gval rfl (wanted_of rfl rfl e97) (x := .int .i64 (0)) (w' := w7') (exec_mv t16) ⟨_, rfl, _, by rw [toL hlt]; exact bja_pure J 98 hno (by decide) no0 no0 (Fr.refl _)⟩
    ·
     have h97 := after_one hi rfl 97 (by decide)
     have e97 : A.eval (.tmp 191) = .bool true := (HA 97 191 rfl (by show 191 < 210; decide) h97).trans (J.vl 97 (show 97 ∉ ([] : List Nat) from by decide) h97)
     have h98 := after_one hi rfl 98 (by decide)
     have e98 : A.eval (.tmp 192) = .int .i64 (0) := (HA 98 192 rfl (by show 192 < 210; decide) h98).trans (J.vl 98 (show 98 ∉ ([] : List Nat) from by decide) h98)
     refine wpOp_gis (do eqGuard .eql 24 (.tmp 192) (.const (.int .i64 (0))) (A.eval (.tmp 192)) (.int .i64 (0)); binOp .eql 24 (A.eval (.tmp 192)) (.int .i64 (0))) rfl (wanted_of rfl rfl e97) rfl (y := .bool true) (w' := w7') ?_ ⟨_, rfl, _, by rw [toL hlt]; exact bja_pure J 99 hno (by decide) no0 no0 (Fr.refl _)⟩
     rw [e98]
     kernel_rfl
    ·
     have h97 := after_one hi rfl 97 (by decide)
     have e97 : A.eval (.tmp 191) = .bool true := (HA 97 191 rfl (by show 191 < 210; decide) h97).trans (J.vl 97 (show 97 ∉ ([] : List Nat) from by decide) h97)
     have h99 := after_one hi rfl 99 (by decide)
     have e99 : A.eval (.tmp 193) = .bool true := (HA 99 193 rfl (by show 193 < 210; decide) h99).trans (J.vl 99 (show 99 ∉ ([] : List Nat) from by decide) h99)
     exact wpOp_gval rfl (wanted_none rfl) (x := .bool true) (w' := w7') (exec_pick e97 e99) ⟨_, rfl, _, by rw [toL hlt]; exact bja_pure J 100 hno (by decide) no0 no0 (Fr.refl _)⟩
    ·
     have h100 := after_one hi rfl 100 (by decide)
     have e100 : A.eval (.tmp 194) = .bool true := (HA 100 194 rfl (by show 194 < 210; decide) h100).trans (J.vl 100 (show 100 ∉ ([] : List Nat) from by decide) h100)
     exact wpOp_gval rfl (wanted_none rfl) (x := .bool true) (w' := w7') (exec_mv e100) ⟨_, rfl, _, by rw [toL hlt]; exact bja_pure J 101 hno (by decide) no0 no0 (Fr.refl _)⟩
    ·
     have h101 := after_one hi rfl 101 (by decide)
     have e101 : A.eval (.tmp 195) = .bool true := (HA 101 195 rfl (by show 195 < 210; decide) h101).trans (J.vl 101 (show 101 ∉ ([] : List Nat) from by decide) h101)
     have t15 : A.eval (.tmp 15) = .slice (ma) (1) (mc) := HO 15 (by decide)
     exact wpOp_gval rfl (wanted_of rfl rfl e101) (x := .slice (ma) (1) (mc)) (w' := w7') (exec_mv t15) ⟨_, rfl, _, by rw [toL hlt]; exact bja_pure J 102 hno (by decide) no0 no0 (Fr.refl _)⟩
    ·
     have h101 := after_one hi rfl 101 (by decide)
     have e101 : A.eval (.tmp 195) = .bool true := (HA 101 195 rfl (by show 195 < 210; decide) h101).trans (J.vl 101 (show 101 ∉ ([] : List Nat) from by decide) h101)
     have t1 : A.eval (.tmp 1) = .slice (some ⟨rl, 0, none⟩) (3) (3) := HO 1 (by decide)
     exact wpOp_gval rfl (wanted_of rfl rfl e101) (x := .slice (some ⟨rl, 0, none⟩) (3) (3)) (w' := w7') (exec_mv t1) ⟨_, rfl, _, by rw [toL hlt]; exact bja_pure J 103 hno (by decide) no0 no0 (Fr.refl _)⟩
    ·
     have h101 := after_one hi rfl 101 (by decide)
     have e101 : A.eval (.tmp 195) = .bool true := (HA 101 195 rfl (by show 195 < 210; decide) h101).trans (J.vl 101 (show 101 ∉ ([] : List Nat) from by decide) h101)
     have h103 := after_one hi rfl 103 (by decide)
     have e103 : A.eval (.tmp 197) = .slice (some ⟨rl, 0, none⟩) (3) (3) := (HA 103 197 rfl (by show 197 < 210; decide) h103).trans (J.vl 103 (show 103 ∉ ([] : List Nat) from by decide) h103)
     refine wpOp_gis (Instr.sliceAt 22 (A.eval (.tmp 197)) (some (.int .i64 (1))) (some (.int .i64 (2))) none) rfl (wanted_of rfl rfl e101) rfl (y := .slice (some ⟨rl, 1, none⟩) (1) (2)) (w' := w7') ?_ ⟨_, rfl, _, by rw [toL hlt]; exact bja_pure J 104 hno (by decide) no0 no0 (Fr.refl _)⟩
     rw [e103]
     kernel_rfl
    ·
     have h101 := after_one hi rfl 101 (by decide)
     have e101 : A.eval (.tmp 195) = .bool true := (HA 101 195 rfl (by show 195 < 210; decide) h101).trans (J.vl 101 (show 101 ∉ ([] : List Nat) from by decide) h101)
     have h102 := after_one hi rfl 102 (by decide)
     have e102 : A.eval (.tmp 196) = .slice (ma) (1) (mc) := (HA 102 196 rfl (by show 196 < 210; decide) h102).trans (J.vl 102 (show 102 ∉ ([] : List Nat) from by decide) h102)
     have h104 := after_one hi rfl 104 (by decide)
     have e104 : A.eval (.tmp 198) = .slice (some ⟨rl, 1, none⟩) (1) (2) := (HA 104 198 rfl (by show 198 < 210; decide) h104).trans (J.vl 104 (show 104 ∉ ([] : List Nat) from by decide) h104)
     refine wpOp_gcall rfl (wanted_of rfl rfl e101) (args := #[.slice (ma) (1) (mc), .slice (some ⟨rl, 1, none⟩) (1) (2)]) (by first | rfl | (simp only [List.map_toArray, List.map_cons, List.map_nil, e102, e104]; done) | (simp only [List.map_toArray, List.map_cons, List.map_nil, e102, e104]; rfl)) (by kernel_rfl) (sameRows_eq _ _ [BJ.rb] w7' (HM.out.fr J.fr) ((show IsRR _ (.slice (some ⟨rl, 1, none⟩) 1 2) [BJ.rb] from isRR_cut HLs.out 1 1 (by decide) (some ⟨rl, 1, none⟩) (fun b o e => .inr (by cases e; rfl))).fr J.fr) (by decide) (BJ.lenA (by rfl))) ?_
     rintro e w2 ⟨rfl, f2⟩
     exact ⟨_, rfl, _, rfl, _, by rw [toL hlt]; exact bja_pure J 105 hno (by decide) no0 no0 f2⟩
    ·
     have h101 := after_one hi rfl 101 (by decide)
     have e101 : A.eval (.tmp 195) = .bool true := (HA 101 195 rfl (by show 195 < 210; decide) h101).trans (J.vl 101 (show 101 ∉ ([] : List Nat) from by decide) h101)
     have h105 := after_one hi rfl 105 (by decide)
     have e105 : A.eval (.tmp 199) = .bool true := (HA 105 199 rfl (by show 199 < 210; decide) h105).trans (J.vl 105 (show 105 ∉ ([] : List Nat) from by decide) h105)
     exact wpOp_gval rfl (wanted_none rfl) (x := .bool true) (w' := w7') (exec_pick e101 e105) ⟨_, rfl, _, by rw [toL hlt]; exact bja_pure J 106 hno (by decide) no0 no0 (Fr.refl _)⟩
    ·
     have h106 := after_one hi rfl 106 (by decide)
     have e106 : A.eval (.tmp 200) = .bool true := (HA 106 200 rfl (by show 200 < 210; decide) h106).trans (J.vl 106 (show 106 ∉ ([] : List Nat) from by decide) h106)
     exact wpOp_gval rfl (wanted_none rfl) (x := .bool true) (w' := w7') (exec_mv e106) ⟨_, rfl, _, by rw [toL hlt]; exact bja_pure J 107 hno (by decide) no0 no0 (Fr.refl _)⟩
    ·
     have h107 := after_one hi rfl 107 (by decide)
     have e107 : A.eval (.tmp 201) = .bool true := (HA 107 201 rfl (by show 201 < 210; decide) h107).trans (J.vl 107 (show 107 ∉ ([] : List Nat) from by decide) h107)
     have t1 : A.eval (.tmp 1) = .slice (some ⟨rl, 0, none⟩) (3) (3) := HO 1 (by decide)
     exact wpOp_gval rfl (wanted_of rfl rfl e107) (x := .slice (some ⟨rl, 0, none⟩) (3) (3)) (w' := w7') (exec_mv t1) ⟨_, rfl, _, by rw [toL hlt]; exact bja_pure J 108 hno (by decide) no0 no0 (Fr.refl _)⟩
    ·
     have h107 := after_one hi rfl 107 (by decide)
     have e107 : A.eval (.tmp 201) = .bool true := (HA 107 201 rfl (by show 201 < 210; decide) h107).trans (J.vl 107 (show 107 ∉ ([] : List Nat) from by decide) h107)
     have h108 := after_one hi rfl 108 (by decide)
     have e108 : A.eval (.tmp 202) = .slice (some ⟨rl, 0, none⟩) (3) (3) := (HA 108 202 rfl (by show 202 < 210; decide) h108).trans (J.vl 108 (show 108 ∉ ([] : List Nat) from by decide) h108)
     refine wpOp_gis (Instr.indexAt 22 (A.eval (.tmp 202)) (.int .i64 (0))) rfl (wanted_of rfl rfl e107) rfl (y := .pointer (some ⟨rl, 0, none⟩)) (w' := w7') ?_ ⟨_, rfl, _, by rw [toL hlt]; exact bja_pure J 109 hno (by decide) no0 no0 (Fr.refl _)⟩
     rw [e108]
     kernel_rfl
    ·
     have h107 := after_one hi rfl 107 (by decide)
     have e107 : A.eval (.tmp 201) = .bool true := (HA 107 201 rfl (by show 201 < 210; decide) h107).trans (J.vl 107 (show 107 ∉ ([] : List Nat) from by decide) h107)
     have h109 := after_one hi rfl 109 (by decide)
     have e109 : A.eval (.tmp 203) = .pointer (some ⟨rl, 0, none⟩) := (HA 109 203 rfl (by show 203 < 210; decide) h109).trans (J.vl 109 (show 109 ∉ ([] : List Nat) from by decide) h109)
     refine wpOp_gis (Instr.loadAt 31 (A.eval (.tmp 203))) rfl (wanted_of rfl rfl e107) rfl (y := .slice (some ⟨r0, 0, none⟩) (2) (2)) (w' := w7') ?_ ⟨_, rfl, _, by rw [toL hlt]; exact bja_pure J 110 hno (by decide) no0 no0 (Fr.refl _)⟩
     rw [e109]
     have m0 : w7'.cell? ⟨rl, 0, none⟩ = some (.slice (some ⟨r0, 0, none⟩) (2) (2)) := (HBL.out.fr J.fr).cell 0 rfl
     simp [go_sem, m0]
    ·
     have h107 := after_one hi rfl 107 (by decide)
     have e107 : A.eval (.tmp 201) = .bool true := (HA 107 201 rfl (by show 201 < 210; decide) h107).trans (J.vl 107 (show 107 ∉ ([] : List Nat) from by decide) h107)
     have h110 := after_one hi rfl 110 (by decide)
     have e110 : A.eval (.tmp 204) = .slice (some ⟨r0, 0, none⟩) (2) (2) := (HA 110 204 rfl (by show 204 < 210; decide) h110).trans (J.vl 110 (show 110 ∉ ([] : List Nat) from by decide) h110)
     refine wpOp_gis (Instr.buildSlice 22 2 (#[(0, Operand.const (.slice none 0 0)), (1, Operand.tmp 204)].map fun (i, x) => (i, A.eval x))) rfl (wanted_of rfl rfl e107) rfl (y := .slice (some ⟨w7'.heap.size, 0, none⟩) 2 2) (w' := w7'.alloc (.cells #[.slice none 0 0, .slice (some ⟨r0, 0, none⟩) (2) (2)] 31)) ?_ ⟨_, rfl, _, by rw [toL hlt]; exact J.new 111 (show 111 ∈ ([10, 29, 52, 54, 66, 68, 111] : List Nat) from by decide) (show 111 ∉ ([] : List Nat) from by decide) hno rfl no0 (bja_st rl gc r0 r1 r2 uc sc dc pc jc nb no nc qb qo qc mc ua sa da pa ja ma) (by intro k hk hne hkL; change k ∈ ([10, 29, 52, 54, 66, 68, 111] : List Nat) at hk; simp only [List.mem_cons, List.not_mem_nil, or_false] at hk; rcases hk with rfl | rfl | rfl | rfl | rfl | rfl | rfl <;> first | rfl | exact absurd rfl hne) rfl⟩
     simp only [List.map_toArray, List.map_cons, List.map_nil, e110]
     kernel_rfl
    ·
     have h107 := after_one hi rfl 107 (by decide)
     have e107 : A.eval (.tmp 201) = .bool true := (HA 107 201 rfl (by show 201 < 210; decide) h107).trans (J.vl 107 (show 107 ∉ ([] : List Nat) from by decide) h107)
     have h111 := after_one hi rfl 111 (by decide)
     have e111 : A.eval (.tmp 205) = .slice (some ⟨(Gf 111), 0, none⟩) (2) (2) := (HA 111 205 rfl (by show 205 < 210; decide) h111).trans (J.vl 111 (show 111 ∉ ([] : List Nat) from by decide) h111)
     refine wpOp_gcall rfl (wanted_of rfl rfl e107) (args := #[.slice (some ⟨(Gf 111), 0, none⟩) (2) (2)]) (by first | rfl | (simp only [List.map_toArray, List.map_cons, List.map_nil, e111]; done) | (simp only [List.map_toArray, List.map_cons, List.map_nil, e111]; rfl)) (by kernel_rfl) (rowsOf_any _ _ _ _) ?_
     rintro e w2 ⟨rfl, rfl⟩
     exact ⟨_, rfl, _, rfl, _, by rw [toL hlt]; exact bja_pure J 112 hno (by decide) (no1 h111) no0 (Fr.refl _)⟩
    ·
     have h107 := after_one hi rfl 107 (by decide)
     have e107 : A.eval (.tmp 201) = .bool true := (HA 107 201 rfl (by show 201 < 210; decide) h107).trans (J.vl 107 (show 107 ∉ ([] : List Nat) from by decide) h107)
     have h112 := after_one hi rfl 112 (by decide)
     have e112 : A.eval (.tmp 206) = .slice (some ⟨(Gf 111), 0, none⟩) (2) (2) := (HA 112 206 rfl (by show 206 < 210; decide) h112).trans (J.vl 112 (show 112 ∉ ([] : List Nat) from by decide) h112)
     have h111 := J.dp 112 h112 111 (show 111 ∈ ([111] : List Nat) from by decide)
     have b111 : Blk w7' (Gf 111) #[.slice none 0 0, .slice (some ⟨r0, 0, none⟩) 2 2] 31 := (J.bk 111 (show 111 ∈ ([10, 29, 52, 54, 66, 68, 111] : List Nat) from by decide) h111).2
     refine wpOp_gcall rfl (wanted_of rfl rfl e107) (args := #[.slice (some ⟨(Gf 111), 0, none⟩) (2) (2)]) (by first | rfl | (simp only [List.map_toArray, List.map_cons, List.map_nil, e112]; done) | (simp only [List.map_toArray, List.map_cons, List.map_nil, e112]; rfl)) (by kernel_rfl) (HCk.out w7' _ J.fr (isRR_two (a := ⟨none, 0, 0⟩) (b := ⟨some ⟨r0, 0, none⟩, 2, 2⟩) b111 (isL_nil _ _) ((isL_blkV BJ.ra HB0.out).fr J.fr))) ?_
     rintro e w2 ⟨rfl, f2⟩
     exact ⟨_, rfl, _, rfl, _, by rw [toL hlt]; exact bja_pure J 113 hno (by decide) no0 no0 f2⟩
    ·
     have h107 := after_one hi rfl 107 (by decide)
     have e107 : A.eval (.tmp 201) = .bool true := (HA 107 201 rfl (by show 201 < 210; decide) h107).trans (J.vl 107 (show 107 ∉ ([] : List Nat) from by decide) h107)
     have h113 := after_one hi rfl 113 (by decide)
     have e113 : A.eval (.tmp 207) = .int .i64 (1) := (HA 113 207 rfl (by show 207 < 210; decide) h113).trans (J.vl 113 (show 113 ∉ ([] : List Nat) from by decide) h113)
     refine wpOp_gis (do eqGuard .eql 24 (.tmp 207) (.const (.int .i64 (1))) (A.eval (.tmp 207)) (.int .i64 (1)); binOp .eql 24 (A.eval (.tmp 207)) (.int .i64 (1))) rfl (wanted_of rfl rfl e107) rfl (y := .bool true) (w' := w7') ?_ ⟨_, rfl, _, by rw [toL hlt]; exact bja_pure J 114 hno (by decide) no0 no0 (Fr.refl _)⟩
     rw [e113]
     kernel_rfl
    ·
     have h107 := after_one hi rfl 107 (by decide)
     have e107 : A.eval (.tmp 201) = .bool true := (HA 107 201 rfl (by show 201 < 210; decide) h107).trans (J.vl 107 (show 107 ∉ ([] : List Nat) from by decide) h107)
     have h114 := after_one hi rfl 114 (by decide)
     have e114 : A.eval (.tmp 208) = .bool true := (HA 114 208 rfl (by show 208 < 210; decide) h114).trans (J.vl 114 (show 114 ∉ ([] : List Nat) from by decide) h114)
     exact wpOp_gval rfl (wanted_none rfl) (x := .bool true) (w' := w7') (exec_pick e107 e114) ⟨_, rfl, _, by rw [toL hlt]; exact bja_pure J 115 hno (by decide) no0 no0 (Fr.refl _)⟩
    ·
     have h115 := after_one hi rfl 115 (by decide)
     have e115 : A.eval (.tmp 209) = .bool true := (HA 115 209 rfl (by show 209 < 210; decide) h115).trans (J.vl 115 (show 115 ∉ ([] : List Nat) from by decide) h115)
     exact wpOp_gval rfl (wanted_none rfl) (x := .bool true) (w' := w7') (exec_as e115) ⟨_, rfl, _, by rw [toL hlt]; exact bja_pure J 116 hno (by decide) no0 no0 (Fr.refl _)⟩
   ·
    rintro listed v w7' hs ⟨Gf, J⟩ hr
    have al := all_done hs hr (by decide)
    have l116 := al 116 (by decide)
    have hv116 : v 116 = .bool true := J.vl 116 (show 116 ∉ ([] : List Nat) from by decide) l116
    have hF := FW.out.trans J.fr
    refine tail_one (K := Exit.then _ _) 116 0 (.bool true) hv116 l116 (by kernel_rfl) (List.mem_range.2 (by decide)) List.nodup_range (fun j hj hne => no_dst (n := 116) (by kernel_rfl) j (by have := List.mem_range.1 hj; change j < 117 at this; omega)) (by exact of_decide_eq_true (by kernel_rfl)) ?_
    clear al l116 J hr hs hv116
    intro a9 hs9 hd9 he9
    go_wp2_with fail
    have he8 : a9.tmps.getD 0 undef = .bool true := he9
    refine ⟨hd9, .bool true, ?_, rfl, hF⟩
    simp only [results, Tryz.results12]
    simp [go_sem, ← Array.getD_eq_getD_getElem?, he8]
end Go.Proofs.YtbcfdhimngoplaaGreatDoor
