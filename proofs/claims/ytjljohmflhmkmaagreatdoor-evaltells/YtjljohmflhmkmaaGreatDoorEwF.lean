/-
  The examples that the statements on worths hold first are met.
-/
import Derived.Test.YtjljohmflhmkmaaGreatDoorEwE
namespace Go.Proofs.YtjljohmflhmkmaaGreatDoor
open Go.ChangeShapes Go.WideShapes Go.ChangeAt Go.RowKit
set_option linter.unusedVariables false
set_option linter.unusedSimpArgs false
set_option maxRecDepth 100000
set_option maxHeartbeats 4000000

def nc (s : ByteArray) : EX.Nd := ⟨2, 0, EX.nul, s⟩
def nl (n : Int) : EX.Nd := ⟨1, 0, ⟨1, n, ⟨#[]⟩⟩, ⟨#[]⟩⟩
def no (op kids : Int) : EX.Nd := ⟨op, kids, EX.nul, ⟨#[]⟩⟩
def bE : List EX.Nd := [nc ⟨#[97]⟩, nl 2, nl 3, no 7 2, no 12 2, no 4 1]
def bM : List EX.Nd := [nc ⟨#[97]⟩, nl 6, no 12 2, no 4 1]
def bN : List EX.Nd := [nc ⟨#[97]⟩, nl 6, no 15 2]
def bT : List EX.Nd := [⟨1, 0, ⟨2, 0, ⟨#[97]⟩⟩, ⟨#[]⟩⟩]
theorem bE_ev : EV.ev bE [⟨#[97]⟩] [⟨1, 7, ⟨#[]⟩⟩] = .ok ⟨1, 1, ⟨#[]⟩⟩ := by kernel_rfl
theorem bE_tr : EV.tru bE [⟨#[97]⟩] [EX.nul] = .ok 1 := by kernel_rfl
theorem bE_no : EV.ev bE [⟨#[98]⟩] [⟨1, 7, ⟨#[]⟩⟩] = .error 5 := by kernel_rfl
theorem bE_ck : EX.ck bE = 0 := by kernel_rfl
theorem bE_fld : EV.fld bE = bM := by kernel_rfl
theorem bM_ck : EX.ck bM = 0 := by kernel_rfl
theorem bM_psh : EV.psh bM = bN := by kernel_rfl
theorem bN_ck : EX.ck bN = 0 := by kernel_rfl
theorem bT_tr : EV.tru bT [] [] = .error 7 := by kernel_rfl
theorem b_nm (l : List EX.Nd) (h : l = bE ∨ l = bM ∨ l = bT) : ∀ n ∈ l, n.nm.size ≤ 140737488355327 := by
  rcases h with rfl | rfl | rfl
  all_goals (intro n hn; simp only [bE, bM, bT, List.mem_cons, List.not_mem_nil, or_false] at hn)
  · rcases hn with rfl | rfl | rfl | rfl | rfl | rfl <;> decide
  · rcases hn with rfl | rfl | rfl | rfl <;> decide
  · subst hn; decide
theorem b_gd (l : List EX.Nd) (h : l = bE ∨ l = bM ∨ l = bT) : ∀ n ∈ l, EV.gd n.v := by
  have g : ∀ (k n : Int) (s : ByteArray), WH.Ok n → s.size ≤ 9223372036854775807 → EV.gd ⟨k, n, s⟩ := fun k n s h1 h2 => ⟨h1, h2⟩
  rcases h with rfl | rfl | rfl
  all_goals (intro n hn; simp only [bE, bM, bT, List.mem_cons, List.not_mem_nil, or_false] at hn)
  · rcases hn with rfl | rfl | rfl | rfl | rfl | rfl <;> exact g _ _ _ ⟨by decide, by decide⟩ (by decide)
  · rcases hn with rfl | rfl | rfl | rfl <;> exact g _ _ _ ⟨by decide, by decide⟩ (by decide)
  · subst hn; exact g _ _ _ ⟨by decide, by decide⟩ (by decide)
theorem nodes_fr (a : Option Addr) (n c : Nat) (w : World) : Calls Tryz.prog 36 #[.slice a n c] w fun e w' => e = .returned (.slice a n c) ∧ Fr w w' := (nodes_any a n c w).mono fun e w' ⟨h1, h2⟩ => ⟨h1, by rw [h2]; exact Fr.refl _⟩
theorem s3_alloc {w : World} {b : Nat} {x y z : Value} (o : Obj) (h : w.cell? ⟨b, 0, none⟩ = some x ∧ w.cell? ⟨b, 1, none⟩ = some y ∧ w.cell? ⟨b, 2, none⟩ = some z) : (w.alloc o).cell? ⟨b, 0, none⟩ = some x ∧ (w.alloc o).cell? ⟨b, 1, none⟩ = some y ∧ (w.alloc o).cell? ⟨b, 2, none⟩ = some z := s3_fr ((Fr.refl w).alloc o) h
theorem evalBegun_any (w : World) (hTn : Tn w) (hT : Tb w) : Calls Tryz.prog 15 #[] w fun e w' => e = .returned (.bool true) ∧ Fr w w' := by
  have FW := hideP (Fr.refl w)
  have HTn := hideP hTn
  have HT := hideP hT
  clear hTn hT
  have hgv : ∀ k n : Int, ∀ s : ByteArray, WH.Ok n → s.size ≤ 16 → EV.gd ⟨k, n, s⟩ := fun k n s h1 h2 => ⟨h1, Nat.le_trans h2 (by decide)⟩
  have HGV := hideP hgv
  clear hgv
  go_enter Tryz.func15, Tryz.ntmps15
  go_wp2_with fail
  refine (nCol_any ⟨#[97]⟩ _).mono ?_
  rintro _ w1 ⟨rfl, f1⟩
  replace FW := hideP (FW.out.trans f1)
  clear f1
  go_wp2_with fail
  refine (vInt_any 2 _).mono ?_
  rintro _ w2 ⟨rfl, f2⟩
  replace FW := hideP (FW.out.trans f2)
  clear f2
  go_wp2_with fail
  refine (nLit_any 1 2 ⟨#[]⟩ _).mono ?_
  rintro _ w3 ⟨rfl, f3⟩
  replace FW := hideP (FW.out.trans f3)
  clear f3
  go_wp2_with fail
  refine (vInt_any 3 _).mono ?_
  rintro _ w4 ⟨rfl, f4⟩
  replace FW := hideP (FW.out.trans f4)
  clear f4
  go_wp2_with fail
  refine (nLit_any 1 3 ⟨#[]⟩ _).mono ?_
  rintro _ w5 ⟨rfl, f5⟩
  replace FW := hideP (FW.out.trans f5)
  clear f5
  go_wp2_with fail
  refine (nOp_any 7 2 _).mono ?_
  rintro _ w6 ⟨rfl, f6⟩
  replace FW := hideP (FW.out.trans f6)
  clear f6
  go_wp2_with fail
  refine (nOp_any 12 2 _).mono ?_
  rintro _ w7 ⟨rfl, f7⟩
  replace FW := hideP (FW.out.trans f7)
  clear f7
  go_wp2_with fail
  refine (nOp_any 4 1 _).mono ?_
  rintro _ w8 ⟨rfl, f8⟩
  replace FW := hideP (FW.out.trans f8)
  clear f8
  have HE := hideP (show IsL cdN (w8.alloc (.cells #[.int .i64 2, .int .i64 0, .int .i64 0, .int .i64 0, .string ⟨#[]⟩, .string ⟨#[97]⟩, .int .i64 1, .int .i64 0, .int .i64 1, .int .i64 2, .string ⟨#[]⟩, .string ⟨#[]⟩, .int .i64 1, .int .i64 0, .int .i64 1, .int .i64 3, .string ⟨#[]⟩, .string ⟨#[]⟩, .int .i64 7, .int .i64 2, .int .i64 0, .int .i64 0, .string ⟨#[]⟩, .string ⟨#[]⟩, .int .i64 12, .int .i64 2, .int .i64 0, .int .i64 0, .string ⟨#[]⟩, .string ⟨#[]⟩, .int .i64 4, .int .i64 1, .int .i64 0, .int .i64 0, .string ⟨#[]⟩, .string ⟨#[]⟩] 38)) (.slice (some ⟨w8.heap.size, 0, none⟩) 6 6) bE from lit_many cdN w8 bE 38)
  have g9 : Fr w8 (w8.alloc (.cells #[.int .i64 2, .int .i64 0, .int .i64 0, .int .i64 0, .string ⟨#[]⟩, .string ⟨#[97]⟩, .int .i64 1, .int .i64 0, .int .i64 1, .int .i64 2, .string ⟨#[]⟩, .string ⟨#[]⟩, .int .i64 1, .int .i64 0, .int .i64 1, .int .i64 3, .string ⟨#[]⟩, .string ⟨#[]⟩, .int .i64 7, .int .i64 2, .int .i64 0, .int .i64 0, .string ⟨#[]⟩, .string ⟨#[]⟩, .int .i64 12, .int .i64 2, .int .i64 0, .int .i64 0, .string ⟨#[]⟩, .string ⟨#[]⟩, .int .i64 4, .int .i64 1, .int .i64 0, .int .i64 0, .string ⟨#[]⟩, .string ⟨#[]⟩] 38)) := (Fr.refl _).alloc _
  replace FW := hideP (FW.out.trans g9)
  clear g9
  go_wp2_with fail
  generalize (w8.alloc (.cells #[.int .i64 2, .int .i64 0, .int .i64 0, .int .i64 0, .string ⟨#[]⟩, .string ⟨#[97]⟩, .int .i64 1, .int .i64 0, .int .i64 1, .int .i64 2, .string ⟨#[]⟩, .string ⟨#[]⟩, .int .i64 1, .int .i64 0, .int .i64 1, .int .i64 3, .string ⟨#[]⟩, .string ⟨#[]⟩, .int .i64 7, .int .i64 2, .int .i64 0, .int .i64 0, .string ⟨#[]⟩, .string ⟨#[]⟩, .int .i64 12, .int .i64 2, .int .i64 0, .int .i64 0, .string ⟨#[]⟩, .string ⟨#[]⟩, .int .i64 4, .int .i64 1, .int .i64 0, .int .i64 0, .string ⟨#[]⟩, .string ⟨#[]⟩] 38)) = w10 at *
  refine (nodes_any _ _ _ _).mono ?_
  rintro _ w11 ⟨rfl, rfl⟩
  have HCs := hideP (show IsL cdB (w11.alloc (.cells #[.string ⟨#[97]⟩] 9)) (.slice (some ⟨w11.heap.size, 0, none⟩) 1 1) [⟨#[97]⟩] from lit_many cdB w11 [⟨#[97]⟩] 9)
  have g12 : Fr w11 (w11.alloc (.cells #[.string ⟨#[97]⟩] 9)) := (Fr.refl _).alloc _
  replace FW := hideP (FW.out.trans g12)
  replace HE := hideP (HE.out.fr g12)
  clear g12
  go_wp2_with fail
  generalize (w11.alloc (.cells #[.string ⟨#[97]⟩] 9)) = w13 at *
  refine (vInt_any 7 _).mono ?_
  rintro _ w14 ⟨rfl, f14⟩
  replace FW := hideP (FW.out.trans f14)
  replace HE := hideP (HE.out.fr f14)
  replace HCs := hideP (HCs.out.fr f14)
  clear f14
  have HR := hideP (show IsL cdV (w14.alloc (.cells #[.int .i64 1, .int .i64 7, .string ⟨#[]⟩] 26)) (.slice (some ⟨w14.heap.size, 0, none⟩) 1 1) [⟨1, 7, ⟨#[]⟩⟩] from lit_many cdV w14 [⟨1, 7, ⟨#[]⟩⟩] 26)
  have g15 : Fr w14 (w14.alloc (.cells #[.int .i64 1, .int .i64 7, .string ⟨#[]⟩] 26)) := (Fr.refl _).alloc _
  replace FW := hideP (FW.out.trans g15)
  replace HE := hideP (HE.out.fr g15)
  replace HCs := hideP (HCs.out.fr g15)
  clear g15
  go_wp2_with fail
  generalize (w14.alloc (.cells #[.int .i64 1, .int .i64 7, .string ⟨#[]⟩] 26)) = w17 at *
  have c16 := eval_any _ _ _ bE [⟨#[97]⟩] [⟨1, 7, ⟨#[]⟩⟩] w17 HE.out HCs.out HR.out (b_nm _ (.inl rfl)) (by decide) (by intro c hc; simp only [List.mem_cons, List.not_mem_nil, or_false] at hc; subst hc; decide) (HTn.out.fr FW.out) (HT.out.fr FW.out) (b_gd _ (.inl rfl)) (by intro x hx; simp only [List.mem_cons, List.not_mem_nil, or_false] at hx; subst hx; exact HGV.out _ _ _ ⟨by decide, by decide⟩ (by decide))
  rw [bE_ev] at c16
  simp only [exV, exT, vlV, EX.nul] at c16
  have C16 := hideP c16
  clear c16
  refine C16.out.mono ?_
  rintro _ w18 ⟨rfl, f18⟩
  replace FW := hideP (FW.out.trans f18)
  replace HE := hideP (HE.out.fr f18)
  replace HCs := hideP (HCs.out.fr f18)
  replace HR := hideP (HR.out.fr f18)
  clear f18 C16
  clear HR
  have HV := hideP (Blk.new w18 #[.int .i64 1, .int .i64 1, .string ⟨#[]⟩] 26)
  have g19 : Fr w18 (w18.alloc (.cells #[.int .i64 1, .int .i64 1, .string ⟨#[]⟩] 26)) := (Fr.refl _).alloc _
  replace FW := hideP (FW.out.trans g19)
  replace HE := hideP (HE.out.fr g19)
  replace HCs := hideP (HCs.out.fr g19)
  clear g19
  have HBs : Hid (w18.heap.size = w18.heap.size) := rfl
  go_upto_region 4 with fail
  generalize (w18.alloc (.cells #[.int .i64 1, .int .i64 1, .string ⟨#[]⟩] 26)) = w20 at *
  have HR := hideP (show IsL cdV (w20.alloc (.cells #[.int .i64 0, .int .i64 0, .string ⟨#[]⟩] 26)) (.slice (some ⟨w20.heap.size, 0, none⟩) 1 1) [EX.nul] from lit_many cdV w20 [EX.nul] 26)
  have g21 : Fr w20 (w20.alloc (.cells #[.int .i64 0, .int .i64 0, .string ⟨#[]⟩] 26)) := (Fr.refl _).alloc _
  replace FW := hideP (FW.out.trans g21)
  replace HE := hideP (HE.out.fr g21)
  replace HCs := hideP (HCs.out.fr g21)
  replace HV := hideP (HV.out.fr g21)
  clear g21
  go_wp2_with fail
  generalize (w20.alloc (.cells #[.int .i64 0, .int .i64 0, .string ⟨#[]⟩] 26)) = w23 at *
  have c22 := truth_any _ _ _ bE [⟨#[97]⟩] [EX.nul] w23 HE.out HCs.out HR.out (b_nm _ (.inl rfl)) (by decide) (by intro c hc; simp only [List.mem_cons, List.not_mem_nil, or_false] at hc; subst hc; decide) (HTn.out.fr FW.out) (HT.out.fr FW.out) (b_gd _ (.inl rfl)) (by intro x hx; simp only [List.mem_cons, List.not_mem_nil, or_false] at hx; subst hx; exact HGV.out _ _ _ ⟨by decide, by decide⟩ (by decide))
  rw [bE_tr] at c22
  simp only [exV, exT, vlV, EX.nul] at c22
  have C22 := hideP c22
  clear c22
  refine C22.out.mono ?_
  rintro _ w24 ⟨rfl, f24⟩
  replace FW := hideP (FW.out.trans f24)
  replace HE := hideP (HE.out.fr f24)
  replace HCs := hideP (HCs.out.fr f24)
  replace HV := hideP (HV.out.fr f24)
  replace HR := hideP (HR.out.fr f24)
  clear f24 C22
  clear HR
  clear HCs
  have HCs := hideP (show IsL cdB (w24.alloc (.cells #[.string ⟨#[98]⟩] 9)) (.slice (some ⟨w24.heap.size, 0, none⟩) 1 1) [⟨#[98]⟩] from lit_many cdB w24 [⟨#[98]⟩] 9)
  have g25 : Fr w24 (w24.alloc (.cells #[.string ⟨#[98]⟩] 9)) := (Fr.refl _).alloc _
  replace FW := hideP (FW.out.trans g25)
  replace HE := hideP (HE.out.fr g25)
  replace HV := hideP (HV.out.fr g25)
  clear g25
  go_wp2_with fail
  generalize (w24.alloc (.cells #[.string ⟨#[98]⟩] 9)) = w26 at *
  refine (vInt_any 7 _).mono ?_
  rintro _ w27 ⟨rfl, f27⟩
  replace FW := hideP (FW.out.trans f27)
  replace HE := hideP (HE.out.fr f27)
  replace HV := hideP (HV.out.fr f27)
  replace HCs := hideP (HCs.out.fr f27)
  clear f27
  have HR := hideP (show IsL cdV (w27.alloc (.cells #[.int .i64 1, .int .i64 7, .string ⟨#[]⟩] 26)) (.slice (some ⟨w27.heap.size, 0, none⟩) 1 1) [⟨1, 7, ⟨#[]⟩⟩] from lit_many cdV w27 [⟨1, 7, ⟨#[]⟩⟩] 26)
  have g28 : Fr w27 (w27.alloc (.cells #[.int .i64 1, .int .i64 7, .string ⟨#[]⟩] 26)) := (Fr.refl _).alloc _
  replace FW := hideP (FW.out.trans g28)
  replace HE := hideP (HE.out.fr g28)
  replace HV := hideP (HV.out.fr g28)
  replace HCs := hideP (HCs.out.fr g28)
  clear g28
  go_wp2_with fail
  generalize (w27.alloc (.cells #[.int .i64 1, .int .i64 7, .string ⟨#[]⟩] 26)) = w30 at *
  have c29 := eval_any _ _ _ bE [⟨#[98]⟩] [⟨1, 7, ⟨#[]⟩⟩] w30 HE.out HCs.out HR.out (b_nm _ (.inl rfl)) (by decide) (by intro c hc; simp only [List.mem_cons, List.not_mem_nil, or_false] at hc; subst hc; decide) (HTn.out.fr FW.out) (HT.out.fr FW.out) (b_gd _ (.inl rfl)) (by intro x hx; simp only [List.mem_cons, List.not_mem_nil, or_false] at hx; subst hx; exact HGV.out _ _ _ ⟨by decide, by decide⟩ (by decide))
  rw [bE_no] at c29
  simp only [exV, exT, vlV, EX.nul] at c29
  have C29 := hideP c29
  clear c29
  refine C29.out.mono ?_
  rintro _ w31 ⟨rfl, f31⟩
  replace FW := hideP (FW.out.trans f31)
  replace HE := hideP (HE.out.fr f31)
  replace HV := hideP (HV.out.fr f31)
  replace HCs := hideP (HCs.out.fr f31)
  replace HR := hideP (HR.out.fr f31)
  clear f31 C29
  clear HR
  clear HCs
  have g32 : Fr w31 (w31.alloc (.cells #[.int .i64 0, .int .i64 0, .string ⟨#[]⟩] 26)) := (Fr.refl _).alloc _
  replace FW := hideP (FW.out.trans g32)
  replace HE := hideP (HE.out.fr g32)
  replace HV := hideP (HV.out.fr g32)
  clear g32
  go_wp2_with fail
  generalize (w31.alloc (.cells #[.int .i64 0, .int .i64 0, .string ⟨#[]⟩] 26)) = w33 at *
  refine (fold_any _ bE _ HE.out (fun x hx => ⟨b_nm _ (.inl rfl) x hx, b_gd _ (.inl rfl) x hx⟩) (by decide) (HTn.out.fr FW.out) (HT.out.fr FW.out)).mono ?_
  rintro _ w34 ⟨⟨hne, _⟩ | ⟨_, mv, rfl, hown⟩, f34⟩
  case inl => exact absurd bE_ck hne
  replace FW := hideP (FW.out.trans f34)
  replace HE := hideP (HE.out.fr f34)
  replace HV := hideP (HV.out.fr f34)
  clear f34
  clear HE
  rw [bE_fld] at hown
  obtain ⟨ma, mc, rfl⟩ := own_slice hown
  have HM := hideP (show IsL cdN w34 (.slice ma 4 mc) bM from isL_own (E := cdN) hown)
  clear hown
  rw [show bM.length = 4 from rfl]
  go_wp2_with fail
  refine (psh_any _ bM _ HM.out (b_nm _ (.inr (.inl rfl))) (by decide) (HTn.out.fr FW.out)).mono ?_
  rintro _ w35 ⟨⟨hne, _⟩ | ⟨_, hne, _⟩ | ⟨_, _, nv, rfl, hown⟩, f35⟩
  case inl => exact absurd bM_ck hne
  case inr.inl => exact absurd (show EX.ck (EV.psh bM) = 0 by rw [bM_psh]; exact bN_ck) hne
  replace FW := hideP (FW.out.trans f35)
  replace HV := hideP (HV.out.fr f35)
  replace HM := hideP (HM.out.fr f35)
  clear f35
  rw [bM_psh] at hown
  obtain ⟨na, nc_, rfl⟩ := own_slice hown
  have HN := hideP (show IsL cdN w35 (.slice na 3 nc_) bN from isL_own (E := cdN) hown)
  clear hown
  rw [show bN.length = 3 from rfl]
  go_wp2_with fail
  refine (vText_any ⟨#[97]⟩ _).mono ?_
  rintro _ w36 ⟨rfl, f36⟩
  replace FW := hideP (FW.out.trans f36)
  replace HV := hideP (HV.out.fr f36)
  replace HM := hideP (HM.out.fr f36)
  replace HN := hideP (HN.out.fr f36)
  clear f36
  go_wp2_with fail
  refine (nLit_any 2 0 ⟨#[97]⟩ _).mono ?_
  rintro _ w37 ⟨rfl, f37⟩
  replace FW := hideP (FW.out.trans f37)
  replace HV := hideP (HV.out.fr f37)
  replace HM := hideP (HM.out.fr f37)
  replace HN := hideP (HN.out.fr f37)
  clear f37
  have HTx := hideP (show IsL cdN (w37.alloc (.cells #[.int .i64 1, .int .i64 0, .int .i64 2, .int .i64 0, .string ⟨#[97]⟩, .string ⟨#[]⟩] 38)) (.slice (some ⟨w37.heap.size, 0, none⟩) 1 1) bT from lit_many cdN w37 bT 38)
  have g38 : Fr w37 (w37.alloc (.cells #[.int .i64 1, .int .i64 0, .int .i64 2, .int .i64 0, .string ⟨#[97]⟩, .string ⟨#[]⟩] 38)) := (Fr.refl _).alloc _
  replace FW := hideP (FW.out.trans g38)
  replace HV := hideP (HV.out.fr g38)
  replace HM := hideP (HM.out.fr g38)
  replace HN := hideP (HN.out.fr g38)
  clear g38
  go_wp2_with fail
  generalize (w37.alloc (.cells #[.int .i64 1, .int .i64 0, .int .i64 2, .int .i64 0, .string ⟨#[97]⟩, .string ⟨#[]⟩] 38)) = w39 at *
  refine (nodes_any _ _ _ _).mono ?_
  rintro _ w40 ⟨rfl, rfl⟩
  go_wp2_with fail
  have c41 := truth_any _ (.slice none 0 0) (.slice none 0 0) bT [] [] w40 HTx.out (isL_nil _ _) (isL_nil _ _) (b_nm _ (.inr (.inr rfl))) (by decide) (fun c hc => by simp at hc) (HTn.out.fr FW.out) (HT.out.fr FW.out) (b_gd _ (.inr (.inr rfl))) (fun c hc => by simp at hc)
  rw [bT_tr] at c41
  simp only [exV, exT, vlV, EX.nul] at c41
  have C41 := hideP c41
  clear c41
  refine C41.out.mono ?_
  rintro _ w42 ⟨rfl, f42⟩
  replace FW := hideP (FW.out.trans f42)
  replace HV := hideP (HV.out.fr f42)
  replace HM := hideP (HM.out.fr f42)
  replace HN := hideP (HN.out.fr f42)
  replace HTx := hideP (HTx.out.fr f42)
  clear f42 C41
  clear HTx
  go_upto_region 9 with fail
  clear HTn HT HGV
  have HS : Hid (w42.cell? ⟨w18.heap.size, 0, none⟩ = some (.int .i64 1) ∧ w42.cell? ⟨w18.heap.size, 1, none⟩ = some (.int .i64 1) ∧ w42.cell? ⟨w18.heap.size, 2, none⟩ = some (.string ⟨#[]⟩)) := ⟨HV.out.cell 0 rfl, HV.out.cell 1 rfl, HV.out.cell 2 rfl⟩
  generalize w18.heap.size = bx at *
  clear HV HBs
  have hz := Fr.drew (Fr.refl w42)
  go_region_held3 (fun W => W.cell? ⟨bx, 0, none⟩ = some (.int .i64 1) ∧ W.cell? ⟨bx, 1, none⟩ = some (.int .i64 1) ∧ W.cell? ⟨bx, 2, none⟩ = some (.string ⟨#[]⟩)) (first | exact HS.out | exact s3_fr hz HS.out | exact s3_fr (hz.alloc _) HS.out) (first
    | (go_at_call 37; refine (vInt_any _ _).mono ?_; rintro _ x9 ⟨rfl, f9⟩; replace hz := hz.trans f9; clear f9)
    | (go_at_call 21; refine (nLit_any _ _ _ _).mono ?_; rintro _ x9 ⟨rfl, f9⟩; replace hz := hz.trans f9; clear f9)
    | (go_at_call 29; refine (nOp_any _ _ _).mono ?_; rintro _ x9 ⟨rfl, f9⟩; replace hz := hz.trans f9; clear f9)
    | (go_at_call 20; refine (nCol_any _ _).mono ?_; rintro _ x9 ⟨rfl, f9⟩; replace hz := hz.trans f9; clear f9)
    | (go_at_call 36; refine (nodes_fr _ _ _ _).mono ?_; rintro _ y9 ⟨rfl, f9⟩; have HL4 := hideP ((lit_many cdN _ bM 38).fr f9); replace hz := (hz.alloc _).trans f9; clear f9)
    | (go_at_call 36; refine (nodes_fr _ _ _ _).mono ?_; rintro _ y9 ⟨rfl, f9⟩; have HL3 := hideP ((lit_many cdN _ bN 38).fr f9); replace hz := (hz.alloc _).trans f9; clear f9)
    | (go_at_call 26; refine (sameNodes_eq _ _ bM _ (HM.out.fr hz) HL4.out (by decide)).mono ?_; rintro _ x9 ⟨rfl, f9⟩; replace hz := hz.trans f9; clear f9)
    | (go_at_call 26; refine (sameNodes_eq _ _ bN _ (HN.out.fr hz) HL3.out (by decide)).mono ?_; rintro _ x9 ⟨rfl, f9⟩; replace hz := hz.trans f9; clear f9))
  all_goals (go_wp2_with fail; go_ret; exact ⟨rfl, FW.out.trans hz⟩)
end Go.Proofs.YtjljohmflhmkmaaGreatDoor
