/-
  The examples that the statements on the catalog hold first are met.
-/
import Derived.Test.YtefojbfihnnpdaaDoorCtZ
namespace Go.Proofs.YtefojbfihnnpdaaDoor
open Go.ChangeShapes Go.WideShapes Go.ChangeAt Go.RowKit
set_option linter.unusedVariables false
set_option linter.unusedSimpArgs false
set_option maxRecDepth 100000
set_option maxHeartbeats 4000000

theorem catalogBegun_any (w : World) : Calls Tryd.prog 13 #[] w fun e w' => e = .returned (.bool true) ∧ Fr w w' := by
  have FW := hideP (Fr.refl w)
  go_enter Tryd.func13, Tryd.ntmps13
  go_wp2_with fail
  refine (birds_any _).mono ?_
  rintro _ w1 ⟨b1, rfl, l1, f1⟩
  replace FW := hideP (FW.out.trans f1)
  clear f1
  have L1 := hideP l1
  clear l1
  have S1 := hideP (lit_sc w1 birdS (some ⟨b1, 0, none⟩, 3, 3) L1.out)
  clear L1
  have g2 : Fr w1 (w1.alloc (.cells #[.int .i64 2, .string ⟨#[98, 105, 114, 100, 115]⟩, .slice (some ⟨b1, 0, none⟩) 3 3] 39)) := (Fr.refl _).alloc _
  replace FW := hideP (FW.out.trans g2)
  clear g2
  go_wp2_with fail
  refine (rows_good _ [birdS] _ S1.out bird_ws bird_chk).mono ?_
  rintro _ w3 ⟨ev, es, rfl, oe, hes, hcp, f3⟩
  replace FW := hideP (FW.out.trans f3)
  replace S1 := hideP (S1.out.fr f3)
  clear f3
  clear S1
  have en := oe.enC hcp
  rw [hes, bird_rows] at en
  obtain ⟨ea, ec, hee, hen⟩ := id en
  simp only [List.length_cons, List.length_nil, Nat.zero_add] at hee
  subst hee
  have HE := hideP en
  clear en hen oe hes hcp
  go_wp2_with fail
  refine (of_any _ _ _ HE.out bird_we).mono ?_
  rintro _ w4 ⟨ha, f4⟩
  replace FW := hideP (FW.out.trans f4)
  replace HE := hideP (HE.out.fr f4)
  clear f4
  rcases ha with ⟨_, mv, ps, rfl, os, hps⟩ | ⟨hne, _⟩
  case inr => exact absurd bird_of hne
  have is := os.is
  rw [hps, bird_tab] at is
  obtain ⟨ma, mn, mc, rfl⟩ := own_slice' os.own
  have HM := hideP is
  clear is os hps
  go_wp2_with fail
  refine (vText_any ⟨#[98, 105, 114, 100, 115]⟩ _).mono ?_
  rintro _ w5 ⟨rfl, f5⟩
  replace FW := hideP (FW.out.trans f5)
  replace HE := hideP (HE.out.fr f5)
  replace HM := hideP (HM.out.fr f5)
  clear f5
  go_wp2_with fail
  refine (vText_any ⟨#[49, 110, 117, 105, 100]⟩ _).mono ?_
  rintro _ w6 ⟨rfl, f6⟩
  replace FW := hideP (FW.out.trans f6)
  replace HE := hideP (HE.out.fr f6)
  replace HM := hideP (HM.out.fr f6)
  clear f6
  go_wp2_with fail
  refine (vText_any ⟨#[50, 45, 45, 110, 97, 109, 101]⟩ _).mono ?_
  rintro _ w7 ⟨rfl, f7⟩
  replace FW := hideP (FW.out.trans f7)
  replace HE := hideP (HE.out.fr f7)
  replace HM := hideP (HM.out.fr f7)
  clear f7
  go_wp2_with fail
  refine (vText_any ⟨#[48, 45, 45, 110, 111, 116, 101]⟩ _).mono ?_
  rintro _ w8 ⟨rfl, f8⟩
  replace FW := hideP (FW.out.trans f8)
  replace HE := hideP (HE.out.fr f8)
  replace HM := hideP (HM.out.fr f8)
  clear f8
  have R1 := hideP (row_blk (l := birdR) (Blk.new w8 #[.int .i64 2, .int .i64 0, .string ⟨#[98, 105, 114, 100, 115]⟩, .int .i64 2, .int .i64 0, .string ⟨#[49, 110, 117, 105, 100]⟩, .int .i64 2, .int .i64 0, .string ⟨#[50, 45, 45, 110, 97, 109, 101]⟩, .int .i64 2, .int .i64 0, .string ⟨#[48, 45, 45, 110, 111, 116, 101]⟩] 46))
  have g9 : Fr w8 (w8.alloc (.cells #[.int .i64 2, .int .i64 0, .string ⟨#[98, 105, 114, 100, 115]⟩, .int .i64 2, .int .i64 0, .string ⟨#[49, 110, 117, 105, 100]⟩, .int .i64 2, .int .i64 0, .string ⟨#[50, 45, 45, 110, 97, 109, 101]⟩, .int .i64 2, .int .i64 0, .string ⟨#[48, 45, 45, 110, 111, 116, 101]⟩] 46)) := (Fr.refl _).alloc _
  replace FW := hideP (FW.out.trans g9)
  replace HE := hideP (HE.out.fr g9)
  replace HM := hideP (HM.out.fr g9)
  clear g9
  go_wp2_with fail
  refine (entry_any 2 (some ⟨w8.heap.size, 0, none⟩) 4 4 _).mono ?_
  rintro _ w10 ⟨rfl, f10⟩
  replace FW := hideP (FW.out.trans f10)
  replace HE := hideP (HE.out.fr f10)
  replace HM := hideP (HM.out.fr f10)
  replace R1 := hideP (R1.out.fr f10)
  clear f10
  have E1 := hideP (lit_en1 w10 2 _ birdR R1.out)
  clear R1
  have g11 : Fr w10 (w10.alloc (.cells #[.int .i64 2, .slice (some ⟨w8.heap.size, 0, none⟩) 4 4] 53)) := (Fr.refl _).alloc _
  replace FW := hideP (FW.out.trans g11)
  replace HE := hideP (HE.out.fr g11)
  replace HM := hideP (HM.out.fr g11)
  clear g11
  go_wp2_with fail
  refine (entries_any _ _).mono ?_
  rintro _ w12 ⟨rfl, f12⟩
  replace FW := hideP (FW.out.trans f12)
  replace HE := hideP (HE.out.fr f12)
  replace HM := hideP (HM.out.fr f12)
  replace E1 := hideP (E1.out.fr f12)
  clear f12
  go_wp2_with fail
  refine (sameEntries_eq _ _ [(2, birdR)] _ HE.out.en E1.out (by decide) (by decide)).mono ?_
  rintro _ w13 ⟨rfl, f13⟩
  replace FW := hideP (FW.out.trans f13)
  replace HE := hideP (HE.out.fr f13)
  replace HM := hideP (HM.out.fr f13)
  replace E1 := hideP (E1.out.fr f13)
  clear f13
  clear HE
  clear E1
  go_wp2_with fail
  refine (birds_any _).mono ?_
  rintro _ w14 ⟨b14, rfl, l14, f14⟩
  replace FW := hideP (FW.out.trans f14)
  replace HM := hideP (HM.out.fr f14)
  clear f14
  have L2 := hideP l14
  clear l14
  have S2 := hideP (lit_sc w14 birdS (some ⟨b14, 0, none⟩, 3, 3) L2.out)
  clear L2
  have g15 : Fr w14 (w14.alloc (.cells #[.int .i64 2, .string ⟨#[98, 105, 114, 100, 115]⟩, .slice (some ⟨b14, 0, none⟩) 3 3] 39)) := (Fr.refl _).alloc _
  replace FW := hideP (FW.out.trans g15)
  replace HM := hideP (HM.out.fr g15)
  clear g15
  go_wp2_with fail
  refine (sameSchemas_eq _ _ [birdS] _ HM.out S2.out (by decide) (by decide)).mono ?_
  rintro _ w16 ⟨rfl, f16⟩
  replace FW := hideP (FW.out.trans f16)
  replace HM := hideP (HM.out.fr f16)
  replace S2 := hideP (S2.out.fr f16)
  clear f16
  clear HM
  clear S2
  go_wp2_with fail
  refine (birds_any _).mono ?_
  rintro _ w17 ⟨b17, rfl, l17, f17⟩
  replace FW := hideP (FW.out.trans f17)
  clear f17
  have L3 := hideP l17
  clear l17
  go_wp2_with fail
  refine (vInt_any 1 _).mono ?_
  rintro _ w18 ⟨rfl, f18⟩
  replace FW := hideP (FW.out.trans f18)
  replace L3 := hideP (L3.out.fr f18)
  clear f18
  go_wp2_with fail
  refine (vBlob_any ⟨#[120]⟩ _).mono ?_
  rintro _ w19 ⟨rfl, f19⟩
  replace FW := hideP (FW.out.trans f19)
  replace L3 := hideP (L3.out.fr f19)
  clear f19
  have RL3 := hideP (row_blk (l := fitA) (Blk.new w19 #[.int .i64 1, .int .i64 1, .string ⟨#[]⟩, .int .i64 0, .int .i64 0, .string ⟨#[]⟩, .int .i64 3, .int .i64 0, .string ⟨#[120]⟩] 46))
  have g20 : Fr w19 (w19.alloc (.cells #[.int .i64 1, .int .i64 1, .string ⟨#[]⟩, .int .i64 0, .int .i64 0, .string ⟨#[]⟩, .int .i64 3, .int .i64 0, .string ⟨#[120]⟩] 46)) := (Fr.refl _).alloc _
  replace FW := hideP (FW.out.trans g20)
  replace L3 := hideP (L3.out.fr g20)
  clear g20
  go_wp2_with fail
  refine (rowOf_any _ _).mono ?_
  rintro _ w21 ⟨rfl, f21⟩
  replace FW := hideP (FW.out.trans f21)
  replace L3 := hideP (L3.out.fr f21)
  replace RL3 := hideP (RL3.out.fr f21)
  clear f21
  have cfL3 := fits_any birdS _ _ fitA _ L3.out RL3.out bird_ws (by decide)
  rw [bird_fA] at cfL3
  go_wp2_with fail
  refine (cfL3).mono ?_
  rintro _ w22 ⟨rfl, f22⟩
  replace FW := hideP (FW.out.trans f22)
  replace L3 := hideP (L3.out.fr f22)
  replace RL3 := hideP (RL3.out.fr f22)
  clear f22
  clear cfL3
  clear L3
  clear RL3
  go_wp2_with fail
  refine (birds_any _).mono ?_
  rintro _ w23 ⟨b23, rfl, l23, f23⟩
  replace FW := hideP (FW.out.trans f23)
  clear f23
  have L4 := hideP l23
  clear l23
  have RL4 := hideP (row_blk (l := fitB) (Blk.new w23 #[.int .i64 0, .int .i64 0, .string ⟨#[]⟩, .int .i64 0, .int .i64 0, .string ⟨#[]⟩, .int .i64 0, .int .i64 0, .string ⟨#[]⟩] 46))
  have g24 : Fr w23 (w23.alloc (.cells #[.int .i64 0, .int .i64 0, .string ⟨#[]⟩, .int .i64 0, .int .i64 0, .string ⟨#[]⟩, .int .i64 0, .int .i64 0, .string ⟨#[]⟩] 46)) := (Fr.refl _).alloc _
  replace FW := hideP (FW.out.trans g24)
  replace L4 := hideP (L4.out.fr g24)
  clear g24
  go_wp2_with fail
  refine (rowOf_any _ _).mono ?_
  rintro _ w25 ⟨rfl, f25⟩
  replace FW := hideP (FW.out.trans f25)
  replace L4 := hideP (L4.out.fr f25)
  replace RL4 := hideP (RL4.out.fr f25)
  clear f25
  have cfL4 := fits_any birdS _ _ fitB _ L4.out RL4.out bird_ws (by decide)
  rw [bird_fB] at cfL4
  go_wp2_with fail
  refine (cfL4).mono ?_
  rintro _ w26 ⟨rfl, f26⟩
  replace FW := hideP (FW.out.trans f26)
  replace L4 := hideP (L4.out.fr f26)
  replace RL4 := hideP (RL4.out.fr f26)
  clear f26
  clear cfL4
  clear L4
  clear RL4
  go_wp2_with fail
  refine (birds_any _).mono ?_
  rintro _ w27 ⟨b27, rfl, l27, f27⟩
  replace FW := hideP (FW.out.trans f27)
  clear f27
  have L5 := hideP l27
  clear l27
  go_wp2_with fail
  refine (vInt_any 1 _).mono ?_
  rintro _ w28 ⟨rfl, f28⟩
  replace FW := hideP (FW.out.trans f28)
  replace L5 := hideP (L5.out.fr f28)
  clear f28
  go_wp2_with fail
  refine (vInt_any 2 _).mono ?_
  rintro _ w29 ⟨rfl, f29⟩
  replace FW := hideP (FW.out.trans f29)
  replace L5 := hideP (L5.out.fr f29)
  clear f29
  have RL5 := hideP (row_blk (l := fitC) (Blk.new w29 #[.int .i64 1, .int .i64 1, .string ⟨#[]⟩, .int .i64 1, .int .i64 2, .string ⟨#[]⟩, .int .i64 0, .int .i64 0, .string ⟨#[]⟩] 46))
  have g30 : Fr w29 (w29.alloc (.cells #[.int .i64 1, .int .i64 1, .string ⟨#[]⟩, .int .i64 1, .int .i64 2, .string ⟨#[]⟩, .int .i64 0, .int .i64 0, .string ⟨#[]⟩] 46)) := (Fr.refl _).alloc _
  replace FW := hideP (FW.out.trans g30)
  replace L5 := hideP (L5.out.fr g30)
  clear g30
  go_wp2_with fail
  refine (rowOf_any _ _).mono ?_
  rintro _ w31 ⟨rfl, f31⟩
  replace FW := hideP (FW.out.trans f31)
  replace L5 := hideP (L5.out.fr f31)
  replace RL5 := hideP (RL5.out.fr f31)
  clear f31
  have cfL5 := fits_any birdS _ _ fitC _ L5.out RL5.out bird_ws (by decide)
  rw [bird_fC] at cfL5
  go_wp2_with fail
  refine (cfL5).mono ?_
  rintro _ w32 ⟨rfl, f32⟩
  replace FW := hideP (FW.out.trans f32)
  replace L5 := hideP (L5.out.fr f32)
  replace RL5 := hideP (RL5.out.fr f32)
  clear f32
  clear cfL5
  clear L5
  clear RL5
  go_wp2_with fail
  refine (birds_any _).mono ?_
  rintro _ w33 ⟨b33, rfl, l33, f33⟩
  replace FW := hideP (FW.out.trans f33)
  clear f33
  have L6 := hideP l33
  clear l33
  go_wp2_with fail
  refine (birds_any _).mono ?_
  rintro _ w34 ⟨b34, rfl, l34, f34⟩
  replace FW := hideP (FW.out.trans f34)
  replace L6 := hideP (L6.out.fr f34)
  clear f34
  have L7 := hideP l34
  clear l34
  have S9 := hideP (lit_sc2 w34 birdS birdS (some ⟨b33, 0, none⟩, 3, 3) (some ⟨b34, 0, none⟩, 3, 3) L6.out L7.out)
  clear L6
  clear L7
  have g35 : Fr w34 (w34.alloc (.cells #[.int .i64 2, .string ⟨#[98, 105, 114, 100, 115]⟩, .slice (some ⟨b33, 0, none⟩) 3 3, .int .i64 2, .string ⟨#[98, 105, 114, 100, 115]⟩, .slice (some ⟨b34, 0, none⟩) 3 3] 39)) := (Fr.refl _).alloc _
  replace FW := hideP (FW.out.trans g35)
  clear g35
  have cz := ccheck_any _ [birdS, birdS] _ S9.out bird_ws2
  rw [bird_two] at cz
  go_wp2_with fail
  refine (cz).mono ?_
  rintro _ w36 ⟨rfl, f36⟩
  replace FW := hideP (FW.out.trans f36)
  replace S9 := hideP (S9.out.fr f36)
  clear f36
  go_wp2_with fail
  go_ret
  exact ⟨rfl, FW.out⟩
end Go.Proofs.YtefojbfihnnpdaaDoor
