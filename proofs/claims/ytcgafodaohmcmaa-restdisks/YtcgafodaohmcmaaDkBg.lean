/-
  diskBegun is true.
-/
import Derived.Test.YtcgafodaohmcmaaDkV
namespace Go.Proofs.Ytcgafodaohmcmaa
open Go.ChangeShapes Go.WideShapes Go.ChangeAt Go.RowKit
set_option linter.unusedVariables false
set_option linter.unusedSimpArgs false
set_option maxRecDepth 100000

namespace JN
def dA : D := ⟨[⟨#[97]⟩, ⟨#[]⟩, ⟨#[99]⟩], []⟩
def dX : D := ⟨[⟨#[97]⟩, ⟨#[]⟩, ⟨#[99]⟩], [⟨2, ⟨#[]⟩⟩]⟩
def dY : D := ⟨[⟨#[97]⟩, ⟨#[]⟩, ⟨#[99]⟩], [⟨2, ⟨#[]⟩⟩, ⟨5, ⟨#[102]⟩⟩]⟩
def dZ : D := ⟨[⟨#[97]⟩], []⟩
def dU : D := ⟨[⟨#[97]⟩, ⟨#[]⟩, ⟨#[]⟩, ⟨#[]⟩, ⟨#[]⟩, ⟨#[102]⟩], []⟩
theorem eX : writeD dA 2 ⟨#[]⟩ = (dX, 0) := by rfl
theorem eY : writeD dX 5 ⟨#[102]⟩ = (dY, 0) := by rfl
theorem eS : readD dY 2 = (⟨#[]⟩, 0) := by rfl
theorem eT : readD dY 5 = (⟨#[102]⟩, 0) := by rfl
theorem eZ : crashD dY (bits 1) = (dZ, 0) := by rfl
theorem eU : crashD dY all = (dU, 0) := by rfl
theorem eK : writeD dA 32 ⟨#[]⟩ = (none, 3) := by rfl
end JN
set_option maxHeartbeats 4000000 in
theorem diskBegun_any (w : World) : Calls Try.prog 8 #[] w fun e w' => e = .returned (.bool true) ∧ Fr w w' := by
  have NV := DV.new (lit_disk w [⟨#[97]⟩, ⟨#[]⟩, ⟨#[99]⟩])
  rw [World.size_alloc] at NV
  have VA : Hid (DV ((w.alloc (.cells #[.string ⟨#[97]⟩, .string ⟨#[]⟩, .string ⟨#[99]⟩] 9)).alloc (.cells #[.slice (some ⟨w.heap.size, 0, none⟩) 3 3, .slice none 0 0] 25)) (w.heap.size + 1) (.slice (some ⟨w.heap.size, 0, none⟩) 3 3) (.slice none 0 0) JN.dA) := NV
  have HF : Hid (Fr w ((w.alloc (.cells #[.string ⟨#[97]⟩, .string ⟨#[]⟩, .string ⟨#[99]⟩] 9)).alloc (.cells #[.slice (some ⟨w.heap.size, 0, none⟩) 3 3, .slice none 0 0] 25))) := ((Fr.refl w).alloc _).alloc _
  clear NV
  go_enter Try.func8, Try.ntmps8
  obtain ⟨kA0, kA1, _, _⟩ := VA.out.b.two
  have c1 := write_any _ _ JN.dA 2 ⟨#[]⟩ ((w.alloc (.cells #[.string ⟨#[97]⟩, .string ⟨#[]⟩, .string ⟨#[99]⟩] 9)).alloc (.cells #[.slice (some ⟨w.heap.size, 0, none⟩) 3 3, .slice none 0 0] 25)) VA.out.d (by decide)
  rw [JN.eX] at c1
  go_wp2_with fail
  refine c1.mono ?_
  rintro _ w1 ⟨pX, qX, rfl, oX, f1⟩
  obtain ⟨aX, nX, dX, rfl⟩ := own_slice' oX.pg
  obtain ⟨eX, mX, hX, rfl⟩ := own_slice' oX.wt
  clear c1
  clear kA0 kA1
  have NV := DV.new oX.is
  have g1 : Fr ((w.alloc (.cells #[.string ⟨#[97]⟩, .string ⟨#[]⟩, .string ⟨#[99]⟩] 9)).alloc (.cells #[.slice (some ⟨w.heap.size, 0, none⟩) 3 3, .slice none 0 0] 25)) (w1.alloc (.cells #[.slice aX nX dX, .slice eX mX hX] 25)) := f1.alloc _
  have VA := hideP (VA.out.fr g1)
  have HF := hideP (HF.out.trans g1)
  have VX := hideP NV
  clear NV g1 f1
  have OX := hideP oX
  clear oX
  obtain ⟨kX0, kX1, _, _⟩ := VX.out.b.two
  have c2 := write_any _ _ JN.dX 5 ⟨#[102]⟩ (w1.alloc (.cells #[.slice aX nX dX, .slice eX mX hX] 25)) VX.out.d (by decide)
  rw [JN.eY] at c2
  go_wp2_with fail
  refine c2.mono ?_
  rintro _ w2 ⟨pY, qY, rfl, oY, f2⟩
  obtain ⟨aY, nY, dY, rfl⟩ := own_slice' oY.pg
  obtain ⟨eY, mY, hY, rfl⟩ := own_slice' oY.wt
  clear c2
  clear kX0 kX1
  have NV := DV.new oY.is
  have g2 : Fr (w1.alloc (.cells #[.slice aX nX dX, .slice eX mX hX] 25)) (w2.alloc (.cells #[.slice aY nY dY, .slice eY mY hY] 25)) := f2.alloc _
  have VA := hideP (VA.out.fr g2)
  have VX := hideP (VX.out.fr g2)
  have HF := hideP (HF.out.trans g2)
  have VY := hideP NV
  clear NV g2 f2
  have OY := hideP oY
  clear oY
  obtain ⟨kY0, kY1, _, _⟩ := VY.out.b.two
  have c3 := read_any _ _ JN.dY 2 (w2.alloc (.cells #[.slice aY nY dY, .slice eY mY hY] 25)) VY.out.d (by decide)
  rw [JN.eS] at c3
  go_wp2_with fail
  refine c3.mono ?_
  rintro _ w3 ⟨rfl, f3⟩
  clear c3
  clear kY0 kY1
  have VA := hideP (VA.out.fr f3)
  have VX := hideP (VX.out.fr f3)
  have VY := hideP (VY.out.fr f3)
  have HF := hideP (HF.out.trans f3)
  clear f3
  obtain ⟨kY0, kY1, _, _⟩ := VY.out.b.two
  have c4 := read_any _ _ JN.dY 5 w3 VY.out.d (by decide)
  rw [JN.eT] at c4
  go_wp2_with fail
  refine c4.mono ?_
  rintro _ w4 ⟨rfl, f4⟩
  clear c4
  clear kY0 kY1
  have VA := hideP (VA.out.fr f4)
  have VX := hideP (VX.out.fr f4)
  have VY := hideP (VY.out.fr f4)
  have HF := hideP (HF.out.trans f4)
  clear f4
  obtain ⟨kY0, kY1, _, _⟩ := VY.out.b.two
  have c5 := crash_any _ _ JN.dY 1 w4 VY.out.d (by decide) (by decide)
  rw [JN.eZ] at c5
  go_wp2_with fail
  refine c5.mono ?_
  rintro _ w5 ⟨pZ, qZ, rfl, oZ, f5⟩
  obtain ⟨aZ, nZ, dZ, rfl⟩ := own_slice' oZ.pg
  obtain ⟨eZ, mZ, hZ, rfl⟩ := own_slice' oZ.wt
  clear c5
  clear kY0 kY1
  have NV := DV.new oZ.is
  have g5 : Fr w4 (w5.alloc (.cells #[.slice aZ nZ dZ, .slice eZ mZ hZ] 25)) := f5.alloc _
  have VA := hideP (VA.out.fr g5)
  have VX := hideP (VX.out.fr g5)
  have VY := hideP (VY.out.fr g5)
  have HF := hideP (HF.out.trans g5)
  have VZ := hideP NV
  clear NV g5 f5
  have OZ := hideP oZ
  clear oZ
  obtain ⟨kY0, kY1, _, _⟩ := VY.out.b.two
  have c6 := sync_any _ _ JN.dY (w5.alloc (.cells #[.slice aZ nZ dZ, .slice eZ mZ hZ] 25)) VY.out.d (by decide)
  rw [JN.eU] at c6
  go_wp2_with fail
  refine c6.mono ?_
  rintro _ w6 ⟨pU, qU, rfl, oU, f6⟩
  obtain ⟨aU, nU, dU, rfl⟩ := own_slice' oU.pg
  obtain ⟨eU, mU, hU, rfl⟩ := own_slice' oU.wt
  clear c6
  clear kY0 kY1
  have NV := DV.new oU.is
  have g6 : Fr (w5.alloc (.cells #[.slice aZ nZ dZ, .slice eZ mZ hZ] 25)) (w6.alloc (.cells #[.slice aU nU dU, .slice eU mU hU] 25)) := f6.alloc _
  have VA := hideP (VA.out.fr g6)
  have VX := hideP (VX.out.fr g6)
  have VY := hideP (VY.out.fr g6)
  have VZ := hideP (VZ.out.fr g6)
  have HF := hideP (HF.out.trans g6)
  have VU := hideP NV
  clear NV g6 f6
  have OU := hideP oU
  clear oU
  obtain ⟨kA0, kA1, _, _⟩ := VA.out.b.two
  have c7 := write_any _ _ JN.dA 32 ⟨#[]⟩ (w6.alloc (.cells #[.slice aU nU dU, .slice eU mU hU] 25)) VA.out.d (by decide)
  rw [JN.eK] at c7
  go_wp2_with fail
  refine c7.mono ?_
  rintro _ w7 ⟨pK, qK, rfl, oK, f7⟩
  obtain ⟨aK, nK, dK, rfl⟩ := own_slice' oK.pg
  obtain ⟨eK, mK, hK, rfl⟩ := own_slice' oK.wt
  clear c7
  clear kA0 kA1
  have NV := DV.new oK.is
  have g7 : Fr (w6.alloc (.cells #[.slice aU nU dU, .slice eU mU hU] 25)) (w7.alloc (.cells #[.slice aK nK dK, .slice eK mK hK] 25)) := f7.alloc _
  have VA := hideP (VA.out.fr g7)
  have VX := hideP (VX.out.fr g7)
  have VY := hideP (VY.out.fr g7)
  have VZ := hideP (VZ.out.fr g7)
  have VU := hideP (VU.out.fr g7)
  have HF := hideP (HF.out.trans g7)
  have VK := hideP NV
  clear NV g7 f7
  have OK := hideP oK
  clear oK
  obtain ⟨kZ0, kZ1, _, _⟩ := VZ.out.b.two
  have D8 : IsD ((w7.alloc (.cells #[.slice aK nK dK, .slice eK mK hK] 25)).alloc (.cells #[.string ⟨#[97]⟩] 9)) (.slice (some ⟨(w7.alloc (.cells #[.slice aK nK dK, .slice eK mK hK] 25)).heap.size, 0, none⟩) 1 1) (.slice none 0 0) JN.dZ := lit_disk (w7.alloc (.cells #[.slice aK nK dK, .slice eK mK hK] 25)) [⟨#[97]⟩]
  rw [World.size_alloc] at D8
  have g8 : Fr (w7.alloc (.cells #[.slice aK nK dK, .slice eK mK hK] 25)) ((w7.alloc (.cells #[.slice aK nK dK, .slice eK mK hK] 25)).alloc (.cells #[.string ⟨#[97]⟩] 9)) := (Fr.refl _).alloc _
  have c8 := sameDisk_eq _ _ _ _ JN.dZ ((w7.alloc (.cells #[.slice aK nK dK, .slice eK mK hK] 25)).alloc (.cells #[.string ⟨#[97]⟩] 9)) (VZ.out.d.fr g8) D8 (by decide) (by decide)
  go_wp2_with fail
  refine c8.mono ?_
  rintro _ w8 ⟨rfl, f8⟩
  clear c8 D8
  clear kZ0 kZ1
  have VA := hideP (VA.out.fr (g8.trans f8))
  have VX := hideP (VX.out.fr (g8.trans f8))
  have VY := hideP (VY.out.fr (g8.trans f8))
  have VZ := hideP (VZ.out.fr (g8.trans f8))
  have VU := hideP (VU.out.fr (g8.trans f8))
  have VK := hideP (VK.out.fr (g8.trans f8))
  have HF := hideP (HF.out.trans (g8.trans f8))
  clear f8 g8
  obtain ⟨kU0, kU1, _, _⟩ := VU.out.b.two
  have D9 : IsD (w8.alloc (.cells #[.string ⟨#[97]⟩, .string ⟨#[]⟩, .string ⟨#[]⟩, .string ⟨#[]⟩, .string ⟨#[]⟩, .string ⟨#[102]⟩] 9)) (.slice (some ⟨w8.heap.size, 0, none⟩) 6 6) (.slice none 0 0) JN.dU := lit_disk w8 [⟨#[97]⟩, ⟨#[]⟩, ⟨#[]⟩, ⟨#[]⟩, ⟨#[]⟩, ⟨#[102]⟩]
  have g9 : Fr w8 (w8.alloc (.cells #[.string ⟨#[97]⟩, .string ⟨#[]⟩, .string ⟨#[]⟩, .string ⟨#[]⟩, .string ⟨#[]⟩, .string ⟨#[102]⟩] 9)) := (Fr.refl _).alloc _
  have c9 := sameDisk_eq _ _ _ _ JN.dU (w8.alloc (.cells #[.string ⟨#[97]⟩, .string ⟨#[]⟩, .string ⟨#[]⟩, .string ⟨#[]⟩, .string ⟨#[]⟩, .string ⟨#[102]⟩] 9)) (VU.out.d.fr g9) D9 (by decide) (by decide)
  go_wp2_with fail
  refine c9.mono ?_
  rintro _ w9 ⟨rfl, f9⟩
  clear c9 D9
  clear kU0 kU1
  have VA := hideP (VA.out.fr (g9.trans f9))
  have VX := hideP (VX.out.fr (g9.trans f9))
  have VY := hideP (VY.out.fr (g9.trans f9))
  have VZ := hideP (VZ.out.fr (g9.trans f9))
  have VU := hideP (VU.out.fr (g9.trans f9))
  have VK := hideP (VK.out.fr (g9.trans f9))
  have HF := hideP (HF.out.trans (g9.trans f9))
  clear f9 g9
  go_wp2_with fail
  go_ret
  exact ⟨rfl, HF.out⟩
end Go.Proofs.Ytcgafodaohmcmaa
