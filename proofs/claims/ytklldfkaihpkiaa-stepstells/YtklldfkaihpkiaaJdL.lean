/-
  journalBegun is true.
-/
import Derived.Test.YtklldfkaihpkiaaJdK
import Derived.Deep.DeepCutAuto
import Derived.Deep.CutRange
namespace Go.Proofs.Ytklldfkaihpkiaa
open Go.ChangeShapes Go.WideShapes Go.ChangeAt Go.RowKit
set_option linter.unusedVariables false
set_option linter.unusedSimpArgs false
set_option maxRecDepth 100000

theorem lit_writes (W : World) (l : List JN.W) : IsL cdW (W.alloc (.cells (flat cdW l).toArray 43)) (.slice (some ⟨W.heap.size, 0, none⟩) l.length l.length) l := by
  refine ⟨_, _, rfl, Nat.le_refl _, ?_⟩
  right
  refine ⟨_, _, rfl, by simp, ?_⟩
  intro j u hj
  rw [Nat.zero_add]
  exact (Blk.new W (flat cdW l).toArray 43).cell j (by simpa using hj)
theorem sv_set {W w4 w5 : World} {N : Nat} {p q P Q : Value} {s : JN.S} (h4 : Fr W w4) (hn : Blk w4 N #[.slice none 0 0, .slice none 0 0, .slice none 0 0, .slice none 0 0] 46) (hN : W.heap.size ≤ N) (f5 : Fr w4 w5) (hs : IsS w5 p q P Q s) (x : NewD w4.heap.size p q) (y : NewD w4.heap.size P Q) : SV (pt4 w5 N p q P Q) N p q P Q s ∧ Fr W (pt4 w5 N p q P Q) :=
  ⟨⟨(hn.fr f5).put4 _ _ _ _, ⟨hs.1.put4 (x.off hn.lt) _ _ _ _, hs.2.put4 (y.off hn.lt) _ _ _ _⟩⟩, (h4.trans f5).put4 _ hN _ _ _ _⟩
set_option maxHeartbeats 20000000 in
theorem journalBegun_any (w : World) : Calls Try.prog 31 #[] w fun e w' => e = .returned (.bool true) ∧ Fr w w' := by
  obtain ⟨W0, hW0⟩ : ∃ W0, ((w.alloc (.cells #[.string ⟨#[97]⟩, .string ⟨#[98]⟩] 9)).alloc (.cells #[.slice (some ⟨w.heap.size, 0, none⟩) 2 2, .slice none 0 0, .slice none 0 0, .slice none 0 0] 46)) = W0 := ⟨_, rfl⟩
  have VS : Hid (SV W0 (w.heap.size + 1) (.slice (some ⟨w.heap.size, 0, none⟩) 2 2) (.slice none 0 0) (.slice none 0 0) (.slice none 0 0) JN.s0) := by
    have NV := SV.new (s := JN.s0) ⟨lit_disk w [⟨#[97]⟩, ⟨#[98]⟩], isD_none _⟩
    rw [World.size_alloc] at NV
    rw [← hW0]; exact NV
  have HF : Hid (Fr w W0) := by rw [← hW0]; exact ((Fr.refl w).alloc _).alloc _
  have hS : W0.cell? ⟨w.heap.size + 1, 0, none⟩ = some (.slice (some ⟨w.heap.size, 0, none⟩) 2 2) ∧ W0.cell? ⟨w.heap.size + 1, 1, none⟩ = some (.slice none 0 0) ∧ W0.cell? ⟨w.heap.size + 1, 2, none⟩ = some (.slice none 0 0) ∧ W0.cell? ⟨w.heap.size + 1, 3, none⟩ = some (.slice none 0 0) := by
    obtain ⟨k0, k1, k2, k3, _, _, _, _⟩ := VS.out.b.four
    exact ⟨k0, k1, k2, k3⟩
  have HS := hideP hS
  have HW := hideP hW0
  have hz := Fr.drew (Fr.refl W0)
  have cst := fun W (f : Fr W0 W) v (h : IsL cdW W v JN.l0) => steps_any _ _ _ _ v JN.s0 JN.l0 W (VS.out.s.fr f) h (by decide) (by decide)
  rw [JN.e_steps] at cst
  have CS := hideP cst
  clear hS hW0 cst
  go_enter Try.func31, Try.ntmps31
  go_upto_region 2 with fail
  rw [HW.out]
  go_cut [2, 3] from 13 to 20 (fun s2 s3 wx => ∃ a c, s2 = .slice a 10 c ∧ s3 = .int .i64 0 ∧ IsL cdO wx (.slice a 10 c) JN.o0 ∧ Fr W0 wx)
  case first =>
    go_region_held3 (fun W => W.cell? ⟨w.heap.size + 1, 0, none⟩ = some (.slice (some ⟨w.heap.size, 0, none⟩) 2 2) ∧ W.cell? ⟨w.heap.size + 1, 1, none⟩ = some (.slice none 0 0) ∧ W.cell? ⟨w.heap.size + 1, 2, none⟩ = some (.slice none 0 0) ∧ W.cell? ⟨w.heap.size + 1, 3, none⟩ = some (.slice none 0 0)) (first | exact HS.out | assumption | exact s4_after hz HS.out | exact s4_after (Fr.alloc (Fr.refl _) _) (by assumption) | exact s4_after (by assumption) (by assumption)) (first
      | (go_at_call 44; refine (lwrite_any _ _ _).mono ?_; rintro _ w2 ⟨rfl, f2⟩)
      | (go_at_call 29; refine (CS.out _ (by first | exact Fr.alloc (Fr.after (by assumption) (Fr.after (by assumption) hz)) _) _ (lit_writes _ JN.l0)).mono ?_; rintro _ w4 ⟨v4, rfl, ho4, f4⟩; obtain ⟨a4, c4, rfl⟩ := own_slice ho4; have HO4 := hideP ho4; clear ho4))
    all_goals (go_wp2_with fail; go_meet)
    all_goals first
      | exact ⟨a4, c4, by rw [JN.o0_len], rfl, (JN.o0_len ▸ isL_own HO4.out), Fr.after f4 (Fr.alloc (Fr.after (by assumption) (Fr.after (by assumption) hz)) _)⟩
  case rest =>
    obtain ⟨a2, c2, rfl, rfl, hl2, hf2⟩ := hcut
    have LO := hideP hl2
    replace VS := hideP (VS.out.fr hf2)
    replace HF := hideP (HF.out.trans hf2)
    have hcap0 : 10 ≤ c2 := by have := hl2.cap.2; rw [JN.o0_len] at this; exact this
    have hcap : (5 : Int) ≤ (c2 : Int) := by omega
    have hcap5 : 5 ≤ c2 := by omega
    have hmin : min (5 : Int) 10 = 5 := by decide
    clear hcap0
    have cp := fun W (f : Fr wc W) => play_any _ _ _ _ (.slice a2 5 c2) JN.s0 (JN.o0.take 5) W (VS.out.s.fr f) ((LO.out.upto 5 (by rw [JN.o0_len]; decide)).fr f) (by decide) (by decide)
    rw [JN.e_t] at cp
    have CP := hideP cp
    have HS3 := hideP (show wc.cell? ⟨w.heap.size + 1, 0, none⟩ = some (.slice (some ⟨w.heap.size, 0, none⟩) 2 2) ∧ wc.cell? ⟨w.heap.size + 1, 1, none⟩ = some (.slice none 0 0) ∧ wc.cell? ⟨w.heap.size + 1, 2, none⟩ = some (.slice none 0 0) ∧ wc.cell? ⟨w.heap.size + 1, 3, none⟩ = some (.slice none 0 0) from by
      obtain ⟨k0, k1, k2, k3, _, _, _, _⟩ := VS.out.b.four
      exact ⟨k0, k1, k2, k3⟩)
    have hlt0 : w.heap.size + 1 < wc.heap.size := VS.out.b.lt
    clear hl2 hf2 hz cp
    have hz := Fr.drew (Fr.refl wc)
    have hy := Fr.drew (Fr.alloc (Fr.refl wc) (.cells #[.slice none 0 0, .slice none 0 0, .slice none 0 0, .slice none 0 0] 46))
    go_upto_region 3 with fail
    go_cut [4, 5] from 21 to 30 (fun s4 s5 wx => ∃ N p q P Q, s4 = .pointer (some ⟨N, 0, none⟩) ∧ s5 = .int .i64 0 ∧ SV wx N p q P Q JN.t0 ∧ Fr wc wx)
    case first =>
      go_region_held3 (fun W => W.cell? ⟨w.heap.size + 1, 0, none⟩ = some (.slice (some ⟨w.heap.size, 0, none⟩) 2 2) ∧ W.cell? ⟨w.heap.size + 1, 1, none⟩ = some (.slice none 0 0) ∧ W.cell? ⟨w.heap.size + 1, 2, none⟩ = some (.slice none 0 0) ∧ W.cell? ⟨w.heap.size + 1, 3, none⟩ = some (.slice none 0 0)) (first | exact HS3.out | assumption | exact s4_after hz HS3.out | exact s4_after (Fr.alloc hz _) HS3.out | exact s4_after hy HS3.out | exact s4_after (Fr.after f5 hz) HS3.out | exact s4_after (Fr.after f5 hy) HS3.out | exact s4_after (Fr.after f5 (Fr.alloc hz _)) HS3.out | exact s4_after (Fr.alloc (Fr.after f5 hz) _) HS3.out | exact s4_set4 HS3.out (Fr.after f5 (Fr.alloc hz _)) (by omega) | exact s4_set4 HS3.out (Fr.after f5 hy) (by omega)) (first
        | (go_at_call 35; refine (CP.out _ (by first | exact hz | exact Fr.alloc hz _ | exact hy)).mono ?_; rintro _ w5 ⟨p5, q5, P5, Q5, rfl, hs5, hx5, hy5, f5⟩; obtain ⟨b1, n1, d1, rfl⟩ := hs5.1.1.slice; obtain ⟨b2, n2, d2, rfl⟩ := hs5.1.2.slice; obtain ⟨b3, n3, d3, rfl⟩ := hs5.2.1.slice; obtain ⟨b4, n4, d4, rfl⟩ := hs5.2.2.slice; have HS5 := hideP hs5; have HX5 := hideP hx5; have HY5 := hideP hy5; clear hs5 hx5 hy5; (first | (have HN5 : Hid (Blk w5 wc.heap.size #[.slice none 0 0, .slice none 0 0, .slice none 0 0, .slice none 0 0] 46) := (Blk.new wc.drew #[.slice none 0 0, .slice none 0 0, .slice none 0 0, .slice none 0 0] 46).fr f5) | (have HN5 : Hid (Blk w5 wc.heap.size #[.slice none 0 0, .slice none 0 0, .slice none 0 0, .slice none 0 0] 46) := ((Blk.new wc #[.slice none 0 0, .slice none 0 0, .slice none 0 0, .slice none 0 0] 46).fr (Fr.drew (Fr.refl _))).fr f5) | skip); (first | (obtain ⟨g0, g1, g2, g3, y0, y1, y2, y3⟩ := HN5.out.four) | skip)))
      all_goals (go_wp2_with fail; go_meet)
      all_goals first
        | exact ⟨_, _, _, _, _, rfl, rfl, SV.new HS5.out, Fr.alloc (Fr.after f5 hz) _⟩
        | exact ⟨_, _, _, _, _, rfl, rfl, sv_set (Fr.alloc hz _) (Blk.new wc.drew #[.slice none 0 0, .slice none 0 0, .slice none 0 0, .slice none 0 0] 46) (Nat.le_refl _) f5 HS5.out HX5.out HY5.out⟩
        | exact ⟨_, _, _, _, _, rfl, rfl, sv_set hy ((Blk.new wc #[.slice none 0 0, .slice none 0 0, .slice none 0 0, .slice none 0 0] 46).fr (Fr.drew (Fr.refl _))) (Nat.le_refl _) f5 HS5.out HX5.out HY5.out⟩
    case rest =>
      obtain ⟨N, pT, qT, PT, QT, rfl, rfl, vT, f3⟩ := hcut
      replace VS := hideP (VS.out.fr f3)
      replace HF := hideP (HF.out.trans f3)
      replace LO := hideP (LO.out.fr f3)
      obtain ⟨aT, nT, dT, rfl⟩ := vT.s.1.1.slice
      obtain ⟨eT, mT, hT, rfl⟩ := vT.s.1.2.slice
      obtain ⟨AT, NT, CT, rfl⟩ := vT.s.2.1.slice
      obtain ⟨ET, MT, GT, rfl⟩ := vT.s.2.2.slice
      have VT := hideP vT
      clear vT f3 CP HS3 hz hy
      have D11 : IsD (wc.alloc (.cells #[.string ⟨#[97]⟩, .string ⟨#[66]⟩] 9)) (.slice (some ⟨wc.heap.size, 0, none⟩) 2 2) (.slice none 0 0) ⟨[⟨#[97]⟩, ⟨#[66]⟩], []⟩ := lit_disk wc [⟨#[97]⟩, ⟨#[66]⟩]
      have g11 : Fr wc (wc.alloc (.cells #[.string ⟨#[97]⟩, .string ⟨#[66]⟩] 9)) := (Fr.refl _).alloc _
      obtain ⟨i0, i1, i2, i3, _, _, _, _⟩ := (VT.out.fr g11).b.four
      obtain ⟨kT0, kT1, kT2, kT3, _, _, _, _⟩ := VT.out.b.four
      have c11 := recover_any _ _ _ _ JN.s1 (wc.alloc (.cells #[.string ⟨#[97]⟩, .string ⟨#[66]⟩] 9)) ⟨D11, (VT.out.s.fr g11).2⟩ JN.s1_len.1 JN.s1_len.2
      rw [JN.e_u] at c11
      go_wp2_with fail
      refine c11.mono ?_
      rintro _ w11 ⟨pU, qU, PU, QU, rfl, sU, xU, yU, f11⟩
      clear c11
      clear kT0 kT1 kT2 kT3
      obtain ⟨aU, nU, dU, rfl⟩ := sU.1.1.slice
      obtain ⟨eU, mU, hU, rfl⟩ := sU.1.2.slice
      obtain ⟨AU, NU, CU, rfl⟩ := sU.2.1.slice
      obtain ⟨EU, MU, GU, rfl⟩ := sU.2.2.slice
      have NV := SV.new sU
      have j11 : Fr wc (w11.alloc (.cells #[.slice aU nU dU, .slice eU mU hU, .slice AU NU CU, .slice EU MU GU] 46)) := (g11.trans f11).alloc _
      replace VS := hideP (VS.out.fr j11)
      replace VT := hideP (VT.out.fr j11)
      replace LO := hideP (LO.out.fr j11)
      replace HF := hideP (HF.out.trans j11)
      have VU := hideP NV
      clear NV j11 f11 sU xU yU
      clear D11 g11 i0 i1 i2 i3
      obtain ⟨kS0, kS1, kS2, kS3, _, _, _, _⟩ := VS.out.b.four
      have c12 := play_any _ _ _ _ (.slice a2 10 c2) JN.s0 JN.o0 (w11.alloc (.cells #[.slice aU nU dU, .slice eU mU hU, .slice AU NU CU, .slice EU MU GU] 46)) VS.out.s LO.out (by decide) (by decide)
      rw [JN.e_v] at c12
      go_wp2_with fail
      refine c12.mono ?_
      rintro _ w12 ⟨pX, qX, PX, QX, rfl, sX, xX, yX, f12⟩
      clear c12
      clear kS0 kS1 kS2 kS3
      obtain ⟨aX, nX, dX, rfl⟩ := sX.1.1.slice
      obtain ⟨eX, mX, hX, rfl⟩ := sX.1.2.slice
      obtain ⟨AX, NX, CX, rfl⟩ := sX.2.1.slice
      obtain ⟨EX, MX, GX, rfl⟩ := sX.2.2.slice
      have NV := SV.new sX
      have g12 : Fr (w11.alloc (.cells #[.slice aU nU dU, .slice eU mU hU, .slice AU NU CU, .slice EU MU GU] 46)) (w12.alloc (.cells #[.slice aX nX dX, .slice eX mX hX, .slice AX NX CX, .slice EX MX GX] 46)) := f12.alloc _
      replace VS := hideP (VS.out.fr g12)
      replace VT := hideP (VT.out.fr g12)
      replace VU := hideP (VU.out.fr g12)
      replace LO := hideP (LO.out.fr g12)
      replace HF := hideP (HF.out.trans g12)
      have VX := hideP NV
      have XX := hideP xX
      have YX := hideP yX
      clear NV g12 f12 sX xX yX
      obtain ⟨bO, oO, hO, z0, z1, z2⟩ : ∃ b o, a2 = some ⟨b, o, none⟩ ∧ (w12.alloc (.cells #[.slice aX nX dX, .slice eX mX hX, .slice AX NX CX, .slice EX MX GX] 46)).cell? ⟨b, o, none⟩ = some (.int .i64 2) ∧ (w12.alloc (.cells #[.slice aX nX dX, .slice eX mX hX, .slice AX NX CX, .slice EX MX GX] 46)).cell? ⟨b, o + 1, none⟩ = some (.int .i64 1) ∧ (w12.alloc (.cells #[.slice aX nX dX, .slice eX mX hX, .slice AX NX CX, .slice EX MX GX] 46)).cell? ⟨b, o + 2, none⟩ = some (.string ⟨#[0, 1, 98]⟩) := by
        obtain ⟨_, _, e, _, hh⟩ := LO.out
        simp only [Value.slice.injEq] at e
        obtain ⟨rfl, _, rfl⟩ := e
        rcases hh with h | ⟨b, o, e, _, hat⟩
        · exact absurd h (by intro h; have := JN.o0_len; rw [h] at this; simp at this)
        · have h := hat
          rw [JN.o0_first] at h
          obtain ⟨x0, x1, x2⟩ := h.op 0 (by simp)
          exact ⟨b, o, e, by simpa using x0, by simpa using x1, by simpa using x2⟩
      subst hO
      have D13 : IsL cdP ((w12.alloc (.cells #[.slice aX nX dX, .slice eX mX hX, .slice AX NX CX, .slice EX MX GX] 46)).alloc (.cells #[.string ⟨#[74, 2]⟩, .string ⟨#[0, 1, 98]⟩, .string ⟨#[0, 3]⟩] 9)) (.slice (some ⟨(w12.alloc (.cells #[.slice aX nX dX, .slice eX mX hX, .slice AX NX CX, .slice EX MX GX] 46)).heap.size, 0, none⟩) 3 3) [⟨#[74, 2]⟩, ⟨#[0, 1, 98]⟩, ⟨#[0, 3]⟩] := lit_pages (w12.alloc (.cells #[.slice aX nX dX, .slice eX mX hX, .slice AX NX CX, .slice EX MX GX] 46)) [⟨#[74, 2]⟩, ⟨#[0, 1, 98]⟩, ⟨#[0, 3]⟩]
      rw [World.size_alloc] at D13
      have g13 : Fr (w12.alloc (.cells #[.slice aX nX dX, .slice eX mX hX, .slice AX NX CX, .slice EX MX GX] 46)) ((w12.alloc (.cells #[.slice aX nX dX, .slice eX mX hX, .slice AX NX CX, .slice EX MX GX] 46)).alloc (.cells #[.string ⟨#[74, 2]⟩, .string ⟨#[0, 1, 98]⟩, .string ⟨#[0, 3]⟩] 9)) := (Fr.refl _).alloc _
      obtain ⟨kT0, kT1, kT2, kT3, _, _, _, _⟩ := VT.out.b.four
      have c13 := sameTexts_any _ _ JN.t0.jo.pg [⟨#[74, 2]⟩, ⟨#[0, 1, 98]⟩, ⟨#[0, 3]⟩] ((w12.alloc (.cells #[.slice aX nX dX, .slice eX mX hX, .slice AX NX CX, .slice EX MX GX] 46)).alloc (.cells #[.string ⟨#[74, 2]⟩, .string ⟨#[0, 1, 98]⟩, .string ⟨#[0, 3]⟩] 9)) (VT.out.s.fr g13).2.1 D13 (by rw [JN.t0_jo]; decide)
      go_wp2_with fail
      refine c13.mono ?_
      rintro _ w13 ⟨⟨r13, rfl, q13⟩, f13⟩
      clear c13
      clear kT0 kT1 kT2 kT3
      obtain rfl := q13 JN.t0_jo
      clear z0 z1 z2
      have j13 : Fr (w12.alloc (.cells #[.slice aX nX dX, .slice eX mX hX, .slice AX NX CX, .slice EX MX GX] 46)) w13 := g13.trans f13
      replace VS := hideP (VS.out.fr j13)
      replace VT := hideP (VT.out.fr j13)
      replace VU := hideP (VU.out.fr j13)
      replace VX := hideP (VX.out.fr j13)
      replace LO := hideP (LO.out.fr j13)
      replace HF := hideP (HF.out.trans j13)
      clear j13 f13 g13 D13
      have D14 : IsL cdP (w13.alloc (.cells #[.string ⟨#[97]⟩, .string ⟨#[98]⟩] 9)) (.slice (some ⟨w13.heap.size, 0, none⟩) 2 2) [⟨#[97]⟩, ⟨#[98]⟩] := lit_pages w13 [⟨#[97]⟩, ⟨#[98]⟩]
      have g14 : Fr w13 (w13.alloc (.cells #[.string ⟨#[97]⟩, .string ⟨#[98]⟩] 9)) := (Fr.refl _).alloc _
      obtain ⟨kU0, kU1, kU2, kU3, _, _, _, _⟩ := VU.out.b.four
      have c14 := sameTexts_any _ _ JN.u0.da.pg [⟨#[97]⟩, ⟨#[98]⟩] (w13.alloc (.cells #[.string ⟨#[97]⟩, .string ⟨#[98]⟩] 9)) (VU.out.s.fr g14).1.1 D14 (by rw [JN.u0_da]; decide)
      go_wp2_with fail
      refine c14.mono ?_
      rintro _ w14 ⟨⟨r14, rfl, q14⟩, f14⟩
      clear c14
      clear kU0 kU1 kU2 kU3
      obtain rfl := q14 JN.u0_da
      have j14 : Fr w13 w14 := g14.trans f14
      replace VS := hideP (VS.out.fr j14)
      replace VT := hideP (VT.out.fr j14)
      replace VU := hideP (VU.out.fr j14)
      replace VX := hideP (VX.out.fr j14)
      replace LO := hideP (LO.out.fr j14)
      replace HF := hideP (HF.out.trans j14)
      clear j14 f14 g14 D14
      have D15 : IsL cdP (w14.alloc (.cells #[.string ⟨#[97]⟩, .string ⟨#[66]⟩, .string ⟨#[]⟩, .string ⟨#[68]⟩] 9)) (.slice (some ⟨w14.heap.size, 0, none⟩) 4 4) [⟨#[97]⟩, ⟨#[66]⟩, ⟨#[]⟩, ⟨#[68]⟩] := lit_pages w14 [⟨#[97]⟩, ⟨#[66]⟩, ⟨#[]⟩, ⟨#[68]⟩]
      have g15 : Fr w14 (w14.alloc (.cells #[.string ⟨#[97]⟩, .string ⟨#[66]⟩, .string ⟨#[]⟩, .string ⟨#[68]⟩] 9)) := (Fr.refl _).alloc _
      obtain ⟨kX0, kX1, kX2, kX3, _, _, _, _⟩ := VX.out.b.four
      have c15 := sameTexts_any _ _ JN.v0.da.pg [⟨#[97]⟩, ⟨#[66]⟩, ⟨#[]⟩, ⟨#[68]⟩] (w14.alloc (.cells #[.string ⟨#[97]⟩, .string ⟨#[66]⟩, .string ⟨#[]⟩, .string ⟨#[68]⟩] 9)) (VX.out.s.fr g15).1.1 D15 (by rw [JN.v0_da]; decide)
      go_wp2_with fail
      refine c15.mono ?_
      rintro _ w15 ⟨⟨r15, rfl, q15⟩, f15⟩
      clear c15
      clear kX0 kX1 kX2 kX3
      obtain rfl := q15 JN.v0_da
      have j15 : Fr w14 w15 := g15.trans f15
      replace VS := hideP (VS.out.fr j15)
      replace VT := hideP (VT.out.fr j15)
      replace VU := hideP (VU.out.fr j15)
      replace VX := hideP (VX.out.fr j15)
      replace LO := hideP (LO.out.fr j15)
      replace HF := hideP (HF.out.trans j15)
      clear j15 f15 g15 D15
      obtain ⟨kX0, kX1, kX2, kX3, _, _, _, _⟩ := VX.out.b.four
      have c16 := plainEnd_true _ _ _ _ JN.v0 w15 VX.out.s JN.v0_rest
      go_wp2_with fail
      refine c16.mono ?_
      rintro _ w16 ⟨rfl, f16⟩
      clear c16
      clear kX0 kX1 kX2 kX3
      replace VS := hideP (VS.out.fr f16)
      replace VT := hideP (VT.out.fr f16)
      replace VU := hideP (VU.out.fr f16)
      replace VX := hideP (VX.out.fr f16)
      replace LO := hideP (LO.out.fr f16)
      replace HF := hideP (HF.out.trans f16)
      clear f16
      go_wp2_with fail
      go_ret
      exact ⟨rfl, HF.out⟩
end Go.Proofs.Ytklldfkaihpkiaa
