/-
  Proved: for every store, all writes, every number of steps done and of steps undone, and every choice of what lands in both crashes CommitTwice answers true: a store that crashes once more while it is recovered has what it would have had. No condition but the form's own reach.
-/
import Derived.Test.YtklldfkaihpkiaaJdL
import Derived.Test.YtklldfkaihpkiaaJdN
import Derived.Test.YtklldfkaihpkiaaOpenD
import Derived.Deep.DeepCutAuto
import Derived.Deep.CutRange
namespace Go.Proofs.Ytklldfkaihpkiaa.CommitTwice
open Go.ChangeShapes Go.WideShapes Go.ChangeAt Go.RowKit
set_option linter.unusedVariables false
set_option linter.unusedSimpArgs false
set_option maxRecDepth 100000

theorem playO_ok : ∀ (l : List JN.O) (s : JN.S), JN.OkS s → (JN.playO s l).2 = 0 → JN.OkS (JN.playO s l).1
  | [], s, h, _ => h
  | o :: l, s, h, h2 => by
    unfold JN.playO at h2 ⊢
    by_cases e : (JN.opS s o).2 = 0
    · rw [if_pos e] at h2 ⊢; exact playO_ok l _ (JN.op_ok h e).1 h2
    · rw [if_neg e] at h2; exact absurd h2 e
theorem play_ok {s : JN.S} {l : List JN.O} (h : (JN.playS s l).2 = 0) : JN.OkS (JN.playS s l).1 := by
  obtain ⟨hs, _, e⟩ := JN.playS_err h
  rw [e] at h ⊢
  exact playO_ok l s hs h
theorem rec_ok {s : JN.S} (h : (JN.recS s).2 = 0) : JN.OkS (JN.recS s).1 := by
  unfold JN.recS at h ⊢
  by_cases e : (JN.undoS s).2 = 0
  · rw [if_pos e] at h ⊢; exact play_ok h
  · rw [if_neg e] at h; exact absurd h e
theorem pr {α : Type} {r : α × Nat} (h : r.2 = 0) : r = (r.1, 0) := Prod.ext rfl h
/-- all that the walk wants of the plain side, in letters -/
structure Fx (s : JN.S) (o : List JN.O) (n : Nat) (a b c d : Nat → Bool) (t : JN.S) (x y : JN.D) (u : List JN.O) (z : JN.S) : Prop where
  p1 : JN.playS s (o.take n) = (t, 0)
  p2 : JN.crashD t.da a = (x, 0)
  p3 : JN.crashD t.jo b = (y, 0)
  p4 : JN.undoS ⟨x, y⟩ = (u, 0)
  p5 : JN.recS ⟨x, y⟩ = (z, 0)
  o1 : JN.OkS t
  o2 : JN.OkS ⟨x, y⟩
  more : ∀ m, ∃ v x2 y2 r, JN.playS ⟨x, y⟩ (u.take m) = (v, 0) ∧ JN.crashD v.da c = (x2, 0) ∧ JN.crashD v.jo d = (y2, 0) ∧ JN.recS ⟨x2, y2⟩ = (r, 0) ∧ JN.rest r ∧ r.da.pg = z.da.pg ∧ JN.OkS v ∧ JN.OkS ⟨x2, y2⟩ ∧ JN.OkS r
theorem facts {s : JN.S} {l : List JN.W} (h : (JN.stepsS s l).2 = 0) (n : Nat) (a b c d : Nat → Bool) : ∃ t x y u z, Fx s (JN.stepsO s l) n a b c d t x y u z := by
  obtain ⟨e, hc⟩ := JN.steps_can h
  obtain ⟨a1, a2, a3, a4, _⟩ := JN.behind_fn h n a b
  have tw := fun j => JN.commit_twice h n j a b c d _ rfl
  unfold JN.behind at a4 tw
  rw [e] at a1 a2 a3 a4 tw
  have ht := play_ok a1
  generalize hp1 : JN.playS s ((JN.stepsO s l).take n) = rt at a1 a2 a3 a4 tw ht
  obtain ⟨t, z⟩ := rt
  simp only at a1 a2 a3 a4 tw ht
  subst a1
  generalize hp2 : JN.crashD t.da a = rx at a2 a4 tw
  obtain ⟨x, z⟩ := rx
  simp only at a2 a4 tw
  subst a2
  generalize hp3 : JN.crashD t.jo b = ry at a3 a4 tw
  obtain ⟨y, z⟩ := ry
  simp only at a3 a4 tw
  subst a3
  generalize hp4 : JN.undoS ⟨x, y⟩ = ru at tw
  generalize hp5 : JN.recS ⟨x, y⟩ = rz at tw
  obtain ⟨u, z⟩ := ru
  obtain ⟨zz, z2⟩ := rz
  simp only at tw
  obtain ⟨b1, _, _, _, _, b2, _⟩ := tw 0
  subst b1
  subst b2
  refine ⟨t, x, y, u, zz, hp1, hp2, hp3, hp4, hp5, ht, a4, ?_⟩
  intro m
  obtain ⟨_, c1, c2, c3, c4, _, c5, c6⟩ := tw m
  have hv := play_ok c1
  have hr := rec_ok c4
  generalize hq1 : JN.playS ⟨x, y⟩ (u.take m) = rv at c1 c2 c3 c4 c5 c6 hv hr
  obtain ⟨v, z⟩ := rv
  simp only at c1 c2 c3 c4 c5 c6 hv hr
  subst c1
  have k1 := (JN.crash_ok hv.da c).2.1
  have k2 := (JN.crash_ok hv.jo d).2.1
  generalize hq2 : JN.crashD v.da c = rx at c2 c4 c5 c6 hr k1
  obtain ⟨x2, z⟩ := rx
  generalize hq3 : JN.crashD v.jo d = ry at c3 c4 c5 c6 hr k2
  obtain ⟨y2, z3⟩ := ry
  simp only at c2 c3 c4 c5 c6 hr k1 k2
  subst c2
  subst c3
  generalize hq4 : JN.recS ⟨x2, y2⟩ = rr at c4 c5 c6 hr
  obtain ⟨r, z⟩ := rr
  simp only at c4 c5 c6 hr
  subst c4
  exact ⟨v, x2, y2, r, (by first | exact hq1 | rfl), hq2, hq3, hq4, c5, c6, hv, ⟨k1, k2⟩, hr⟩
set_option maxHeartbeats 40000000 in
theorem walk (p q P Q : Value) (s : JN.S) (v : Value) (l : List JN.W) (k j a b c d : Int) (w : World) (hr : IsS w p q P Q s) (hb : BD s.da ∧ BD s.jo) (hl : IsL cdW w v l) (ho : ∀ y ∈ l, -9223372036854775808 ≤ y.no ∧ y.no ≤ 9223372036854775807) (hlen : l.length * 24 ≤ 140737488351232) (hk : -9223372036854775808 ≤ k ∧ k ≤ 9223372036854775807) (hj : -9223372036854775808 ≤ j ∧ j ≤ 9223372036854775807) (ha : 0 ≤ a ∧ a ≤ 18446744073709551615) (hbm : 0 ≤ b ∧ b ≤ 18446744073709551615) (hcm : 0 ≤ c ∧ c ≤ 18446744073709551615) (hdm : 0 ≤ d ∧ d ≤ 18446744073709551615) :
    Calls Try.prog 13 #[.agg #[p, q, P, Q], v, .int .i64 k, .int .i64 j, .int .u64 a, .int .u64 b, .int .u64 c, .int .u64 d] w fun e w' => e = .returned (.bool true) ∧ Fr w w' := by
  obtain ⟨a, rfl⟩ := Int.eq_ofNat_of_zero_le ha.1
  obtain ⟨b, rfl⟩ := Int.eq_ofNat_of_zero_le hbm.1
  obtain ⟨c, rfl⟩ := Int.eq_ofNat_of_zero_le hcm.1
  obtain ⟨d, rfl⟩ := Int.eq_ofNat_of_zero_le hdm.1
  have ha2 : a < 18446744073709551616 := by omega
  have hb3 : b < 18446744073709551616 := by omega
  have hc3 : c < 18446744073709551616 := by omega
  have hd3 : d < 18446744073709551616 := by omega
  obtain ⟨aS, nS, dS, rfl⟩ := hr.1.1.slice
  obtain ⟨eS, mS, hS, rfl⟩ := hr.1.2.slice
  obtain ⟨AS, NS, CS, rfl⟩ := hr.2.1.slice
  obtain ⟨ES, MS, GS, rfl⟩ := hr.2.2.slice
  obtain ⟨av, cv, rfl, _, _⟩ := id hl
  have hb1 := hb.1.pl
  have hb2 := hb.2.pl
  have VS := hideP (SV.new hr)
  have HF : Hid (Fr w (w.alloc (.cells #[.slice aS nS dS, .slice eS mS hS, .slice AS NS CS, .slice ES MS GS] 46))) := (Fr.refl w).alloc _
  have LL := hideP (hl.fr ((Fr.refl w).alloc (.cells #[.slice aS nS dS, .slice eS mS hS, .slice AS NS CS, .slice ES MS GS] 46)))
  clear hr hl ho hb ha hbm hcm hdm
  by_cases h0 : JN.stepsChk s l = 0
  · have e1 : JN.stepsS s l = (JN.stepsO s l, 0) := by rw [JN.stepsS, if_pos h0]
    have hfx := facts (s := s) (l := l) (by rw [e1])
    generalize JN.stepsO s l = o at e1 hfx
    have HS := hideP e1
    clear e1 h0
    by_cases hk0 : k < 0
    · clear hfx
      go_enter Try.func13, Try.ntmps13
      obtain ⟨kS0, kS1, kS2, kS3, _, _, _, _⟩ := VS.out.b.four
      have c21 := steps_any _ _ _ _ _ s l (w.alloc (.cells #[.slice aS nS dS, .slice eS mS hS, .slice AS NS CS, .slice ES MS GS] 46)) VS.out.s LL.out hb1 hb2
      rw [HS.out] at c21
      go_wp2_with fail
      refine c21.mono ?_
      rintro _ w21 ⟨vP, rfl, oP, f21⟩
      clear c21
      clear kS0 kS1 kS2 kS3
      obtain ⟨aP, dP, rfl⟩ := own_slice oP
      replace VS := hideP (VS.out.fr f21)
      replace LL := hideP (LL.out.fr f21)
      replace HF := hideP (HF.out.trans f21)
      clear oP f21
      have c22 := journalBegun_any w21
      go_wp2_with fail
      refine c22.mono ?_
      rintro _ w22 ⟨rfl, f22⟩
      clear c22
      replace VS := hideP (VS.out.fr f22)
      replace LL := hideP (LL.out.fr f22)
      replace HF := hideP (HF.out.trans f22)
      clear f22
      go_wp2_with fail
      go_ret
      exact ⟨rfl, HF.out⟩
    by_cases hk1 : (o.length : Int) < k
    · clear hfx
      go_enter Try.func13, Try.ntmps13
      obtain ⟨kS0, kS1, kS2, kS3, _, _, _, _⟩ := VS.out.b.four
      have c21 := steps_any _ _ _ _ _ s l (w.alloc (.cells #[.slice aS nS dS, .slice eS mS hS, .slice AS NS CS, .slice ES MS GS] 46)) VS.out.s LL.out hb1 hb2
      rw [HS.out] at c21
      go_wp2_with fail
      refine c21.mono ?_
      rintro _ w21 ⟨vP, rfl, oP, f21⟩
      clear c21
      clear kS0 kS1 kS2 kS3
      obtain ⟨aP, dP, rfl⟩ := own_slice oP
      replace VS := hideP (VS.out.fr f21)
      replace LL := hideP (LL.out.fr f21)
      replace HF := hideP (HF.out.trans f21)
      clear oP f21
      have c22 := journalBegun_any w21
      go_wp2_with fail
      refine c22.mono ?_
      rintro _ w22 ⟨rfl, f22⟩
      clear c22
      replace VS := hideP (VS.out.fr f22)
      replace LL := hideP (LL.out.fr f22)
      replace HF := hideP (HF.out.trans f22)
      clear f22
      go_wp2_with fail
      go_ret
      exact ⟨rfl, HF.out⟩
    obtain ⟨n, rfl⟩ := Int.eq_ofNat_of_zero_le (show 0 ≤ k by omega)
    have hn : n ≤ o.length := by omega
    obtain ⟨t, x, y, u, z, FX⟩ := hfx n (JN.bits a) (JN.bits b) (JN.bits c) (JN.bits d)
    have hk2 : ¬ ((n : Int) < 0) := hk0
    have hk3 : ¬ ((o.length : Int) < (n : Int)) := hk1
    have hk4 : (0 : Int) ≤ (n : Int) := by omega
    have hk6 : (n : Int) ≤ (o.length : Int) := by omega
    have ht1 := FX.o1.da.len
    have ht3 := FX.o1.jo.len
    have hx1 := FX.o2.da.len
    have hx3 := FX.o2.jo.len
    simp only at hx1 hx3
    clear hfx hk0 hk1
    go_enter Try.func13, Try.ntmps13
    obtain ⟨kS0, kS1, kS2, kS3, _, _, _, _⟩ := VS.out.b.four
    have c21 := steps_any _ _ _ _ _ s l (w.alloc (.cells #[.slice aS nS dS, .slice eS mS hS, .slice AS NS CS, .slice ES MS GS] 46)) VS.out.s LL.out hb1 hb2
    rw [HS.out] at c21
    go_wp2_with fail
    refine c21.mono ?_
    rintro _ w21 ⟨vP, rfl, oP, f21⟩
    clear c21
    clear kS0 kS1 kS2 kS3
    obtain ⟨aP, dP, rfl⟩ := own_slice oP
    replace VS := hideP (VS.out.fr f21)
    replace LL := hideP (LL.out.fr f21)
    replace HF := hideP (HF.out.trans f21)
    have LP := hideP (isL_own oP)
    have hdP : (n : Int) ≤ (dP : Int) := by have h : o.length ≤ dP := LP.out.cap.2; omega
    clear oP f21
    have c22 := journalBegun_any w21
    go_wp2_with fail
    refine c22.mono ?_
    rintro _ w22 ⟨rfl, f22⟩
    clear c22
    replace VS := hideP (VS.out.fr f22)
    replace LL := hideP (LL.out.fr f22)
    replace LP := hideP (LP.out.fr f22)
    replace HF := hideP (HF.out.trans f22)
    clear f22
    have cp := fun W (f : Fr w22 W) => play_any _ _ _ _ (.slice aP n dP) s (o.take n) W (VS.out.s.fr f) ((LP.out.upto n hn).fr f) hb1 hb2
    rw [FX.p1] at cp
    have CP := hideP (cp)
    have HS3 := hideP (show w22.cell? ⟨w.heap.size, 0, none⟩ = some (.slice aS nS dS) ∧ w22.cell? ⟨w.heap.size, 1, none⟩ = some (.slice eS mS hS) ∧ w22.cell? ⟨w.heap.size, 2, none⟩ = some (.slice AS NS CS) ∧ w22.cell? ⟨w.heap.size, 3, none⟩ = some (.slice ES MS GS) from by
      obtain ⟨k0, k1, k2, k3, _, _, _, _⟩ := VS.out.b.four
      exact ⟨k0, k1, k2, k3⟩)
    have hlt0 : w.heap.size < w22.heap.size := VS.out.b.lt
    have hz := Fr.drew (Fr.refl w22)
    have hy := Fr.drew (Fr.alloc (Fr.refl w22) (.cells #[.slice none 0 0, .slice none 0 0, .slice none 0 0, .slice none 0 0] 46))
    go_upto_region 6 with fail
    try simp only [show decide ((n : Int) < 0) = false from by simp, show decide (o.length < n) = false from by simp; omega, Bool.or_false]
    go_cut [19, 20] from 54 to 61 (fun s4 s5 wx => ∃ N p q P Q, s4 = .pointer (some ⟨N, 0, none⟩) ∧ s5 = .int .i64 0 ∧ SV wx N p q P Q t ∧ Fr w22 wx)
    case first =>
      go_region_held3 (fun W => W.cell? ⟨w.heap.size, 0, none⟩ = some (.slice aS nS dS) ∧ W.cell? ⟨w.heap.size, 1, none⟩ = some (.slice eS mS hS) ∧ W.cell? ⟨w.heap.size, 2, none⟩ = some (.slice AS NS CS) ∧ W.cell? ⟨w.heap.size, 3, none⟩ = some (.slice ES MS GS)) (first | exact HS3.out | assumption | exact s4_after hz HS3.out | exact s4_after (Fr.alloc hz _) HS3.out | exact s4_after hy HS3.out | exact s4_after (Fr.after f5 hz) HS3.out | exact s4_after (Fr.after f5 hy) HS3.out | exact s4_after (Fr.after f5 (Fr.alloc hz _)) HS3.out | exact s4_after (Fr.alloc (Fr.after f5 hz) _) HS3.out | exact s4_set4 HS3.out (Fr.after f5 (Fr.alloc hz _)) (by omega) | exact s4_set4 HS3.out (Fr.after f5 hy) (by omega)) (first
        | (go_at_call 35; refine (CP.out _ (by first | exact hz | exact Fr.alloc hz _ | exact hy)).mono ?_; rintro _ w5 ⟨p5, q5, P5, Q5, rfl, hs5, hx5, hy5, f5⟩; obtain ⟨b1, n1, d1, rfl⟩ := hs5.1.1.slice; obtain ⟨b2, n2, d2, rfl⟩ := hs5.1.2.slice; obtain ⟨b3, n3, d3, rfl⟩ := hs5.2.1.slice; obtain ⟨b4, n4, d4, rfl⟩ := hs5.2.2.slice; have HS5 := hideP hs5; have HX5 := hideP hx5; have HY5 := hideP hy5; clear hs5 hx5 hy5; (first | (have HN5 : Hid (Blk w5 w22.heap.size #[.slice none 0 0, .slice none 0 0, .slice none 0 0, .slice none 0 0] 46) := (Blk.new w22.drew #[.slice none 0 0, .slice none 0 0, .slice none 0 0, .slice none 0 0] 46).fr f5) | (have HN5 : Hid (Blk w5 w22.heap.size #[.slice none 0 0, .slice none 0 0, .slice none 0 0, .slice none 0 0] 46) := ((Blk.new w22 #[.slice none 0 0, .slice none 0 0, .slice none 0 0, .slice none 0 0] 46).fr (Fr.drew (Fr.refl _))).fr f5) | skip); (first | (obtain ⟨g0, g1, g2, g3, y0, y1, y2, y3⟩ := HN5.out.four) | skip)))
      all_goals (go_wp2_with fail; go_meet)
      all_goals first
        | exact ⟨_, _, _, _, _, rfl, rfl, SV.new HS5.out, Fr.alloc (Fr.after f5 hz) _⟩
        | exact ⟨_, _, _, _, _, rfl, rfl, sv_set (Fr.alloc hz _) (Blk.new w22.drew #[.slice none 0 0, .slice none 0 0, .slice none 0 0, .slice none 0 0] 46) (Nat.le_refl _) f5 HS5.out HX5.out HY5.out⟩
        | exact ⟨_, _, _, _, _, rfl, rfl, sv_set hy ((Blk.new w22 #[.slice none 0 0, .slice none 0 0, .slice none 0 0, .slice none 0 0] 46).fr (Fr.drew (Fr.refl _))) (Nat.le_refl _) f5 HS5.out HX5.out HY5.out⟩
    case rest =>
      obtain ⟨nT0, pT, qT, PT, QT, rfl, rfl, vT, fcut⟩ := hcut
      replace VS := hideP (VS.out.fr fcut)
      replace LL := hideP (LL.out.fr fcut)
      replace LP := hideP (LP.out.fr fcut)
      replace HF := hideP (HF.out.trans fcut)
      obtain ⟨aT, nT, dT, rfl⟩ := vT.s.1.1.slice
      obtain ⟨eT, mT, hT, rfl⟩ := vT.s.1.2.slice
      obtain ⟨AT, NT, CT, rfl⟩ := vT.s.2.1.slice
      obtain ⟨ET, MT, GT, rfl⟩ := vT.s.2.2.slice
      have VT := hideP vT
      clear vT fcut CP HS3 hz hy hlt0
      clear cp VS LL LP
      obtain ⟨kT0, kT1, kT2, kT3, _, _, _, _⟩ := VT.out.b.four
      have c23 := crash_any _ _ t.da a wc VT.out.s.1 (by omega) ha2
      rw [FX.p2] at c23
      go_wp2_with fail
      refine c23.mono ?_
      rintro _ w23 ⟨pX, qX, rfl, oX, f23⟩
      clear c23
      clear kT0 kT1 kT2 kT3
      obtain ⟨aX, nX, dX, rfl⟩ := own_slice' oX.pg
      obtain ⟨eX, mX, hX, rfl⟩ := own_slice' oX.wt
      have hbxX : w.heap.size ≤ w23.heap.size := (HF.out.trans f23).size
      have NV := DV.new oX.is
      have g23 : Fr wc (w23.alloc (.cells #[.slice aX nX dX, .slice eX mX hX] 25)) := f23.alloc _
      replace VT := hideP (VT.out.fr g23)
      replace HF := hideP (HF.out.trans g23)
      have DX := hideP NV
      have OX := hideP oX
      clear NV g23 f23 oX
      obtain ⟨kT0, kT1, kT2, kT3, _, _, _, _⟩ := VT.out.b.four
      have c24 := crash_any _ _ t.jo b (w23.alloc (.cells #[.slice aX nX dX, .slice eX mX hX] 25)) VT.out.s.2 (by omega) hb3
      rw [FX.p3] at c24
      go_wp2_with fail
      refine c24.mono ?_
      rintro _ w24 ⟨pY, qY, rfl, oY, f24⟩
      clear c24
      clear kT0 kT1 kT2 kT3
      obtain ⟨aY, nY, dY, rfl⟩ := own_slice' oY.pg
      obtain ⟨eY, mY, hY, rfl⟩ := own_slice' oY.wt
      have hbxY : w.heap.size ≤ w24.heap.size := (HF.out.trans f24).size
      have hxy : w23.heap.size ≠ w24.heap.size := Nat.ne_of_lt (DX.out.b.fr f24).lt
      have NV := DV.new oY.is
      have g24 : Fr (w23.alloc (.cells #[.slice aX nX dX, .slice eX mX hX] 25)) (w24.alloc (.cells #[.slice aY nY dY, .slice eY mY hY] 25)) := f24.alloc _
      replace VT := hideP (VT.out.fr g24)
      replace DX := hideP (DX.out.fr g24)
      replace HF := hideP (HF.out.trans g24)
      have DY := hideP NV
      have OY := hideP oY
      clear NV g24 f24 oY
      clear VT
      obtain ⟨iX0, iX1, _, _⟩ := DX.out.b.two
      obtain ⟨iY0, iY1, _, _⟩ := DY.out.b.two
      have NV := SV.new (s := ⟨x, y⟩) ⟨DX.out.d, DY.out.d⟩
      rw [World.size_alloc] at NV
      have g0 : Fr (w24.alloc (.cells #[.slice aY nY dY, .slice eY mY hY] 25)) ((w24.alloc (.cells #[.slice aY nY dY, .slice eY mY hY] 25)).alloc (.cells #[.slice aX nX dX, .slice eX mX hX, .slice aY nY dY, .slice eY mY hY] 46)) := (Fr.refl _).alloc _
      replace DX := hideP (DX.out.fr g0)
      replace DY := hideP (DY.out.fr g0)
      replace HF := hideP (HF.out.trans g0)
      have VU := hideP NV
      clear NV g0
      obtain ⟨kU0, kU1, kU2, kU3, _, _, _, _⟩ := VU.out.b.four
      have c25 := undo_any _ _ _ _ ⟨x, y⟩ ((w24.alloc (.cells #[.slice aY nY dY, .slice eY mY hY] 25)).alloc (.cells #[.slice aX nX dX, .slice eX mX hX, .slice aY nY dY, .slice eY mY hY] 46)) VU.out.s (by simp only; omega) (by simp only; omega)
      rw [FX.p4] at c25
      go_wp2_with fail
      refine c25.mono ?_
      rintro _ w25 ⟨vQ, rfl, oQ, f25⟩
      clear c25
      clear kU0 kU1 kU2 kU3
      obtain ⟨aQ, dQ, rfl⟩ := own_slice oQ
      clear iX0 iX1 iY0 iY1
      replace VU := hideP (VU.out.fr f25)
      replace DX := hideP (DX.out.fr f25)
      replace DY := hideP (DY.out.fr f25)
      replace HF := hideP (HF.out.trans f25)
      have LQ := hideP (isL_own oQ)
      clear oQ f25
      by_cases hj0 : j < 0
      · go_wp2_with fail
        go_ret
        exact ⟨rfl, HF.out⟩
      by_cases hj1 : (u.length : Int) < j
      · go_wp2_with fail
        go_ret
        exact ⟨rfl, HF.out⟩
      obtain ⟨m, rfl⟩ := Int.eq_ofNat_of_zero_le (show 0 ≤ j by omega)
      have hm : m ≤ u.length := by omega
      obtain ⟨v, x2, y2, r, q1, q2, q3, q4, hrest, hrz, ov, oxy, or⟩ := FX.more m
      have hj2 : ¬ ((m : Int) < 0) := hj0
      have hj3 : ¬ ((u.length : Int) < (m : Int)) := hj1
      have hj4 : (0 : Int) ≤ (m : Int) := by omega
      have hj6 : (m : Int) ≤ (u.length : Int) := by omega
      have hdQ : (m : Int) ≤ (dQ : Int) := by have h : u.length ≤ dQ := LQ.out.cap.2; omega
      have hv1 := ov.da.len
      have hv3 := ov.jo.len
      have hy1 := oxy.da.len
      have hy3 := oxy.jo.len
      have hr1 := or.da.len
      simp only at hy1 hy3
      have Q1 := hideP q1
      have Q2 := hideP q2
      have Q3 := hideP q3
      have Q4 := hideP q4
      have HRs := hideP hrest
      have HZ := hideP hrz
      clear q1 q2 q3 q4 hrest hrz ov oxy or hj0 hj1
      have cp := fun W (f : Fr w25 W) => play_any _ _ _ _ (.slice aQ m dQ) ⟨x, y⟩ (u.take m) W (VU.out.s.fr f) ((LQ.out.upto m hm).fr f) (by simp only; omega) (by simp only; omega)
      rw [Q1.out] at cp
      have CP := hideP (cp)
      have HS3 := hideP (show w25.cell? ⟨w24.heap.size + 1, 0, none⟩ = some (.slice aX nX dX) ∧ w25.cell? ⟨w24.heap.size + 1, 1, none⟩ = some (.slice eX mX hX) ∧ w25.cell? ⟨w24.heap.size + 1, 2, none⟩ = some (.slice aY nY dY) ∧ w25.cell? ⟨w24.heap.size + 1, 3, none⟩ = some (.slice eY mY hY) from by
        obtain ⟨k0, k1, k2, k3, _, _, _, _⟩ := VU.out.b.four
        exact ⟨k0, k1, k2, k3⟩)
      have hlt0 : w24.heap.size + 1 < w25.heap.size := VU.out.b.lt
      have hz := Fr.drew (Fr.refl w25)
      have hy := Fr.drew (Fr.alloc (Fr.refl w25) (.cells #[.slice none 0 0, .slice none 0 0, .slice none 0 0, .slice none 0 0] 46))
      go_upto_region 15 with fail
      try simp only [show decide ((m : Int) < 0) = false from by simp, show decide (u.length < m) = false from by simp; omega, Bool.or_false]
      go_cut [28, 29] from 106 to 113 (fun s4 s5 wx => ∃ N p q P Q, s4 = .pointer (some ⟨N, 0, none⟩) ∧ s5 = .int .i64 0 ∧ SV wx N p q P Q v ∧ Fr w25 wx)
      case first =>
        go_region_held3 (fun W => W.cell? ⟨w24.heap.size + 1, 0, none⟩ = some (.slice aX nX dX) ∧ W.cell? ⟨w24.heap.size + 1, 1, none⟩ = some (.slice eX mX hX) ∧ W.cell? ⟨w24.heap.size + 1, 2, none⟩ = some (.slice aY nY dY) ∧ W.cell? ⟨w24.heap.size + 1, 3, none⟩ = some (.slice eY mY hY)) (first | exact HS3.out | assumption | exact s4_after hz HS3.out | exact s4_after (Fr.alloc hz _) HS3.out | exact s4_after hy HS3.out | exact s4_after (Fr.after f5 hz) HS3.out | exact s4_after (Fr.after f5 hy) HS3.out | exact s4_after (Fr.after f5 (Fr.alloc hz _)) HS3.out | exact s4_after (Fr.alloc (Fr.after f5 hz) _) HS3.out | exact s4_set4 HS3.out (Fr.after f5 (Fr.alloc hz _)) (by omega) | exact s4_set4 HS3.out (Fr.after f5 hy) (by omega)) (first
          | (go_at_call 35; refine (CP.out _ (by first | exact hz | exact Fr.alloc hz _ | exact hy)).mono ?_; rintro _ w5 ⟨p5, q5, P5, Q5, rfl, hs5, hx5, hy5, f5⟩; obtain ⟨b1, n1, d1, rfl⟩ := hs5.1.1.slice; obtain ⟨b2, n2, d2, rfl⟩ := hs5.1.2.slice; obtain ⟨b3, n3, d3, rfl⟩ := hs5.2.1.slice; obtain ⟨b4, n4, d4, rfl⟩ := hs5.2.2.slice; have HS5 := hideP hs5; have HX5 := hideP hx5; have HY5 := hideP hy5; clear hs5 hx5 hy5; (first | (have HN5 : Hid (Blk w5 w25.heap.size #[.slice none 0 0, .slice none 0 0, .slice none 0 0, .slice none 0 0] 46) := (Blk.new w25.drew #[.slice none 0 0, .slice none 0 0, .slice none 0 0, .slice none 0 0] 46).fr f5) | (have HN5 : Hid (Blk w5 w25.heap.size #[.slice none 0 0, .slice none 0 0, .slice none 0 0, .slice none 0 0] 46) := ((Blk.new w25 #[.slice none 0 0, .slice none 0 0, .slice none 0 0, .slice none 0 0] 46).fr (Fr.drew (Fr.refl _))).fr f5) | skip); (first | (obtain ⟨g0, g1, g2, g3, y0, y1, y2, y3⟩ := HN5.out.four) | skip)))
        all_goals (go_wp2_with fail; go_meet)
        all_goals first
          | exact ⟨_, _, _, _, _, rfl, rfl, SV.new HS5.out, Fr.alloc (Fr.after f5 hz) _⟩
          | exact ⟨_, _, _, _, _, rfl, rfl, sv_set (Fr.alloc hz _) (Blk.new w25.drew #[.slice none 0 0, .slice none 0 0, .slice none 0 0, .slice none 0 0] 46) (Nat.le_refl _) f5 HS5.out HX5.out HY5.out⟩
          | exact ⟨_, _, _, _, _, rfl, rfl, sv_set hy ((Blk.new w25 #[.slice none 0 0, .slice none 0 0, .slice none 0 0, .slice none 0 0] 46).fr (Fr.drew (Fr.refl _))) (Nat.le_refl _) f5 HS5.out HX5.out HY5.out⟩
      case rest =>
        obtain ⟨nR0, pR, qR, PR, QR, rfl, rfl, vR, fcut⟩ := hcut
        replace VU := hideP (VU.out.fr fcut)
        replace DX := hideP (DX.out.fr fcut)
        replace DY := hideP (DY.out.fr fcut)
        replace LQ := hideP (LQ.out.fr fcut)
        replace HF := hideP (HF.out.trans fcut)
        obtain ⟨aR, nR, dR, rfl⟩ := vR.s.1.1.slice
        obtain ⟨eR, mR, hR, rfl⟩ := vR.s.1.2.slice
        obtain ⟨AR, NR, CR, rfl⟩ := vR.s.2.1.slice
        obtain ⟨ER, MR, GR, rfl⟩ := vR.s.2.2.slice
        have VR := hideP vR
        clear vR fcut CP HS3 hz hy hlt0
        clear cp LQ
        obtain ⟨kR0, kR1, kR2, kR3, _, _, _, _⟩ := VR.out.b.four
        have c26 := crash_any _ _ v.da c wc VR.out.s.1 (by omega) hc3
        rw [Q2.out] at c26
        go_wp2_with fail
        refine c26.mono ?_
        rintro _ w26 ⟨pX, qX, rfl, oX, f26⟩
        clear c26
        clear kR0 kR1 kR2 kR3
        obtain ⟨aX2, nX2, dX2, rfl⟩ := own_slice' oX.pg
        obtain ⟨eX2, mX2, hX2, rfl⟩ := own_slice' oX.wt
        replace VU := hideP (VU.out.fr f26)
        replace VR := hideP (VR.out.fr f26)
        replace DX := hideP (DX.out.fr f26)
        replace DY := hideP (DY.out.fr f26)
        replace HF := hideP (HF.out.trans f26)
        obtain ⟨iX0, iX1, iX2, iX3⟩ := DX.out.b.two
        have hB := hideP DX.out.b
        replace VU := hideP (VU.out.at2 hB.out (.slice aX2 nX2 dX2) (.slice eX2 mX2 hX2))
        replace VR := hideP (VR.out.at2 hB.out (.slice aX2 nX2 dX2) (.slice eX2 mX2 hX2))
        replace DY := hideP (DY.out.at2 hB.out (by exact hxy) (.slice aX2 nX2 dX2) (.slice eX2 mX2 hX2))
        replace DX := hideP (DV.here oX.is hB.out)
        replace HF := hideP (HF.out.set2 w23.heap.size hbxX (.slice aX2 nX2 dX2) (.slice eX2 mX2 hX2))
        clear f26 oX hB
        obtain ⟨kR0, kR1, kR2, kR3, _, _, _, _⟩ := VR.out.b.four
        have c27 := crash_any _ _ v.jo d ((w26.setCell ⟨w23.heap.size, 0, none⟩ (.slice aX2 nX2 dX2)).setCell ⟨w23.heap.size, 1, none⟩ (.slice eX2 mX2 hX2)) VR.out.s.2 (by omega) hd3
        rw [Q3.out] at c27
        go_wp2_with fail
        refine c27.mono ?_
        rintro _ w27 ⟨pY, qY, rfl, oY, f27⟩
        clear c27
        clear kR0 kR1 kR2 kR3
        clear iX0 iX1 iX2 iX3
        obtain ⟨aY2, nY2, dY2, rfl⟩ := own_slice' oY.pg
        obtain ⟨eY2, mY2, hY2, rfl⟩ := own_slice' oY.wt
        replace VU := hideP (VU.out.fr f27)
        replace VR := hideP (VR.out.fr f27)
        replace DX := hideP (DX.out.fr f27)
        replace DY := hideP (DY.out.fr f27)
        replace HF := hideP (HF.out.trans f27)
        obtain ⟨iY0, iY1, iY2, iY3⟩ := DY.out.b.two
        have hB := hideP DY.out.b
        replace VU := hideP (VU.out.at2 hB.out (.slice aY2 nY2 dY2) (.slice eY2 mY2 hY2))
        replace VR := hideP (VR.out.at2 hB.out (.slice aY2 nY2 dY2) (.slice eY2 mY2 hY2))
        replace DX := hideP (DX.out.at2 hB.out (by exact Ne.symm hxy) (.slice aY2 nY2 dY2) (.slice eY2 mY2 hY2))
        replace DY := hideP (DV.here oY.is hB.out)
        replace HF := hideP (HF.out.set2 w24.heap.size hbxY (.slice aY2 nY2 dY2) (.slice eY2 mY2 hY2))
        clear f27 oY hB
        clear VR
        obtain ⟨kX0, kX1, _, _⟩ := DX.out.b.two
        obtain ⟨kY0, kY1, _, _⟩ := DY.out.b.two
        have c28 := recover_any _ _ _ _ ⟨x2, y2⟩ ((w27.setCell ⟨w24.heap.size, 0, none⟩ (.slice aY2 nY2 dY2)).setCell ⟨w24.heap.size, 1, none⟩ (.slice eY2 mY2 hY2)) ⟨DX.out.d, DY.out.d⟩ (by simp only; omega) (by simp only; omega)
        rw [Q4.out] at c28
        go_wp2_with fail
        refine c28.mono ?_
        rintro _ w28 ⟨pW, qW, PW, QW, rfl, sW, xW, yW, f28⟩
        clear c28
        clear kX0 kX1
        clear kY0 kY1
        clear iY0 iY1 iY2 iY3
        obtain ⟨aW, nW, dW, rfl⟩ := sW.1.1.slice
        obtain ⟨eW, mW, hW, rfl⟩ := sW.1.2.slice
        obtain ⟨AW, NW, CW, rfl⟩ := sW.2.1.slice
        obtain ⟨EW, MW, GW, rfl⟩ := sW.2.2.slice
        have NV := SV.new sW
        have g28 : Fr ((w27.setCell ⟨w24.heap.size, 0, none⟩ (.slice aY2 nY2 dY2)).setCell ⟨w24.heap.size, 1, none⟩ (.slice eY2 mY2 hY2)) (w28.alloc (.cells #[.slice aW nW dW, .slice eW mW hW, .slice AW NW CW, .slice EW MW GW] 46)) := f28.alloc _
        replace VU := hideP (VU.out.fr g28)
        replace DX := hideP (DX.out.fr g28)
        replace DY := hideP (DY.out.fr g28)
        replace HF := hideP (HF.out.trans g28)
        have VW := hideP NV
        clear NV g28 f28 sW xW yW
        obtain ⟨kU0, kU1, kU2, kU3, _, _, _, _⟩ := VU.out.b.four
        have c29 := recover_any _ _ _ _ ⟨x, y⟩ (w28.alloc (.cells #[.slice aW nW dW, .slice eW mW hW, .slice AW NW CW, .slice EW MW GW] 46)) VU.out.s (by simp only; omega) (by simp only; omega)
        rw [FX.p5] at c29
        go_wp2_with fail
        refine c29.mono ?_
        rintro _ w29 ⟨pZ, qZ, PZ, QZ, rfl, sZ, xZ, yZ, f29⟩
        clear c29
        clear kU0 kU1 kU2 kU3
        obtain ⟨aZ, nZ, dZ, rfl⟩ := sZ.1.1.slice
        obtain ⟨eZ, mZ, hZ, rfl⟩ := sZ.1.2.slice
        obtain ⟨AZ, NZ, CZ, rfl⟩ := sZ.2.1.slice
        obtain ⟨EZ, MZ, GZ, rfl⟩ := sZ.2.2.slice
        have NV := SV.new sZ
        have g29 : Fr (w28.alloc (.cells #[.slice aW nW dW, .slice eW mW hW, .slice AW NW CW, .slice EW MW GW] 46)) (w29.alloc (.cells #[.slice aZ nZ dZ, .slice eZ mZ hZ, .slice AZ NZ CZ, .slice EZ MZ GZ] 46)) := f29.alloc _
        replace VU := hideP (VU.out.fr g29)
        replace VW := hideP (VW.out.fr g29)
        replace DX := hideP (DX.out.fr g29)
        replace DY := hideP (DY.out.fr g29)
        replace HF := hideP (HF.out.trans g29)
        have VZ := hideP NV
        clear NV g29 f29 sZ xZ yZ
        obtain ⟨kW0, kW1, kW2, kW3, _, _, _, _⟩ := VW.out.b.four
        have c30 := plainEnd_true _ _ _ _ r (w29.alloc (.cells #[.slice aZ nZ dZ, .slice eZ mZ hZ, .slice AZ NZ CZ, .slice EZ MZ GZ] 46)) VW.out.s HRs.out
        go_wp2_with fail
        refine c30.mono ?_
        rintro _ w30 ⟨rfl, f30⟩
        clear c30
        clear kW0 kW1 kW2 kW3
        replace VU := hideP (VU.out.fr f30)
        replace VW := hideP (VW.out.fr f30)
        replace VZ := hideP (VZ.out.fr f30)
        replace DX := hideP (DX.out.fr f30)
        replace DY := hideP (DY.out.fr f30)
        replace HF := hideP (HF.out.trans f30)
        clear f30
        obtain ⟨kW0, kW1, kW2, kW3, _, _, _, _⟩ := VW.out.b.four
        obtain ⟨kZ0, kZ1, kZ2, kZ3, _, _, _, _⟩ := VZ.out.b.four
        have c31 := sameTexts_any _ _ r.da.pg z.da.pg w30 VW.out.s.1.1 VZ.out.s.1.1 (by omega)
        go_wp2_with fail
        refine c31.mono ?_
        rintro _ w31 ⟨⟨r1, rfl, hr1⟩, f31⟩
        clear c31
        clear kW0 kW1 kW2 kW3
        clear kZ0 kZ1 kZ2 kZ3
        replace VU := hideP (VU.out.fr f31)
        replace VW := hideP (VW.out.fr f31)
        replace VZ := hideP (VZ.out.fr f31)
        replace DX := hideP (DX.out.fr f31)
        replace DY := hideP (DY.out.fr f31)
        replace HF := hideP (HF.out.trans f31)
        clear f31
        obtain rfl := hr1 HZ.out
        go_wp2_with fail
        go_ret
        exact ⟨rfl, HF.out⟩
  · have e1 : JN.stepsS s l = ([], JN.stepsChk s l) := by rw [JN.stepsS, if_neg h0]
    generalize JN.stepsChk s l = y at e1 h0
    have hne : ((y : Int) != 0) = true := by simp; omega
    have hne2 : ¬ ((y : Int) = 0) := by omega
    have HS := hideP e1
    clear e1
    go_enter Try.func13, Try.ntmps13
    obtain ⟨kS0, kS1, kS2, kS3, _, _, _, _⟩ := VS.out.b.four
    have c21 := steps_any _ _ _ _ _ s l (w.alloc (.cells #[.slice aS nS dS, .slice eS mS hS, .slice AS NS CS, .slice ES MS GS] 46)) VS.out.s LL.out hb1 hb2
    rw [HS.out] at c21
    go_wp2_with fail
    refine c21.mono ?_
    rintro _ w21 ⟨vP, rfl, oP, f21⟩
    clear c21
    clear kS0 kS1 kS2 kS3
    obtain ⟨aP, dP, rfl⟩ := own_slice oP
    replace VS := hideP (VS.out.fr f21)
    replace LL := hideP (LL.out.fr f21)
    replace HF := hideP (HF.out.trans f21)
    clear oP f21
    have c22 := journalBegun_any w21
    go_wp2_with fail
    refine c22.mono ?_
    rintro _ w22 ⟨rfl, f22⟩
    clear c22
    replace VS := hideP (VS.out.fr f22)
    replace LL := hideP (LL.out.fr f22)
    replace HF := hideP (HF.out.trans f22)
    clear f22
    go_wp2_with fail
    go_ret
    exact ⟨rfl, HF.out⟩

set_option maxRecDepth 100000 in
theorem lifted (os : Go.Os) (started : os.Started) (H : Type) (enc : TypeId × Value → H) :
    ReturnsInHanded {} Try.checked os 13 .any (Rows.commitTwiceSpec.pre6 enc Try.prog Try.f13 Rows.commitTwiceRow.domain false) (Rows.commitTwiceSpec.post enc Try.prog Try.f13 false true false false) := by
  refine returnsInHanded_of_change_sized (C := Try.checked) own started (by kernel_rfl) Try.func13
    (ChangeSpec.witness6 (enc := enc) (C := Try.checked) false ⟨#[], #[.agg #[.slice none 0 0, .slice none 0 0, .slice none 0 0, .slice none 0 0], .slice none 0 0, .int .i64 0, .int .i64 0, .int .u64 0, .int .u64 0, .int .u64 0, .int .u64 0], []⟩ 8 (by kernel_rfl) (by kernel_rfl) (by kernel_rfl) (by kernel_rfl)) ?_
  intro W base args ds gs before hval0 hW hcnd hsz0 _
  have hval : ∀ (j : Nat) t v, Try.f13.params[j]? = some t → args[j]? = some v → Value.okWide Try.prog W .any base t v := hval0
  have hsz : (DataW.weightsEach Try.prog (Try.f13.params.toList ++ Rows.commitTwiceSpec.plain.varTypes Try.prog) (ds ++ gs)).all (· ≤ reachBytes) = true := hsz0
  have hW' := hW
  obtain ⟨p, q, hA0, hV, rfl, hfz, hnd⟩ := hW
  have hA : DataW.TrodAll enc Try.prog W 0 (fun _ => true) true Try.f13.params.toList args.toList ds p := hA0
  rw [Try.params13] at hA hval hsz
  obtain ⟨v0, vs0, d0, ds0, p0, q0, hargs, rfl, rfl, h0, r0⟩ := trodAll_cons hA
  obtain ⟨v1, vs1, d1, ds1, p1, q1, rfl, rfl, rfl, h1, r1⟩ := trodAll_cons r0
  obtain ⟨v2, vs2, d2, ds2, p2, q2, rfl, rfl, rfl, h2, r2⟩ := trodAll_cons r1
  obtain ⟨v3, vs3, d3, ds3, p3, q3, rfl, rfl, rfl, h3, r3⟩ := trodAll_cons r2
  obtain ⟨v4, vs4, d4, ds4, p4, q4, rfl, rfl, rfl, h4, r4⟩ := trodAll_cons r3
  obtain ⟨v5, vs5, d5, ds5, p5, q5, rfl, rfl, rfl, h5, r5⟩ := trodAll_cons r4
  obtain ⟨v6, vs6, d6, ds6, p6, q6, rfl, rfl, rfl, h6, r6⟩ := trodAll_cons r5
  obtain ⟨v7, vs7, d7, ds7, p7, q7, rfl, rfl, rfl, h7, r7⟩ := trodAll_cons r6
  obtain ⟨rfl, rfl, rfl⟩ := trodAll_nil r7
  obtain rfl : args = #[v0, v1, v2, v3, v4, v5, v6, v7] := by cases args; simp_all
  obtain ⟨rfl, rfl⟩ := trodVars_none hV
  obtain ⟨x0, y0, X0, Y0, l0, rfl, rw0, bd0⟩ := open_store (hval 0 46 v0 rfl rfl) h0 (sized_at hsz (j := 0) rfl rfl)
  obtain ⟨l1, rw1, wd1, b1⟩ := open_writes (hval 1 23 v1 rfl rfl) h1 (sized_at hsz (j := 1) rfl rfl)
  obtain ⟨a2, rfl, rfl, rfl, w2⟩ := open_int Try.underlying3 (hval 2 3 v2 rfl rfl) h2
  obtain ⟨a3, rfl, rfl, rfl, w3⟩ := open_int Try.underlying3 (hval 3 3 v3 rfl rfl) h3
  obtain ⟨a4, rfl, rfl, rfl, w4⟩ := open_int Try.underlying26 (hval 4 26 v4 rfl rfl) h4
  obtain ⟨a5, rfl, rfl, rfl, w5⟩ := open_int Try.underlying26 (hval 5 26 v5 rfl rfl) h5
  obtain ⟨a6, rfl, rfl, rfl, w6⟩ := open_int Try.underlying26 (hval 6 26 v6 rfl rfl) h6
  obtain ⟨a7, rfl, rfl, rfl, w7⟩ := open_int Try.underlying26 (hval 7 26 v7 rfl rfl) h7
  clear hA0 hval0 hsz0
  refine (walk x0 y0 X0 Y0 l0 v1 l1 a2 a3 a4 a5 a6 a7 W rw0 bd0 rw1 wd1 b1 (wf_i64 w2) (wf_i64 w3) (wf_u64 w4) (wf_u64 w5) (wf_u64 w6) (wf_u64 w7)).mono fun e W' ⟨he, bel⟩ => ?_
  subst he
  exact ⟨_, rfl, _, _, _, [], _, [], hW', trodAll_mk1 (shut_bool Try.underlying4 _), (trodAll_cons_mk (shut_store h0 bel) (trodAll_cons_mk (shut_writes h1 bel) (trodAll_cons_mk (shut_int Try.underlying3 w2) (trodAll_cons_mk (shut_int Try.underlying3 w3) (trodAll_cons_mk (shut_int Try.underlying26 w4) (trodAll_cons_mk (shut_int Try.underlying26 w5) (trodAll_cons_mk (shut_int Try.underlying26 w6) (trodAll_cons_mk (shut_int Try.underlying26 w7) trodAll_mk0)))))))), rfl, Below.frame bel _, fun h => by cases h⟩

theorem over : Rows.commitTwiceRow.holds Try.pinned (OpenSpec.ofChange Rows.commitTwiceSpec) :=
  OpenClaim.holds_of_wide 13 Try.f13 rfl rfl rfl rfl rfl rfl rfl ⟨rfl, rfl, rfl, rfl, rfl⟩ rfl rfl rfl rfl rfl (by kernel_rfl) Try.func13 (by kernel_rfl)
    (of_decide_eq_true (by kernel_rfl)) (by unfold Func.isWrapper; first | (rw [if_pos (by decide +kernel)]; kernel_rfl) | (rw [if_neg (by decide +kernel)]; exact ⟨rfl, rfl⟩))
    (fun os started H enc _ => lifted os started H enc)

end Go.Proofs.Ytklldfkaihpkiaa.CommitTwice
namespace Go.Proofs.Ytklldfkaihpkiaa
theorem commitTwice_holds : Rows.CommitTwiceSaid := CommitTwice.over
#print axioms commitTwice_holds
end Go.Proofs.Ytklldfkaihpkiaa
