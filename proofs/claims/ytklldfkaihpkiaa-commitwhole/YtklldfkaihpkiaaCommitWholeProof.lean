/-
  Proved: for every store, all writes, every number of steps done and every choice of what lands CommitWhole answers true: a store that crashes in the midst of its steps and is recovered has all pages as before, or all as they were to be. No condition but the form's own reach.
-/
import Derived.Test.YtklldfkaihpkiaaJdL
import Derived.Test.YtklldfkaihpkiaaJdM
import Derived.Test.YtklldfkaihpkiaaOpenD
import Derived.Deep.DeepCutAuto
import Derived.Deep.CutRange
namespace Go.Proofs.Ytklldfkaihpkiaa.CommitWhole
open Go.ChangeShapes Go.WideShapes Go.ChangeAt Go.RowKit
set_option linter.unusedVariables false
set_option linter.unusedSimpArgs false
set_option maxRecDepth 100000

theorem playO_ok : ∀ (l : List JN.O) (s : JN.S), JN.OkS s → (JN.playO s l).2 = 0 → JN.OkS (JN.playO s l).1
  | [], s, h, _ => h
  | o :: l, s, h, h2 => by
    unfold JN.playO at h2 ⊢
    by_cases e : (JN.opS s o).2 = 0
    · rw [if_pos e] at h2 ⊢; exact playO_ok l _ (JN.op_ok h e).1 h2
    · rw [if_neg e] at h2; exact absurd h2 e
theorem play_ok {s : JN.S} {l : List JN.O} (h : (JN.playS s l).2 = 0) : JN.OkS (JN.playS s l).1 := by
  obtain ⟨hs, _, e⟩ := JN.playS_err h
  rw [e] at h ⊢
  exact playO_ok l s hs h
theorem sett_new {s : JN.S} {l : List JN.W} (h : JN.CanStep s l) : JN.trim (JN.sett s.da.pg l 18446744073709551615) = JN.newP s l := by
  have hm := h.many
  rw [JN.newP, JN.pagesOf]
  congr 1
  unfold JN.sett
  refine List.map_congr_left ?_
  intro i hi
  have e : JN.pageAt s.da.pg (i : Int) = JN.fn s.da.pg (i : Int).toNat := by rw [JN.pageAt, if_neg (by omega)]
  rw [e, JN.last_land (by omega) l (JN.fn s.da.pg) 18446744073709551615 (fun x hx => (h.each x hx).1.1)]
  have e2 : JN.land (JN.fn s.da.pg) (l.map JN.wn) (JN.bits 18446744073709551615) = JN.land (JN.fn s.da.pg) (l.map JN.wn) JN.all := JN.land_bits_all _ _ (by rw [List.length_map]; omega)
  rw [e2, Int.toNat_natCast]
theorem pr {α : Type} {r : α × Nat} (h : r.2 = 0) : r = (r.1, 0) := Prod.ext rfl h
/-- all that the walk wants of the plain side, in letters -/
theorem facts {s : JN.S} {l : List JN.W} (h : (JN.stepsS s l).2 = 0) (n : Nat) (a b : Nat → Bool) : ∃ t x y u, JN.playS s ((JN.stepsO s l).take n) = (t, 0) ∧ JN.crashD t.da a = (x, 0) ∧ JN.crashD t.jo b = (y, 0) ∧ JN.recS ⟨x, y⟩ = (u, 0) ∧ JN.rest u ∧ JN.OkS t ∧ JN.OkS ⟨x, y⟩ ∧ u.da.pg.length ≤ 32 ∧
    (u.da.pg = s.da.pg ∧ n < (JN.stepsO s l).length ∨ u.da.pg = JN.trim (JN.sett s.da.pg l 18446744073709551615) ∧ l.length + 2 < n) := by
  obtain ⟨e, hc⟩ := JN.steps_can h
  obtain ⟨a1, a2, a3, a4, _⟩ := JN.behind_fn h n a b
  obtain ⟨b1, b2, b3⟩ := JN.commit_whole h n a b
  have hset := sett_new hc
  unfold JN.behind at a4 b1 b2 b3
  rw [e] at a1 a2 a3 a4 b1 b2 b3
  have ht := play_ok a1
  refine ⟨_, _, _, _, pr a1, pr a2, pr a3, pr b1, b2, ht, a4, ?_, ?_⟩
  case refine_2 =>
    rw [hset]
    exact b3
  rcases b3 with ⟨b3, _⟩ | ⟨b3, _⟩ <;> rw [b3]
  · exact hc.ok.da.len
  · exact Nat.le_trans (JN.trim_len _) (by simp)
set_option maxHeartbeats 20000000 in
theorem walk (p q P Q : Value) (s : JN.S) (v : Value) (l : List JN.W) (k a b : Int) (w : World) (hr : IsS w p q P Q s) (hb : BD s.da ∧ BD s.jo) (hl : IsL cdW w v l) (ho : ∀ y ∈ l, -9223372036854775808 ≤ y.no ∧ y.no ≤ 9223372036854775807) (hlen : l.length * 24 ≤ 140737488351232) (hk : -9223372036854775808 ≤ k ∧ k ≤ 9223372036854775807) (ha : 0 ≤ a ∧ a ≤ 18446744073709551615) (hbm : 0 ≤ b ∧ b ≤ 18446744073709551615) :
    Calls Try.prog 12 #[.agg #[p, q, P, Q], v, .int .i64 k, .int .u64 a, .int .u64 b] w fun e w' => e = .returned (.bool true) ∧ Fr w w' := by
  obtain ⟨a, rfl⟩ := Int.eq_ofNat_of_zero_le ha.1
  obtain ⟨b, rfl⟩ := Int.eq_ofNat_of_zero_le hbm.1
  have ha2 : a < 18446744073709551616 := by omega
  have hb3 : b < 18446744073709551616 := by omega
  obtain ⟨aS, nS, dS, rfl⟩ := hr.1.1.slice
  obtain ⟨eS, mS, hS, rfl⟩ := hr.1.2.slice
  obtain ⟨AS, NS, CS, rfl⟩ := hr.2.1.slice
  obtain ⟨ES, MS, GS, rfl⟩ := hr.2.2.slice
  obtain ⟨av, cv, rfl, _, _⟩ := id hl
  have hb1 := hb.1.pl
  have hb2 := hb.2.pl
  have VS := hideP (SV.new hr)
  have HF : Hid (Fr w (w.alloc (.cells #[.slice aS nS dS, .slice eS mS hS, .slice AS NS CS, .slice ES MS GS] 46))) := (Fr.refl w).alloc _
  have LL := hideP (hl.fr ((Fr.refl w).alloc (.cells #[.slice aS nS dS, .slice eS mS hS, .slice AS NS CS, .slice ES MS GS] 46)))
  clear hr hl ho hb ha hbm
  by_cases h0 : JN.stepsChk s l = 0
  · have e1 : JN.stepsS s l = (JN.stepsO s l, 0) := by rw [JN.stepsS, if_pos h0]
    have hfx := facts (s := s) (l := l) (by rw [e1])
    generalize JN.stepsO s l = o at e1 hfx
    have HS := hideP e1
    clear e1 h0
    by_cases hk0 : k < 0
    · clear hfx
      go_enter Try.func12, Try.ntmps12
      obtain ⟨kS0, kS1, kS2, kS3, _, _, _, _⟩ := VS.out.b.four
      have c21 := steps_any _ _ _ _ _ s l (w.alloc (.cells #[.slice aS nS dS, .slice eS mS hS, .slice AS NS CS, .slice ES MS GS] 46)) VS.out.s LL.out hb1 hb2
      rw [HS.out] at c21
      go_wp2_with fail
      refine c21.mono ?_
      rintro _ w21 ⟨vP, rfl, oP, f21⟩
      clear c21
      clear kS0 kS1 kS2 kS3
      obtain ⟨aP, dP, rfl⟩ := own_slice oP
      replace VS := hideP (VS.out.fr f21)
      replace LL := hideP (LL.out.fr f21)
      replace HF := hideP (HF.out.trans f21)
      clear oP f21
      have c22 := journalBegun_any w21
      go_wp2_with fail
      refine c22.mono ?_
      rintro _ w22 ⟨rfl, f22⟩
      clear c22
      replace VS := hideP (VS.out.fr f22)
      replace LL := hideP (LL.out.fr f22)
      replace HF := hideP (HF.out.trans f22)
      clear f22
      go_wp2_with fail
      go_ret
      exact ⟨rfl, HF.out⟩
    by_cases hk1 : (o.length : Int) < k
    · clear hfx
      go_enter Try.func12, Try.ntmps12
      obtain ⟨kS0, kS1, kS2, kS3, _, _, _, _⟩ := VS.out.b.four
      have c21 := steps_any _ _ _ _ _ s l (w.alloc (.cells #[.slice aS nS dS, .slice eS mS hS, .slice AS NS CS, .slice ES MS GS] 46)) VS.out.s LL.out hb1 hb2
      rw [HS.out] at c21
      go_wp2_with fail
      refine c21.mono ?_
      rintro _ w21 ⟨vP, rfl, oP, f21⟩
      clear c21
      clear kS0 kS1 kS2 kS3
      obtain ⟨aP, dP, rfl⟩ := own_slice oP
      replace VS := hideP (VS.out.fr f21)
      replace LL := hideP (LL.out.fr f21)
      replace HF := hideP (HF.out.trans f21)
      clear oP f21
      have c22 := journalBegun_any w21
      go_wp2_with fail
      refine c22.mono ?_
      rintro _ w22 ⟨rfl, f22⟩
      clear c22
      replace VS := hideP (VS.out.fr f22)
      replace LL := hideP (LL.out.fr f22)
      replace HF := hideP (HF.out.trans f22)
      clear f22
      go_wp2_with fail
      go_ret
      exact ⟨rfl, HF.out⟩
    obtain ⟨n, rfl⟩ := Int.eq_ofNat_of_zero_le (show 0 ≤ k by omega)
    have hn : n ≤ o.length := by omega
    obtain ⟨t, x, y, u, f1, f2, f3, f4, hrest, ht, hxy, hul, hor⟩ := hfx n (JN.bits a) (JN.bits b)
    have hk2 : ¬ ((n : Int) < 0) := hk0
    have hk3 : ¬ ((o.length : Int) < (n : Int)) := hk1
    have hk4 : (0 : Int) ≤ (n : Int) := by omega
    have hk6 : (n : Int) ≤ (o.length : Int) := by omega
    have ht1 := ht.da.len
    have ht3 := ht.jo.len
    have hx1 := hxy.da.len
    have hx3 := hxy.jo.len
    simp only at hx1 hx3
    have F1 := hideP f1
    have F2 := hideP f2
    have F3 := hideP f3
    have F4 := hideP f4
    have HRs := hideP hrest
    have HOr := hideP hor
    clear hfx hk0 hk1 f1 f2 f3 f4 hrest ht hxy hor
    go_enter Try.func12, Try.ntmps12
    obtain ⟨kS0, kS1, kS2, kS3, _, _, _, _⟩ := VS.out.b.four
    have c21 := steps_any _ _ _ _ _ s l (w.alloc (.cells #[.slice aS nS dS, .slice eS mS hS, .slice AS NS CS, .slice ES MS GS] 46)) VS.out.s LL.out hb1 hb2
    rw [HS.out] at c21
    go_wp2_with fail
    refine c21.mono ?_
    rintro _ w21 ⟨vP, rfl, oP, f21⟩
    clear c21
    clear kS0 kS1 kS2 kS3
    obtain ⟨aP, dP, rfl⟩ := own_slice oP
    replace VS := hideP (VS.out.fr f21)
    replace LL := hideP (LL.out.fr f21)
    replace HF := hideP (HF.out.trans f21)
    have LP := hideP (isL_own oP)
    have hdP : (n : Int) ≤ (dP : Int) := by have h : o.length ≤ dP := LP.out.cap.2; omega
    clear oP f21
    have c22 := journalBegun_any w21
    go_wp2_with fail
    refine c22.mono ?_
    rintro _ w22 ⟨rfl, f22⟩
    clear c22
    replace VS := hideP (VS.out.fr f22)
    replace LL := hideP (LL.out.fr f22)
    replace LP := hideP (LP.out.fr f22)
    replace HF := hideP (HF.out.trans f22)
    clear f22
    have cp := fun W (f : Fr w22 W) => play_any _ _ _ _ (.slice aP n dP) s (o.take n) W (VS.out.s.fr f) ((LP.out.upto n hn).fr f) hb1 hb2
    rw [F1.out] at cp
    have CP := hideP (cp)
    have HS3 := hideP (show w22.cell? ⟨w.heap.size, 0, none⟩ = some (.slice aS nS dS) ∧ w22.cell? ⟨w.heap.size, 1, none⟩ = some (.slice eS mS hS) ∧ w22.cell? ⟨w.heap.size, 2, none⟩ = some (.slice AS NS CS) ∧ w22.cell? ⟨w.heap.size, 3, none⟩ = some (.slice ES MS GS) from by
      obtain ⟨k0, k1, k2, k3, _, _, _, _⟩ := VS.out.b.four
      exact ⟨k0, k1, k2, k3⟩)
    have hlt0 : w.heap.size < w22.heap.size := VS.out.b.lt
    have hz := Fr.drew (Fr.refl w22)
    have hy := Fr.drew (Fr.alloc (Fr.refl w22) (.cells #[.slice none 0 0, .slice none 0 0, .slice none 0 0, .slice none 0 0] 46))
    go_upto_region 6 with fail
    try simp only [show decide ((n : Int) < 0) = false from by simp, show decide (o.length < n) = false from by simp; omega, Bool.or_false]
    go_cut [13, 14] from 43 to 50 (fun s4 s5 wx => ∃ N p q P Q, s4 = .pointer (some ⟨N, 0, none⟩) ∧ s5 = .int .i64 0 ∧ SV wx N p q P Q t ∧ Fr w22 wx)
    case first =>
      go_region_held3 (fun W => W.cell? ⟨w.heap.size, 0, none⟩ = some (.slice aS nS dS) ∧ W.cell? ⟨w.heap.size, 1, none⟩ = some (.slice eS mS hS) ∧ W.cell? ⟨w.heap.size, 2, none⟩ = some (.slice AS NS CS) ∧ W.cell? ⟨w.heap.size, 3, none⟩ = some (.slice ES MS GS)) (first | exact HS3.out | assumption | exact s4_after hz HS3.out | exact s4_after (Fr.alloc hz _) HS3.out | exact s4_after hy HS3.out | exact s4_after (Fr.after f5 hz) HS3.out | exact s4_after (Fr.after f5 hy) HS3.out | exact s4_after (Fr.after f5 (Fr.alloc hz _)) HS3.out | exact s4_after (Fr.alloc (Fr.after f5 hz) _) HS3.out | exact s4_set4 HS3.out (Fr.after f5 (Fr.alloc hz _)) (by omega) | exact s4_set4 HS3.out (Fr.after f5 hy) (by omega)) (first
        | (go_at_call 35; refine (CP.out _ (by first | exact hz | exact Fr.alloc hz _ | exact hy)).mono ?_; rintro _ w5 ⟨p5, q5, P5, Q5, rfl, hs5, hx5, hy5, f5⟩; obtain ⟨b1, n1, d1, rfl⟩ := hs5.1.1.slice; obtain ⟨b2, n2, d2, rfl⟩ := hs5.1.2.slice; obtain ⟨b3, n3, d3, rfl⟩ := hs5.2.1.slice; obtain ⟨b4, n4, d4, rfl⟩ := hs5.2.2.slice; have HS5 := hideP hs5; have HX5 := hideP hx5; have HY5 := hideP hy5; clear hs5 hx5 hy5; (first | (have HN5 : Hid (Blk w5 w22.heap.size #[.slice none 0 0, .slice none 0 0, .slice none 0 0, .slice none 0 0] 46) := (Blk.new w22.drew #[.slice none 0 0, .slice none 0 0, .slice none 0 0, .slice none 0 0] 46).fr f5) | (have HN5 : Hid (Blk w5 w22.heap.size #[.slice none 0 0, .slice none 0 0, .slice none 0 0, .slice none 0 0] 46) := ((Blk.new w22 #[.slice none 0 0, .slice none 0 0, .slice none 0 0, .slice none 0 0] 46).fr (Fr.drew (Fr.refl _))).fr f5) | skip); (first | (obtain ⟨g0, g1, g2, g3, y0, y1, y2, y3⟩ := HN5.out.four) | skip)))
      all_goals (go_wp2_with fail; go_meet)
      all_goals first
        | exact ⟨_, _, _, _, _, rfl, rfl, SV.new HS5.out, Fr.alloc (Fr.after f5 hz) _⟩
        | exact ⟨_, _, _, _, _, rfl, rfl, sv_set (Fr.alloc hz _) (Blk.new w22.drew #[.slice none 0 0, .slice none 0 0, .slice none 0 0, .slice none 0 0] 46) (Nat.le_refl _) f5 HS5.out HX5.out HY5.out⟩
        | exact ⟨_, _, _, _, _, rfl, rfl, sv_set hy ((Blk.new w22 #[.slice none 0 0, .slice none 0 0, .slice none 0 0, .slice none 0 0] 46).fr (Fr.drew (Fr.refl _))) (Nat.le_refl _) f5 HS5.out HX5.out HY5.out⟩
    case rest =>
      obtain ⟨nT0, pT, qT, PT, QT, rfl, rfl, vT, fcut⟩ := hcut
      replace VS := hideP (VS.out.fr fcut)
      replace LL := hideP (LL.out.fr fcut)
      replace LP := hideP (LP.out.fr fcut)
      replace HF := hideP (HF.out.trans fcut)
      obtain ⟨aT, nT, dT, rfl⟩ := vT.s.1.1.slice
      obtain ⟨eT, mT, hT, rfl⟩ := vT.s.1.2.slice
      obtain ⟨AT, NT, CT, rfl⟩ := vT.s.2.1.slice
      obtain ⟨ET, MT, GT, rfl⟩ := vT.s.2.2.slice
      have VT := hideP vT
      clear vT fcut CP HS3 hz hy hlt0
      clear cp
      obtain ⟨kT0, kT1, kT2, kT3, _, _, _, _⟩ := VT.out.b.four
      have c23 := crash_any _ _ t.da a wc VT.out.s.1 (by omega) ha2
      rw [F2.out] at c23
      go_wp2_with fail
      refine c23.mono ?_
      rintro _ w23 ⟨pX, qX, rfl, oX, f23⟩
      clear c23
      clear kT0 kT1 kT2 kT3
      obtain ⟨aX, nX, dX, rfl⟩ := own_slice' oX.pg
      obtain ⟨eX, mX, hX, rfl⟩ := own_slice' oX.wt
      have NV := DV.new oX.is
      have g23 : Fr wc (w23.alloc (.cells #[.slice aX nX dX, .slice eX mX hX] 25)) := f23.alloc _
      replace VS := hideP (VS.out.fr g23)
      replace VT := hideP (VT.out.fr g23)
      replace LL := hideP (LL.out.fr g23)
      replace LP := hideP (LP.out.fr g23)
      replace HF := hideP (HF.out.trans g23)
      have DX := hideP NV
      have OX := hideP oX
      clear NV g23 f23 oX
      obtain ⟨kT0, kT1, kT2, kT3, _, _, _, _⟩ := VT.out.b.four
      have c24 := crash_any _ _ t.jo b (w23.alloc (.cells #[.slice aX nX dX, .slice eX mX hX] 25)) VT.out.s.2 (by omega) hb3
      rw [F3.out] at c24
      go_wp2_with fail
      refine c24.mono ?_
      rintro _ w24 ⟨pY, qY, rfl, oY, f24⟩
      clear c24
      clear kT0 kT1 kT2 kT3
      obtain ⟨aY, nY, dY, rfl⟩ := own_slice' oY.pg
      obtain ⟨eY, mY, hY, rfl⟩ := own_slice' oY.wt
      have NV := DV.new oY.is
      have g24 : Fr (w23.alloc (.cells #[.slice aX nX dX, .slice eX mX hX] 25)) (w24.alloc (.cells #[.slice aY nY dY, .slice eY mY hY] 25)) := f24.alloc _
      replace VS := hideP (VS.out.fr g24)
      replace VT := hideP (VT.out.fr g24)
      replace DX := hideP (DX.out.fr g24)
      replace LL := hideP (LL.out.fr g24)
      replace LP := hideP (LP.out.fr g24)
      replace HF := hideP (HF.out.trans g24)
      have DY := hideP NV
      have OY := hideP oY
      clear NV g24 f24 oY
      obtain ⟨kX0, kX1, _, _⟩ := DX.out.b.two
      obtain ⟨kY0, kY1, _, _⟩ := DY.out.b.two
      have c25 := recover_any _ _ _ _ ⟨x, y⟩ (w24.alloc (.cells #[.slice aY nY dY, .slice eY mY hY] 25)) ⟨DX.out.d, DY.out.d⟩ (by simp only; omega) (by simp only; omega)
      rw [F4.out] at c25
      go_wp2_with fail
      refine c25.mono ?_
      rintro _ w25 ⟨pU, qU, PU, QU, rfl, sU, xU, yU, f25⟩
      clear c25
      clear kX0 kX1
      clear kY0 kY1
      obtain ⟨aU, nU, dU, rfl⟩ := sU.1.1.slice
      obtain ⟨eU, mU, hU, rfl⟩ := sU.1.2.slice
      obtain ⟨AU, NU, CU, rfl⟩ := sU.2.1.slice
      obtain ⟨EU, MU, GU, rfl⟩ := sU.2.2.slice
      have NV := SV.new sU
      have g25 : Fr (w24.alloc (.cells #[.slice aY nY dY, .slice eY mY hY] 25)) (w25.alloc (.cells #[.slice aU nU dU, .slice eU mU hU, .slice AU NU CU, .slice EU MU GU] 46)) := f25.alloc _
      replace VS := hideP (VS.out.fr g25)
      replace VT := hideP (VT.out.fr g25)
      replace DX := hideP (DX.out.fr g25)
      replace DY := hideP (DY.out.fr g25)
      replace LL := hideP (LL.out.fr g25)
      replace LP := hideP (LP.out.fr g25)
      replace HF := hideP (HF.out.trans g25)
      have VU := hideP NV
      have XU := hideP xU
      have YU := hideP yU
      clear NV g25 f25 sU xU yU
      obtain ⟨kU0, kU1, kU2, kU3, _, _, _, _⟩ := VU.out.b.four
      have c26 := plainEnd_true _ _ _ _ u (w25.alloc (.cells #[.slice aU nU dU, .slice eU mU hU, .slice AU NU CU, .slice EU MU GU] 46)) VU.out.s HRs.out
      go_wp2_with fail
      refine c26.mono ?_
      rintro _ w26 ⟨rfl, f26⟩
      clear c26
      clear kU0 kU1 kU2 kU3
      replace VS := hideP (VS.out.fr f26)
      replace VT := hideP (VT.out.fr f26)
      replace VU := hideP (VU.out.fr f26)
      replace DX := hideP (DX.out.fr f26)
      replace DY := hideP (DY.out.fr f26)
      replace LL := hideP (LL.out.fr f26)
      replace LP := hideP (LP.out.fr f26)
      replace HF := hideP (HF.out.trans f26)
      clear f26
      obtain ⟨kU0, kU1, kU2, kU3, _, _, _, _⟩ := VU.out.b.four
      obtain ⟨kS0, kS1, kS2, kS3, _, _, _, _⟩ := VS.out.b.four
      have c27 := sameTexts_any _ _ u.da.pg s.da.pg w26 VU.out.s.1.1 VS.out.s.1.1 (by omega)
      go_wp2_with fail
      refine c27.mono ?_
      rintro _ w27 ⟨⟨r1, rfl, hr1⟩, f27⟩
      clear c27
      clear kU0 kU1 kU2 kU3
      clear kS0 kS1 kS2 kS3
      replace VS := hideP (VS.out.fr f27)
      replace VT := hideP (VT.out.fr f27)
      replace VU := hideP (VU.out.fr f27)
      replace DX := hideP (DX.out.fr f27)
      replace DY := hideP (DY.out.fr f27)
      replace LL := hideP (LL.out.fr f27)
      replace LP := hideP (LP.out.fr f27)
      replace HF := hideP (HF.out.trans f27)
      clear f27
      have HS3 := hideP (show w27.cell? ⟨w25.heap.size, 0, none⟩ = some (.slice aU nU dU) ∧ w27.cell? ⟨w.heap.size, 0, none⟩ = some (.slice aS nS dS) from by
        obtain ⟨k0, k1, k2, k3, _, _, _, _⟩ := VU.out.b.four
        obtain ⟨j0, _⟩ := VS.out.b.four
        exact ⟨k0, j0⟩)
      have CQ := hideP (fun W (f : Fr w27 W) => settled_any _ _ s.da.pg l 18446744073709551615 W (VS.out.s.1.1.fr f) (LL.out.fr f) (by decide) (by omega))
      have hz := Fr.drew (Fr.refl w27)
      have HR1 := hideP hr1
      clear hr1
      go_upto_region 13 with fail
      go_region_held3 (fun W => W.cell? ⟨w25.heap.size, 0, none⟩ = some (.slice aU nU dU) ∧ W.cell? ⟨w.heap.size, 0, none⟩ = some (.slice aS nS dS)) (first | exact HS3.out | assumption | exact s2_after hz HS3.out | exact s2_after (Fr.after f7 hz) HS3.out | exact s2_after (Fr.after f8 (Fr.after f7 hz)) HS3.out) (first
        | (go_at_call 42; refine (CQ.out _ hz).mono ?_; rintro _ w7 ⟨v7, rfl, h7, f7⟩; obtain ⟨a7, n7, d7, rfl⟩ := h7.slice; have H7 := hideP h7; clear h7)
        | (go_at_call 27; refine (sameTexts_any _ _ u.da.pg _ _ (VU.out.s.1.1.fr (Fr.after f7 hz)) H7.out (by omega)).mono ?_; rintro _ w8 ⟨⟨r8, rfl, hr8⟩, f8⟩; have HR8 := hideP hr8; clear hr8))
      all_goals rcases HOr.out with ⟨e9, h9⟩ | ⟨e9, h9⟩
      · obtain rfl := HR1.out e9
        have h10 : (n : Int) < (o.length : Int) := by omega
        clear e9
        go_wp2_with fail
        all_goals go_ret
        all_goals exact ⟨rfl, HF.out.trans (Fr.after f8 (Fr.after f7 hz))⟩
      · obtain rfl := HR8.out e9
        have h10 : (l.length : Int) + 2 < (n : Int) := by omega
        clear e9
        cases r1
        all_goals go_wp2_with fail
        all_goals go_ret
        all_goals exact ⟨rfl, HF.out.trans (Fr.after f8 (Fr.after f7 hz))⟩
  · have e1 : JN.stepsS s l = ([], JN.stepsChk s l) := by rw [JN.stepsS, if_neg h0]
    generalize JN.stepsChk s l = y at e1 h0
    have hne : ((y : Int) != 0) = true := by simp; omega
    have hne2 : ¬ ((y : Int) = 0) := by omega
    have HS := hideP e1
    clear e1
    go_enter Try.func12, Try.ntmps12
    obtain ⟨kS0, kS1, kS2, kS3, _, _, _, _⟩ := VS.out.b.four
    have c21 := steps_any _ _ _ _ _ s l (w.alloc (.cells #[.slice aS nS dS, .slice eS mS hS, .slice AS NS CS, .slice ES MS GS] 46)) VS.out.s LL.out hb1 hb2
    rw [HS.out] at c21
    go_wp2_with fail
    refine c21.mono ?_
    rintro _ w21 ⟨vP, rfl, oP, f21⟩
    clear c21
    clear kS0 kS1 kS2 kS3
    obtain ⟨aP, dP, rfl⟩ := own_slice oP
    replace VS := hideP (VS.out.fr f21)
    replace LL := hideP (LL.out.fr f21)
    replace HF := hideP (HF.out.trans f21)
    clear oP f21
    have c22 := journalBegun_any w21
    go_wp2_with fail
    refine c22.mono ?_
    rintro _ w22 ⟨rfl, f22⟩
    clear c22
    replace VS := hideP (VS.out.fr f22)
    replace LL := hideP (LL.out.fr f22)
    replace HF := hideP (HF.out.trans f22)
    clear f22
    go_wp2_with fail
    go_ret
    exact ⟨rfl, HF.out⟩

set_option maxRecDepth 100000 in
theorem lifted (os : Go.Os) (started : os.Started) (H : Type) (enc : TypeId × Value → H) :
    ReturnsInHanded {} Try.checked os 12 .any (Rows.commitWholeSpec.pre6 enc Try.prog Try.f12 Rows.commitWholeRow.domain false) (Rows.commitWholeSpec.post enc Try.prog Try.f12 false true false false) := by
  refine returnsInHanded_of_change_sized (C := Try.checked) own started (by kernel_rfl) Try.func12
    (ChangeSpec.witness6 (enc := enc) (C := Try.checked) false ⟨#[], #[.agg #[.slice none 0 0, .slice none 0 0, .slice none 0 0, .slice none 0 0], .slice none 0 0, .int .i64 0, .int .u64 0, .int .u64 0], []⟩ 8 (by kernel_rfl) (by kernel_rfl) (by kernel_rfl) (by kernel_rfl)) ?_
  intro W base args ds gs before hval0 hW hcnd hsz0 _
  have hval : ∀ (j : Nat) t v, Try.f12.params[j]? = some t → args[j]? = some v → Value.okWide Try.prog W .any base t v := hval0
  have hsz : (DataW.weightsEach Try.prog (Try.f12.params.toList ++ Rows.commitWholeSpec.plain.varTypes Try.prog) (ds ++ gs)).all (· ≤ reachBytes) = true := hsz0
  have hW' := hW
  obtain ⟨p, q, hA0, hV, rfl, hfz, hnd⟩ := hW
  have hA : DataW.TrodAll enc Try.prog W 0 (fun _ => true) true Try.f12.params.toList args.toList ds p := hA0
  rw [Try.params12] at hA hval hsz
  obtain ⟨v0, vs0, d0, ds0, p0, q0, hargs, rfl, rfl, h0, r0⟩ := trodAll_cons hA
  obtain ⟨v1, vs1, d1, ds1, p1, q1, rfl, rfl, rfl, h1, r1⟩ := trodAll_cons r0
  obtain ⟨v2, vs2, d2, ds2, p2, q2, rfl, rfl, rfl, h2, r2⟩ := trodAll_cons r1
  obtain ⟨v3, vs3, d3, ds3, p3, q3, rfl, rfl, rfl, h3, r3⟩ := trodAll_cons r2
  obtain ⟨v4, vs4, d4, ds4, p4, q4, rfl, rfl, rfl, h4, r4⟩ := trodAll_cons r3
  obtain ⟨rfl, rfl, rfl⟩ := trodAll_nil r4
  obtain rfl : args = #[v0, v1, v2, v3, v4] := by cases args; simp_all
  obtain ⟨rfl, rfl⟩ := trodVars_none hV
  obtain ⟨x0, y0, X0, Y0, l0, rfl, rw0, bd0⟩ := open_store (hval 0 46 v0 rfl rfl) h0 (sized_at hsz (j := 0) rfl rfl)
  obtain ⟨l1, rw1, wd1, b1⟩ := open_writes (hval 1 23 v1 rfl rfl) h1 (sized_at hsz (j := 1) rfl rfl)
  obtain ⟨a2, rfl, rfl, rfl, w2⟩ := open_int Try.underlying3 (hval 2 3 v2 rfl rfl) h2
  obtain ⟨a3, rfl, rfl, rfl, w3⟩ := open_int Try.underlying26 (hval 3 26 v3 rfl rfl) h3
  obtain ⟨a4, rfl, rfl, rfl, w4⟩ := open_int Try.underlying26 (hval 4 26 v4 rfl rfl) h4
  clear hA0 hval0 hsz0
  refine (walk x0 y0 X0 Y0 l0 v1 l1 a2 a3 a4 W rw0 bd0 rw1 wd1 b1 (wf_i64 w2) (wf_u64 w3) (wf_u64 w4)).mono fun e W' ⟨he, bel⟩ => ?_
  subst he
  exact ⟨_, rfl, _, _, _, [], _, [], hW', trodAll_mk1 (shut_bool Try.underlying4 _), (trodAll_cons_mk (shut_store h0 bel) (trodAll_cons_mk (shut_writes h1 bel) (trodAll_cons_mk (shut_int Try.underlying3 w2) (trodAll_cons_mk (shut_int Try.underlying26 w3) (trodAll_cons_mk (shut_int Try.underlying26 w4) trodAll_mk0))))), rfl, Below.frame bel _, fun h => by cases h⟩

theorem over : Rows.commitWholeRow.holds Try.pinned (OpenSpec.ofChange Rows.commitWholeSpec) :=
  OpenClaim.holds_of_wide 12 Try.f12 rfl rfl rfl rfl rfl rfl rfl ⟨rfl, rfl, rfl, rfl, rfl⟩ rfl rfl rfl rfl rfl (by kernel_rfl) Try.func12 (by kernel_rfl)
    (of_decide_eq_true (by kernel_rfl)) (by unfold Func.isWrapper; first | (rw [if_pos (by decide +kernel)]; kernel_rfl) | (rw [if_neg (by decide +kernel)]; exact ⟨rfl, rfl⟩))
    (fun os started H enc _ => lifted os started H enc)

end Go.Proofs.Ytklldfkaihpkiaa.CommitWhole
namespace Go.Proofs.Ytklldfkaihpkiaa
theorem commitWhole_holds : Rows.CommitWholeSaid := CommitWhole.over
#print axioms commitWhole_holds
end Go.Proofs.Ytklldfkaihpkiaa
