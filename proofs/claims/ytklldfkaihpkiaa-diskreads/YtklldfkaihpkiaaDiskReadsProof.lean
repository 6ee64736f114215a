/-
  Proved: for every disk, place, text and other place DiskReads answers true: what is written is read, and all other pages as they were; and so behind a Sync. No condition but the form's own reach.
-/
import Derived.Test.YtklldfkaihpkiaaDkBg
import Derived.Test.YtklldfkaihpkiaaOpenD
namespace Go.Proofs.Ytklldfkaihpkiaa.DiskReads
open Go.ChangeShapes Go.WideShapes Go.ChangeAt Go.RowKit
open Go.ChangeMaps (open_string shut_string)
set_option linter.unusedVariables false
set_option linter.unusedSimpArgs false
set_option maxRecDepth 100000

theorem own_len {B n sz m : Nat} {T : TypeId} {a : Option Addr} {c : Nat} {xs : List Value} {w : World} (h : w.ownsRow B T sz (.slice a m c) n xs) : m = n := by
  obtain ⟨a', c', e⟩ := own_slice h
  simp only [Value.slice.injEq] at e
  exact e.2.1
theorem write_none {d : JN.D} {n : Int} {t : JN.B} (h : ¬ (JN.writeD d n t).2 = 0) : JN.writeD d n t = (JN.none, (JN.writeD d n t).2) := by
  rw [JN.write_eq] at h ⊢
  by_cases h1 : JN.dchk d = 0
  · rw [if_pos h1] at h ⊢
    by_cases h2 : JN.w1 n t = 0
    · rw [if_pos h2] at h ⊢
      by_cases h3 : d.wt.length = 48
      · rw [if_pos h3]
      · rw [if_neg h3] at h; exact absurd rfl h
    · rw [if_neg h2]
  · rw [if_neg h1]
set_option maxHeartbeats 400000 in
theorem walk (p q : Value) (d : JN.D) (no : Int) (s : ByteArray) (other : Int) (w : World) (hr : IsD w p q d) (hb : BD d) (hno : -9223372036854775808 ≤ no ∧ no ≤ 9223372036854775807) (hs : s.size ≤ 140737488351232) (hot : -9223372036854775808 ≤ other ∧ other ≤ 9223372036854775807) :
    Calls Try.prog 4 #[.agg #[p, q], .int .i64 no, .string s, .int .i64 other] w fun e w' => e = .returned (.bool true) ∧ Fr w w' := by
  obtain ⟨ap, np, dp, rfl⟩ : ∃ a n c, p = .slice a n c := by obtain ⟨a, c, e, _⟩ := hr.1; exact ⟨_, _, _, e⟩
  obtain ⟨aq, nq, dq, rfl⟩ : ∃ a n c, q = .slice a n c := by obtain ⟨a, c, e, _⟩ := hr.2; exact ⟨_, _, _, e⟩
  have VD := hideP (DV.new hr)
  have HF : Hid (Fr w (w.alloc (.cells #[.slice ap np dp, .slice aq nq dq] 25))) := (Fr.refl w).alloc _
  clear hr hno hot hs
  obtain ⟨r, hrr⟩ : ∃ r, JN.writeD d no s = r := ⟨_, rfl⟩
  by_cases h0 : r.2 = 0
  · obtain ⟨g1, g2, g3, g4, g5, g6⟩ := JN.disk_reads (d := d) (n := no) (t := s) (by rw [hrr]; exact h0)
    obtain ⟨x, z⟩ := r
    simp only at h0
    subst h0
    have hx : JN.OkD x := by
      obtain ⟨a, b, c, e⟩ := JN.write_err (d := d) (n := no) (t := s) (by rw [hrr])
      have := (JN.write_ok a b c e)
      rw [this.1] at hrr
      simp only [Prod.mk.injEq, and_true] at hrr
      rw [← hrr]; exact this.2.1
    rw [hrr] at g1 g2 g3 g4 g5 g6
    simp only at g1 g2 g3 g4 g5 g6
    have hy : JN.OkD (JN.crashD x JN.all).1 := (JN.crash_ok hx JN.all).2.1
    obtain ⟨y, hyy⟩ : ∃ y, JN.crashD x JN.all = (y, 0) := ⟨_, Prod.ext rfl g1⟩
    rw [hyy] at g2 g3 hy
    simp only at g2 g3 hy
    have hxl := hx.len
    have hyl := hy.len
    have e1 := (g3 no).symm.trans g4
    have e2 := (g3 other).symm
    have e3 := g5 other
    have e4 := g6 other
    have G2 := hideP g2
    have HR := hideP hrr
    have HY := hideP hyy
    have G4 := hideP g4
    have E1 := hideP e1
    have E2 := hideP e2
    generalize hR : JN.readD x other = R at E2 e3 e4
    generalize hQ : JN.readD d other = Q at e3 e4
    obtain ⟨t1, k1⟩ := R
    obtain ⟨t2, k2⟩ := Q
    simp only at e3
    subst e3
    have HRx := hideP hR
    have HRd := hideP hQ
    have HE4 : Hid (other ≠ no → t1 = t2) := fun h => by have := e4 h; simp only [Prod.mk.injEq] at this; exact this.1
    clear g1 g2 g3 g4 g5 g6 hrr hyy e1 e2 e4 hR hQ hx hy
    by_cases ho : other = no
    · have ho' := ho.symm
      subst ho'
      go_enter Try.func4, Try.ntmps4
      obtain ⟨kD0, kD1, _, _⟩ := VD.out.b.two
      have c1 := write_any _ _ d no s (w.alloc (.cells #[.slice ap np dp, .slice aq nq dq] 25)) VD.out.d hb.pl
      rw [HR.out] at c1
      go_wp2_with fail
      refine c1.mono ?_
      rintro _ w1 ⟨pX, qX, rfl, oX, f1⟩
      obtain ⟨aX, nX, dX, rfl⟩ := own_slice' oX.pg
      obtain ⟨eX, mX, hX, rfl⟩ := own_slice' oX.wt
      clear c1
      clear kD0 kD1
      have NV := DV.new oX.is
      have g1 : Fr (w.alloc (.cells #[.slice ap np dp, .slice aq nq dq] 25)) (w1.alloc (.cells #[.slice aX nX dX, .slice eX mX hX] 25)) := f1.alloc _
      have VD := hideP (VD.out.fr g1)
      have HF := hideP (HF.out.trans g1)
      have VX := hideP NV
      clear NV g1 f1
      have OX := hideP oX
      clear oX
      have c2 := diskBegun_any (w1.alloc (.cells #[.slice aX nX dX, .slice eX mX hX] 25))
      go_wp2_with fail
      refine c2.mono ?_
      rintro _ w2 ⟨rfl, f2⟩
      clear c2
      have VD := hideP (VD.out.fr f2)
      have VX := hideP (VX.out.fr f2)
      have HF := hideP (HF.out.trans f2)
      clear f2
      obtain ⟨kX0, kX1, _, _⟩ := VX.out.b.two
      have c3 := sync_any _ _ x w2 VX.out.d (by omega)
      rw [HY.out] at c3
      go_wp2_with fail
      refine c3.mono ?_
      rintro _ w3 ⟨pY, qY, rfl, oY, f3⟩
      obtain ⟨aY, nY, dY, rfl⟩ := own_slice' oY.pg
      obtain ⟨eY, mY, hY, rfl⟩ := own_slice' oY.wt
      clear c3
      clear kX0 kX1
      have NV := DV.new oY.is
      have g3 : Fr w2 (w3.alloc (.cells #[.slice aY nY dY, .slice eY mY hY] 25)) := f3.alloc _
      have VD := hideP (VD.out.fr g3)
      have VX := hideP (VX.out.fr g3)
      have HF := hideP (HF.out.trans g3)
      have VY := hideP NV
      clear NV g3 f3
      have OY := hideP oY
      clear oY
      have hmY := own_len OY.out.wt
      simp only [G2.out, List.length_nil] at hmY
      subst hmY
      obtain ⟨kX0, kX1, _, _⟩ := VX.out.b.two
      have c4 := read_any _ _ x no (w3.alloc (.cells #[.slice aY nY dY, .slice eY 0 hY] 25)) VX.out.d (by omega)
      rw [G4.out] at c4
      go_wp2_with fail
      refine c4.mono ?_
      rintro _ w4 ⟨rfl, f4⟩
      clear c4
      clear kX0 kX1
      have VD := hideP (VD.out.fr f4)
      have VX := hideP (VX.out.fr f4)
      have VY := hideP (VY.out.fr f4)
      have HF := hideP (HF.out.trans f4)
      clear f4
      obtain ⟨kY0, kY1, _, _⟩ := VY.out.b.two
      have c5 := read_any _ _ y no w4 VY.out.d (by omega)
      rw [E1.out] at c5
      go_wp2_with fail
      refine c5.mono ?_
      rintro _ w5 ⟨rfl, f5⟩
      clear c5
      clear kY0 kY1
      have VD := hideP (VD.out.fr f5)
      have VX := hideP (VX.out.fr f5)
      have VY := hideP (VY.out.fr f5)
      have HF := hideP (HF.out.trans f5)
      clear f5
      obtain ⟨kY0, kY1, _, _⟩ := VY.out.b.two
      obtain ⟨kD0, kD1, _, _⟩ := VD.out.b.two
      have c6 := read_any _ _ d no w5 VD.out.d hb.pl
      rw [HRd.out] at c6
      go_wp2_with fail
      refine c6.mono ?_
      rintro _ w6 ⟨rfl, f6⟩
      clear c6
      clear kD0 kD1
      have VD := hideP (VD.out.fr f6)
      have VX := hideP (VX.out.fr f6)
      have VY := hideP (VY.out.fr f6)
      have HF := hideP (HF.out.trans f6)
      clear f6
      clear kY0 kY1
      obtain ⟨kX0, kX1, _, _⟩ := VX.out.b.two
      have c7 := read_any _ _ x no w6 VX.out.d (by omega)
      rw [HRx.out] at c7
      go_wp2_with fail
      refine c7.mono ?_
      rintro _ w7 ⟨rfl, f7⟩
      clear c7
      clear kX0 kX1
      have VD := hideP (VD.out.fr f7)
      have VX := hideP (VX.out.fr f7)
      have VY := hideP (VY.out.fr f7)
      have HF := hideP (HF.out.trans f7)
      clear f7
      obtain ⟨kY0, kY1, _, _⟩ := VY.out.b.two
      have c8 := read_any _ _ y no w7 VY.out.d (by omega)
      rw [E2.out] at c8
      go_wp2_with fail
      refine c8.mono ?_
      rintro _ w8 ⟨rfl, f8⟩
      clear c8
      clear kY0 kY1
      have VD := hideP (VD.out.fr f8)
      have VX := hideP (VX.out.fr f8)
      have VY := hideP (VY.out.fr f8)
      have HF := hideP (HF.out.trans f8)
      clear f8
      go_wp2_with fail
      go_ret
      exact ⟨rfl, HF.out⟩
    · have ho1 : (other == no) = false := by simpa using ho
      obtain rfl := HE4.out ho
      go_enter Try.func4, Try.ntmps4
      obtain ⟨kD0, kD1, _, _⟩ := VD.out.b.two
      have c1 := write_any _ _ d no s (w.alloc (.cells #[.slice ap np dp, .slice aq nq dq] 25)) VD.out.d hb.pl
      rw [HR.out] at c1
      go_wp2_with fail
      refine c1.mono ?_
      rintro _ w1 ⟨pX, qX, rfl, oX, f1⟩
      obtain ⟨aX, nX, dX, rfl⟩ := own_slice' oX.pg
      obtain ⟨eX, mX, hX, rfl⟩ := own_slice' oX.wt
      clear c1
      clear kD0 kD1
      have NV := DV.new oX.is
      have g1 : Fr (w.alloc (.cells #[.slice ap np dp, .slice aq nq dq] 25)) (w1.alloc (.cells #[.slice aX nX dX, .slice eX mX hX] 25)) := f1.alloc _
      have VD := hideP (VD.out.fr g1)
      have HF := hideP (HF.out.trans g1)
      have VX := hideP NV
      clear NV g1 f1
      have OX := hideP oX
      clear oX
      have c2 := diskBegun_any (w1.alloc (.cells #[.slice aX nX dX, .slice eX mX hX] 25))
      go_wp2_with fail
      refine c2.mono ?_
      rintro _ w2 ⟨rfl, f2⟩
      clear c2
      have VD := hideP (VD.out.fr f2)
      have VX := hideP (VX.out.fr f2)
      have HF := hideP (HF.out.trans f2)
      clear f2
      obtain ⟨kX0, kX1, _, _⟩ := VX.out.b.two
      have c3 := sync_any _ _ x w2 VX.out.d (by omega)
      rw [HY.out] at c3
      go_wp2_with fail
      refine c3.mono ?_
      rintro _ w3 ⟨pY, qY, rfl, oY, f3⟩
      obtain ⟨aY, nY, dY, rfl⟩ := own_slice' oY.pg
      obtain ⟨eY, mY, hY, rfl⟩ := own_slice' oY.wt
      clear c3
      clear kX0 kX1
      have NV := DV.new oY.is
      have g3 : Fr w2 (w3.alloc (.cells #[.slice aY nY dY, .slice eY mY hY] 25)) := f3.alloc _
      have VD := hideP (VD.out.fr g3)
      have VX := hideP (VX.out.fr g3)
      have HF := hideP (HF.out.trans g3)
      have VY := hideP NV
      clear NV g3 f3
      have OY := hideP oY
      clear oY
      have hmY := own_len OY.out.wt
      simp only [G2.out, List.length_nil] at hmY
      subst hmY
      obtain ⟨kX0, kX1, _, _⟩ := VX.out.b.two
      have c4 := read_any _ _ x no (w3.alloc (.cells #[.slice aY nY dY, .slice eY 0 hY] 25)) VX.out.d (by omega)
      rw [G4.out] at c4
      go_wp2_with fail
      refine c4.mono ?_
      rintro _ w4 ⟨rfl, f4⟩
      clear c4
      clear kX0 kX1
      have VD := hideP (VD.out.fr f4)
      have VX := hideP (VX.out.fr f4)
      have VY := hideP (VY.out.fr f4)
      have HF := hideP (HF.out.trans f4)
      clear f4
      obtain ⟨kY0, kY1, _, _⟩ := VY.out.b.two
      have c5 := read_any _ _ y no w4 VY.out.d (by omega)
      rw [E1.out] at c5
      go_wp2_with fail
      refine c5.mono ?_
      rintro _ w5 ⟨rfl, f5⟩
      clear c5
      clear kY0 kY1
      have VD := hideP (VD.out.fr f5)
      have VX := hideP (VX.out.fr f5)
      have VY := hideP (VY.out.fr f5)
      have HF := hideP (HF.out.trans f5)
      clear f5
      obtain ⟨kY0, kY1, _, _⟩ := VY.out.b.two
      obtain ⟨kD0, kD1, _, _⟩ := VD.out.b.two
      have c6 := read_any _ _ d other w5 VD.out.d hb.pl
      rw [HRd.out] at c6
      go_wp2_with fail
      refine c6.mono ?_
      rintro _ w6 ⟨rfl, f6⟩
      clear c6
      clear kD0 kD1
      have VD := hideP (VD.out.fr f6)
      have VX := hideP (VX.out.fr f6)
      have VY := hideP (VY.out.fr f6)
      have HF := hideP (HF.out.trans f6)
      clear f6
      clear kY0 kY1
      obtain ⟨kX0, kX1, _, _⟩ := VX.out.b.two
      have c7 := read_any _ _ x other w6 VX.out.d (by omega)
      rw [HRx.out] at c7
      go_wp2_with fail
      refine c7.mono ?_
      rintro _ w7 ⟨rfl, f7⟩
      clear c7
      clear kX0 kX1
      have VD := hideP (VD.out.fr f7)
      have VX := hideP (VX.out.fr f7)
      have VY := hideP (VY.out.fr f7)
      have HF := hideP (HF.out.trans f7)
      clear f7
      obtain ⟨kY0, kY1, _, _⟩ := VY.out.b.two
      have c8 := read_any _ _ y other w7 VY.out.d (by omega)
      rw [E2.out] at c8
      go_wp2_with fail
      refine c8.mono ?_
      rintro _ w8 ⟨rfl, f8⟩
      clear c8
      clear kY0 kY1
      have VD := hideP (VD.out.fr f8)
      have VX := hideP (VX.out.fr f8)
      have VY := hideP (VY.out.fr f8)
      have HF := hideP (HF.out.trans f8)
      clear f8
      go_wp2_with fail
      go_ret
      exact ⟨rfl, HF.out⟩
  · have e : r = (JN.none, r.2) := by
      rw [← hrr] at h0 ⊢
      exact write_none h0
    rw [e] at hrr
    generalize r.2 = y at hrr h0
    have hne : ((y : Int) != 0) = true := by simp; omega
    have hne2 : ¬ ((y : Int) = 0) := by omega
    have HR := hideP hrr
    clear hrr e
    go_enter Try.func4, Try.ntmps4
    obtain ⟨kD0, kD1, _, _⟩ := VD.out.b.two
    have c1 := write_any _ _ d no s (w.alloc (.cells #[.slice ap np dp, .slice aq nq dq] 25)) VD.out.d hb.pl
    rw [HR.out] at c1
    go_wp2_with fail
    refine c1.mono ?_
    rintro _ w1 ⟨pX, qX, rfl, oX, f1⟩
    obtain ⟨aX, nX, dX, rfl⟩ := own_slice' oX.pg
    obtain ⟨eX, mX, hX, rfl⟩ := own_slice' oX.wt
    clear c1
    clear kD0 kD1
    have NV := DV.new oX.is
    have g1 : Fr (w.alloc (.cells #[.slice ap np dp, .slice aq nq dq] 25)) (w1.alloc (.cells #[.slice aX nX dX, .slice eX mX hX] 25)) := f1.alloc _
    have VD := hideP (VD.out.fr g1)
    have HF := hideP (HF.out.trans g1)
    have VX := hideP NV
    clear NV g1 f1
    have OX := hideP oX
    clear oX
    have c2 := diskBegun_any (w1.alloc (.cells #[.slice aX nX dX, .slice eX mX hX] 25))
    go_wp2_with fail
    refine c2.mono ?_
    rintro _ w2 ⟨rfl, f2⟩
    clear c2
    have VD := hideP (VD.out.fr f2)
    have VX := hideP (VX.out.fr f2)
    have HF := hideP (HF.out.trans f2)
    clear f2
    obtain ⟨kX0, kX1, _, _⟩ := VX.out.b.two
    have c3 := sameDisk_eq _ _ _ _ JN.none w2 VX.out.d (isD_none _) (by decide) (by decide)
    go_wp2_with fail
    refine c3.mono ?_
    rintro _ w3 ⟨rfl, f3⟩
    clear c3
    clear kX0 kX1
    have VD := hideP (VD.out.fr f3)
    have VX := hideP (VX.out.fr f3)
    have HF := hideP (HF.out.trans f3)
    clear f3
    go_wp2_with fail
    go_ret
    exact ⟨rfl, HF.out⟩

set_option maxRecDepth 100000 in
theorem lifted (os : Go.Os) (started : os.Started) (H : Type) (enc : TypeId × Value → H) :
    ReturnsInHanded {} Try.checked os 4 .any (Rows.diskReadsSpec.pre6 enc Try.prog Try.f4 Rows.diskReadsRow.domain false) (Rows.diskReadsSpec.post enc Try.prog Try.f4 false true false false) := by
  refine returnsInHanded_of_change_sized (C := Try.checked) own started (by kernel_rfl) Try.func4
    (ChangeSpec.witness6 (enc := enc) (C := Try.checked) false ⟨#[], #[.agg #[.slice none 0 0, .slice none 0 0], .int .i64 0, .string ByteArray.empty, .int .i64 0], []⟩ 8 (by kernel_rfl) (by kernel_rfl) (by kernel_rfl) (by kernel_rfl)) ?_
  intro W base args ds gs before hval0 hW hcnd hsz0 _
  have hval : ∀ (j : Nat) t v, Try.f4.params[j]? = some t → args[j]? = some v → Value.okWide Try.prog W .any base t v := hval0
  have hsz : (DataW.weightsEach Try.prog (Try.f4.params.toList ++ Rows.diskReadsSpec.plain.varTypes Try.prog) (ds ++ gs)).all (· ≤ reachBytes) = true := hsz0
  have hW' := hW
  obtain ⟨p, q, hA0, hV, rfl, hfz, hnd⟩ := hW
  have hA : DataW.TrodAll enc Try.prog W 0 (fun _ => true) true Try.f4.params.toList args.toList ds p := hA0
  rw [Try.params4] at hA hval hsz
  obtain ⟨v0, vs0, d0, ds0, p0, q0, hargs, rfl, rfl, h0, r0⟩ := trodAll_cons hA
  obtain ⟨v1, vs1, d1, ds1, p1, q1, rfl, rfl, rfl, h1, r1⟩ := trodAll_cons r0
  obtain ⟨v2, vs2, d2, ds2, p2, q2, rfl, rfl, rfl, h2, r2⟩ := trodAll_cons r1
  obtain ⟨v3, vs3, d3, ds3, p3, q3, rfl, rfl, rfl, h3, r3⟩ := trodAll_cons r2
  obtain ⟨rfl, rfl, rfl⟩ := trodAll_nil r3
  obtain rfl : args = #[v0, v1, v2, v3] := by cases args; simp_all
  obtain ⟨rfl, rfl⟩ := trodVars_none hV
  obtain ⟨x0, y0, l0, rfl, rw0, bd0⟩ := open_disk (hval 0 25 v0 rfl rfl) h0 (sized_at hsz (j := 0) rfl rfl)
  obtain ⟨a1, rfl, rfl, rfl, w1⟩ := open_int Try.underlying3 (hval 1 3 v1 rfl rfl) h1
  obtain ⟨a2, rfl, rfl, rfl, w2⟩ := open_string Try.underlying9 (hval 2 9 v2 rfl rfl) h2
  obtain ⟨a3, rfl, rfl, rfl, w3⟩ := open_int Try.underlying3 (hval 3 3 v3 rfl rfl) h3
  have b2 : a2.size ≤ 140737488351232 := by
    have h := sized_string hsz (j := 2) (t := 9) rfl rfl
    simpa [reachBytes] using h
  clear hA0 hval0 hsz0
  refine (walk x0 y0 l0 a1 a2 a3 W rw0 bd0 (wf_i64 w1) b2 (wf_i64 w3)).mono fun e W' ⟨he, bel⟩ => ?_
  subst he
  exact ⟨_, rfl, _, _, _, [], _, [], hW', trodAll_mk1 (shut_bool Try.underlying4 _), (trodAll_cons_mk (shut_disk h0 bel) (trodAll_cons_mk (shut_int Try.underlying3 w1) (trodAll_cons_mk (shut_string Try.underlying9 w2) (trodAll_cons_mk (shut_int Try.underlying3 w3) trodAll_mk0)))), rfl, Below.frame bel _, fun h => by cases h⟩

theorem over : Rows.diskReadsRow.holds Try.pinned (OpenSpec.ofChange Rows.diskReadsSpec) :=
  OpenClaim.holds_of_wide 4 Try.f4 rfl rfl rfl rfl rfl rfl rfl ⟨rfl, rfl, rfl, rfl, rfl⟩ rfl rfl rfl rfl rfl (by kernel_rfl) Try.func4 (by kernel_rfl)
    (of_decide_eq_true (by kernel_rfl)) (by unfold Func.isWrapper; first | (rw [if_pos (by decide +kernel)]; kernel_rfl) | (rw [if_neg (by decide +kernel)]; exact ⟨rfl, rfl⟩))
    (fun os started H enc _ => lifted os started H enc)

end Go.Proofs.Ytklldfkaihpkiaa.DiskReads
namespace Go.Proofs.Ytklldfkaihpkiaa
theorem diskReads_holds : Rows.DiskReadsSaid := DiskReads.over
#print axioms diskReads_holds
end Go.Proofs.Ytklldfkaihpkiaa
