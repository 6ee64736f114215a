/-
  Proved: for every disk, every choice of what lands and every place DiskEither answers true: behind a crash each page is what was there for good, or one of the writes that waited for it. No condition but the form's own reach.
-/
import Derived.Test.YtklldfkaihpkiaaDkBg
import Derived.Test.YtklldfkaihpkiaaOpenD
namespace Go.Proofs.Ytklldfkaihpkiaa.DiskEither
open Go.ChangeShapes Go.WideShapes Go.ChangeAt Go.RowKit
set_option linter.unusedVariables false
set_option linter.unusedSimpArgs false
set_option maxRecDepth 100000

theorem own_len {B n sz m : Nat} {T : TypeId} {a : Option Addr} {c : Nat} {xs : List Value} {w : World} (h : w.ownsRow B T sz (.slice a m c) n xs) : m = n := by
  obtain ⟨a', c', e⟩ := own_slice h
  simp only [Value.slice.injEq] at e
  exact e.2.1
/-- one of the writes ahead of a place is that one -/
def hit (no : Int) (s : JN.B) (l : List JN.W) : Bool := l.any fun x => x.no == no && decide (x.t = s)
theorem hit_take {no : Int} {s : JN.B} {l : List JN.W} {i : Nat} (h : i < l.length) : hit no s (l.take (i + 1)) = (hit no s (l.take i) || (l[i].no == no && decide (l[i].t = s))) := by
  unfold hit
  rw [List.take_succ_eq_append_getElem h, List.any_append]
  simp
theorem ne_list {x y : ByteArray} (h : x ≠ y) : (x.toList == y.toList) = false := by
  have : ¬ x.toList = y.toList := by
    intro e
    rw [ByteArray.toList_eq, ByteArray.toList_eq] at e
    exact h (ByteArray.ext (Array.toList_inj.1 e))
  simpa using this
set_option maxHeartbeats 1000000 in
theorem walk (p q : Value) (d : JN.D) (m : Int) (no : Int) (w : World) (hr : IsD w p q d) (hb : BD d) (hm : 0 ≤ m ∧ m ≤ 18446744073709551615) (hno : -9223372036854775808 ≤ no ∧ no ≤ 9223372036854775807) :
    Calls Try.prog 6 #[.agg #[p, q], .int .u64 m, .int .i64 no] w fun e w' => e = .returned (.bool true) ∧ Fr w w' := by
  obtain ⟨m, rfl⟩ := Int.eq_ofNat_of_zero_le hm.1
  have hm2 : m < 18446744073709551616 := by omega
  obtain ⟨ap, np, dp, rfl⟩ : ∃ a n c, p = .slice a n c := by obtain ⟨a, c, e, _⟩ := hr.1; exact ⟨_, _, _, e⟩
  obtain ⟨aq, dq, rfl, hcap, hcs⟩ := hr.2
  obtain ⟨nq, hnq⟩ : ∃ nq, d.wt.length = nq := ⟨_, rfl⟩
  rw [hnq] at hr hcap ⊢
  have VD := hideP (DV.new hr)
  have HF : Hid (Fr w (w.alloc (.cells #[.slice ap np dp, .slice aq nq dq] 25))) := (Fr.refl w).alloc _
  have HC := hideP hcs
  have HN := hideP hnq
  have hq2 : nq ≤ 9223372036854775806 := by have := hb.wl; omega
  clear hr hm hcs hnq
  obtain ⟨r, hrr⟩ : ∃ r, JN.crashD d (JN.bits m) = r := ⟨_, rfl⟩
  by_cases h0 : r.2 = 0
  · have hok : JN.OkD d := JN.crash_err (m := JN.bits m) (by rw [hrr]; exact h0)
    obtain ⟨k1, k2, k3, k4⟩ := JN.crash_ok hok (JN.bits m)
    rw [hrr] at k2 k3 k4
    obtain ⟨x, z⟩ := r
    simp only at h0 k2 k3 k4
    subst h0
    have hxl := k2.len
    have HR := hideP hrr
    have K3 := hideP k3
    by_cases hp : 0 ≤ no ∧ no < 32
    · obtain ⟨hp0, hp1⟩ := hp
      obtain ⟨n, rfl⟩ := Int.eq_ofNat_of_zero_le hp0
      have e1 : JN.readD x n = (JN.land (JN.fn d.pg) (d.wt.map JN.wn) (JN.bits m) n, 0) := by
        rw [JN.readD, if_pos ((JN.dchk_ok x).2 k2), if_neg (by omega), k3]
        have : JN.fn x.pg = _ := congrArg JN.Dk.pg k4
        rw [this]; rfl
      have hei := JN.land_either (n := n) (d.wt.map JN.wn) (JN.fn d.pg) (JN.bits m)
      have e2 : JN.pageAt d.pg (n : Int) = JN.fn d.pg n := by rw [JN.pageAt, if_neg (by omega), Int.toNat_natCast]
      generalize JN.land (JN.fn d.pg) (d.wt.map JN.wn) (JN.bits m) n = s at e1 hei
      have hfin : decide (s = JN.pageAt d.pg (n : Int)) = true ∨ hit (n : Int) s d.wt = true := by
        rcases hei with h | ⟨v, hv, h1, h2⟩
        · exact .inl (by rw [e2]; simpa using h)
        · right
          obtain ⟨y, hy, rfl⟩ := List.mem_map.1 hv
          unfold hit
          rw [List.any_eq_true]
          refine ⟨y, hy, ?_⟩
          have hy0 := (hok.each y hy).1
          simp only [JN.wn] at h1 h2
          simp only [Bool.and_eq_true, beq_iff_eq, decide_eq_true_eq]
          exact ⟨by omega, h2⟩
      have cpa := fun W (h : IsL cdP W (.slice ap np dp) d.pg) => pageAt_any (.slice ap np dp) d.pg (n : Int) W h
      generalize JN.pageAt d.pg (n : Int) = pg0 at hfin cpa
      have HFi := hideP hfin
      have E1 := hideP e1
      clear hrr hok k1 k2 k3 k4 e1 e2 hei hfin hno
      go_enter Try.func6, Try.ntmps6
      obtain ⟨kD0, kD1, _, _⟩ := VD.out.b.two
      have c1 := crash_any _ _ d m (w.alloc (.cells #[.slice ap np dp, .slice aq nq dq] 25)) VD.out.d hb.pl hm2
      rw [HR.out] at c1
      go_wp2_with fail
      refine c1.mono ?_
      rintro _ w1 ⟨pX, qX, rfl, oX, f1⟩
      obtain ⟨aX, nX, dX, rfl⟩ := own_slice' oX.pg
      obtain ⟨eX, mX, hX, rfl⟩ := own_slice' oX.wt
      clear c1
      clear kD0 kD1
      have NV := DV.new oX.is
      have g1 : Fr (w.alloc (.cells #[.slice ap np dp, .slice aq nq dq] 25)) (w1.alloc (.cells #[.slice aX nX dX, .slice eX mX hX] 25)) := f1.alloc _
      replace VD := hideP (VD.out.fr g1)
      replace HF := hideP (HF.out.trans g1)
      have VX := hideP NV
      clear NV g1 f1
      have OX := hideP oX
      clear oX
      have hmX := own_len OX.out.wt
      simp only [K3.out, List.length_nil] at hmX
      subst hmX
      have c2 := diskBegun_any (w1.alloc (.cells #[.slice aX nX dX, .slice eX 0 hX] 25))
      go_wp2_with fail
      refine c2.mono ?_
      rintro _ w2 ⟨rfl, f2⟩
      clear c2
      replace VD := hideP (VD.out.fr f2)
      replace VX := hideP (VX.out.fr f2)
      replace HF := hideP (HF.out.trans f2)
      clear f2
      obtain ⟨kX0, kX1, _, _⟩ := VX.out.b.two
      have c3 := read_any _ _ x (n : Int) w2 VX.out.d (by omega)
      rw [E1.out] at c3
      go_wp2_with fail
      refine c3.mono ?_
      rintro _ w3 ⟨rfl, f3⟩
      clear c3
      clear kX0 kX1
      replace VD := hideP (VD.out.fr f3)
      replace VX := hideP (VX.out.fr f3)
      replace HF := hideP (HF.out.trans f3)
      clear f3
      obtain ⟨kD0, kD1, _, _⟩ := VD.out.b.two
      have cpb := cpa _ VD.out.d.1
      clear cpa
      go_wp2_with fail
      refine cpb.mono ?_
      rintro _ W ⟨rfl, rfl⟩
      clear cpb
      obtain ⟨eb, heb⟩ : ∃ eb, (s.toList == pg0.toList) = eb := ⟨_, rfl⟩
      have hebd : eb = decide (s = pg0) := by
        rw [← heb]
        by_cases h : s = pg0
        · subst h; simp
        · rw [ne_list h]; simp [h]
      have HEB := hideP hebd
      clear hebd
      obtain ⟨kX0, kX1, _, _⟩ := VX.out.b.two
      go_wp2_with fail
      go_loop [11, 12] (fun ov iv => ∃ i : Nat, iv = .int .i64 i ∧ i ≤ nq ∧ ov = .bool (eb || hit (n : Int) s (d.wt.take i))) (fun _ iv => nq - (intOf iv).toNat)
      case atStart => exact ⟨0, rfl, Nat.zero_le _, by simp [hit]⟩
      case round =>
        obtain ⟨i, rfl, hi, rfl⟩ := hrel
        by_cases hlt : i < nq
        · have hlt0 : i < d.wt.length := by rw [HN.out]; exact hlt
          obtain ⟨b, o, rfl, hbb, hc⟩ : ∃ b o, aq = some ⟨b, o, none⟩ ∧ b < w.heap.size ∧ At cdW w b o d.wt := by
            rcases HC.out with h | h
            · rw [h] at hlt0; simp at hlt0
            · exact h
          obtain ⟨c0, c1⟩ := (hc.fr hbb HF.out).wr i hlt0
          have HH := hideP (hit_take (no := (n : Int)) (s := s) hlt0)
          generalize d.wt[i].no = x1 at c0 HH
          generalize d.wt[i].t = x2 at c1 HH
          have hltZ : (i : Int) < (nq : Int) := by omega
          clear hc hlt0
          generalize hhb : hit (n : Int) s (d.wt.take i) = hb1 at HH ⊢
          clear hhb
          by_cases hx : x1 = (n : Int)
          · subst hx
            by_cases hs : x2 = s
            · subst hs
              cases eb <;> cases hb1
              all_goals
                go_wp2_with fail
                go_round
                case rel => exact ⟨i + 1, by go_num, by omega, by rw [HH.out]; simp⟩
                case measure => simp [intOf]; omega
            · have ns := ne_list hs
              have ns2 : ¬ x2.toList = s.toList := by simpa using ns
              have HS := hideP hs
              clear hs
              cases eb <;> cases hb1
              all_goals
                go_wp2_with fail
                go_round
                case rel => exact ⟨i + 1, by go_num, by omega, by rw [HH.out]; simp [HS.out]⟩
                case measure => simp [intOf]; omega
          · have nx : (x1 == (n : Int)) = false := by simpa using hx
            have HX := hideP hx
            cases eb <;> cases hb1
            all_goals
              go_wp2_with fail
              go_round
              case rel => exact ⟨i + 1, by go_num, by omega, by rw [HH.out]; simp [HX.out]⟩
              case measure => simp [intOf]; omega
        · have hi' : i = nq := by omega
          have hall : (eb || hit (n : Int) s (d.wt.take i)) = true := by
            rw [List.take_of_length_le (by rw [HN.out]; omega), HEB.out, Bool.or_eq_true]
            exact HFi.out
          rw [hall]
          clear hall
          subst hi'
          go_wp2_with fail
          go_ret
          exact ⟨rfl, HF.out⟩
    · by_cases hn0 : no < 0
      · go_enter Try.func6, Try.ntmps6
        obtain ⟨kD0, kD1, _, _⟩ := VD.out.b.two
        have c1 := crash_any _ _ d m (w.alloc (.cells #[.slice ap np dp, .slice aq nq dq] 25)) VD.out.d hb.pl hm2
        rw [HR.out] at c1
        go_wp2_with fail
        refine c1.mono ?_
        rintro _ w1 ⟨pX, qX, rfl, oX, f1⟩
        obtain ⟨aX, nX, dX, rfl⟩ := own_slice' oX.pg
        obtain ⟨eX, mX, hX, rfl⟩ := own_slice' oX.wt
        clear c1
        clear kD0 kD1
        have NV := DV.new oX.is
        have g1 : Fr (w.alloc (.cells #[.slice ap np dp, .slice aq nq dq] 25)) (w1.alloc (.cells #[.slice aX nX dX, .slice eX mX hX] 25)) := f1.alloc _
        replace VD := hideP (VD.out.fr g1)
        replace HF := hideP (HF.out.trans g1)
        have VX := hideP NV
        clear NV g1 f1
        have OX := hideP oX
        clear oX
        have c2 := diskBegun_any (w1.alloc (.cells #[.slice aX nX dX, .slice eX mX hX] 25))
        go_wp2_with fail
        refine c2.mono ?_
        rintro _ w2 ⟨rfl, f2⟩
        clear c2
        replace VD := hideP (VD.out.fr f2)
        replace VX := hideP (VX.out.fr f2)
        replace HF := hideP (HF.out.trans f2)
        clear f2
        go_wp2_with fail
        go_ret
        exact ⟨rfl, HF.out⟩
      · have hn1 : 32 ≤ no := by omega
        go_enter Try.func6, Try.ntmps6
        obtain ⟨kD0, kD1, _, _⟩ := VD.out.b.two
        have c1 := crash_any _ _ d m (w.alloc (.cells #[.slice ap np dp, .slice aq nq dq] 25)) VD.out.d hb.pl hm2
        rw [HR.out] at c1
        go_wp2_with fail
        refine c1.mono ?_
        rintro _ w1 ⟨pX, qX, rfl, oX, f1⟩
        obtain ⟨aX, nX, dX, rfl⟩ := own_slice' oX.pg
        obtain ⟨eX, mX, hX, rfl⟩ := own_slice' oX.wt
        clear c1
        clear kD0 kD1
        have NV := DV.new oX.is
        have g1 : Fr (w.alloc (.cells #[.slice ap np dp, .slice aq nq dq] 25)) (w1.alloc (.cells #[.slice aX nX dX, .slice eX mX hX] 25)) := f1.alloc _
        replace VD := hideP (VD.out.fr g1)
        replace HF := hideP (HF.out.trans g1)
        have VX := hideP NV
        clear NV g1 f1
        have OX := hideP oX
        clear oX
        have c2 := diskBegun_any (w1.alloc (.cells #[.slice aX nX dX, .slice eX mX hX] 25))
        go_wp2_with fail
        refine c2.mono ?_
        rintro _ w2 ⟨rfl, f2⟩
        clear c2
        replace VD := hideP (VD.out.fr f2)
        replace VX := hideP (VX.out.fr f2)
        replace HF := hideP (HF.out.trans f2)
        clear f2
        go_wp2_with fail
        go_ret
        exact ⟨rfl, HF.out⟩
  · have e : r = (r.1, r.2) := rfl
    rw [e] at hrr
    generalize r.2 = y at hrr h0
    generalize r.1 = x at hrr
    have hne : ((y : Int) != 0) = true := by simp; omega
    have hne2 : ¬ ((y : Int) = 0) := by omega
    have HR := hideP hrr
    clear hrr e
    go_enter Try.func6, Try.ntmps6
    obtain ⟨kD0, kD1, _, _⟩ := VD.out.b.two
    have c1 := crash_any _ _ d m (w.alloc (.cells #[.slice ap np dp, .slice aq nq dq] 25)) VD.out.d hb.pl hm2
    rw [HR.out] at c1
    go_wp2_with fail
    refine c1.mono ?_
    rintro _ w1 ⟨pX, qX, rfl, oX, f1⟩
    obtain ⟨aX, nX, dX, rfl⟩ := own_slice' oX.pg
    obtain ⟨eX, mX, hX, rfl⟩ := own_slice' oX.wt
    clear c1
    clear kD0 kD1
    have NV := DV.new oX.is
    have g1 : Fr (w.alloc (.cells #[.slice ap np dp, .slice aq nq dq] 25)) (w1.alloc (.cells #[.slice aX nX dX, .slice eX mX hX] 25)) := f1.alloc _
    replace VD := hideP (VD.out.fr g1)
    replace HF := hideP (HF.out.trans g1)
    have VX := hideP NV
    clear NV g1 f1
    have OX := hideP oX
    clear oX
    have c2 := diskBegun_any (w1.alloc (.cells #[.slice aX nX dX, .slice eX mX hX] 25))
    go_wp2_with fail
    refine c2.mono ?_
    rintro _ w2 ⟨rfl, f2⟩
    clear c2
    replace VD := hideP (VD.out.fr f2)
    replace VX := hideP (VX.out.fr f2)
    replace HF := hideP (HF.out.trans f2)
    clear f2
    go_wp2_with fail
    go_ret
    exact ⟨rfl, HF.out⟩

set_option maxRecDepth 100000 in
theorem lifted (os : Go.Os) (started : os.Started) (H : Type) (enc : TypeId × Value → H) :
    ReturnsInHanded {} Try.checked os 6 .any (Rows.diskEitherSpec.pre6 enc Try.prog Try.f6 Rows.diskEitherRow.domain false) (Rows.diskEitherSpec.post enc Try.prog Try.f6 false true false false) := by
  refine returnsInHanded_of_change_sized (C := Try.checked) own started (by kernel_rfl) Try.func6
    (ChangeSpec.witness6 (enc := enc) (C := Try.checked) false ⟨#[], #[.agg #[.slice none 0 0, .slice none 0 0], .int .u64 0, .int .i64 0], []⟩ 8 (by kernel_rfl) (by kernel_rfl) (by kernel_rfl) (by kernel_rfl)) ?_
  intro W base args ds gs before hval0 hW hcnd hsz0 _
  have hval : ∀ (j : Nat) t v, Try.f6.params[j]? = some t → args[j]? = some v → Value.okWide Try.prog W .any base t v := hval0
  have hsz : (DataW.weightsEach Try.prog (Try.f6.params.toList ++ Rows.diskEitherSpec.plain.varTypes Try.prog) (ds ++ gs)).all (· ≤ reachBytes) = true := hsz0
  have hW' := hW
  obtain ⟨p, q, hA0, hV, rfl, hfz, hnd⟩ := hW
  have hA : DataW.TrodAll enc Try.prog W 0 (fun _ => true) true Try.f6.params.toList args.toList ds p := hA0
  rw [Try.params6] at hA hval hsz
  obtain ⟨v0, vs0, d0, ds0, p0, q0, hargs, rfl, rfl, h0, r0⟩ := trodAll_cons hA
  obtain ⟨v1, vs1, d1, ds1, p1, q1, rfl, rfl, rfl, h1, r1⟩ := trodAll_cons r0
  obtain ⟨v2, vs2, d2, ds2, p2, q2, rfl, rfl, rfl, h2, r2⟩ := trodAll_cons r1
  obtain ⟨rfl, rfl, rfl⟩ := trodAll_nil r2
  obtain rfl : args = #[v0, v1, v2] := by cases args; simp_all
  obtain ⟨rfl, rfl⟩ := trodVars_none hV
  obtain ⟨x0, y0, l0, rfl, rw0, bd0⟩ := open_disk (hval 0 25 v0 rfl rfl) h0 (sized_at hsz (j := 0) rfl rfl)
  obtain ⟨a1, rfl, rfl, rfl, w1⟩ := open_int Try.underlying26 (hval 1 26 v1 rfl rfl) h1
  obtain ⟨a2, rfl, rfl, rfl, w2⟩ := open_int Try.underlying3 (hval 2 3 v2 rfl rfl) h2
  clear hA0 hval0 hsz0
  refine (walk x0 y0 l0 a1 a2 W rw0 bd0 (wf_u64 w1) (wf_i64 w2)).mono fun e W' ⟨he, bel⟩ => ?_
  subst he
  exact ⟨_, rfl, _, _, _, [], _, [], hW', trodAll_mk1 (shut_bool Try.underlying4 _), (trodAll_cons_mk (shut_disk h0 bel) (trodAll_cons_mk (shut_int Try.underlying26 w1) (trodAll_cons_mk (shut_int Try.underlying3 w2) trodAll_mk0))), rfl, Below.frame bel _, fun h => by cases h⟩

theorem over : Rows.diskEitherRow.holds Try.pinned (OpenSpec.ofChange Rows.diskEitherSpec) :=
  OpenClaim.holds_of_wide 6 Try.f6 rfl rfl rfl rfl rfl rfl rfl ⟨rfl, rfl, rfl, rfl, rfl⟩ rfl rfl rfl rfl rfl (by kernel_rfl) Try.func6 (by kernel_rfl)
    (of_decide_eq_true (by kernel_rfl)) (by unfold Func.isWrapper; first | (rw [if_pos (by decide +kernel)]; kernel_rfl) | (rw [if_neg (by decide +kernel)]; exact ⟨rfl, rfl⟩))
    (fun os started H enc _ => lifted os started H enc)

end Go.Proofs.Ytklldfkaihpkiaa.DiskEither
namespace Go.Proofs.Ytklldfkaihpkiaa
theorem diskEither_holds : Rows.DiskEitherSaid := DiskEither.over
#print axioms diskEither_holds
end Go.Proofs.Ytklldfkaihpkiaa
