/-
  Proved: for every expression, names, values and number EvalPlaced answers true: an expression is worth what it is worth with a column's literal in the column's place. No condition but the form's own reach.
-/
import Derived.Test.YtjboeabddnnlcaaGreatDoorEwG
import Derived.Test.YtjboeabddnnlcaaGreatDoorTabs
import Derived.Test.YtjboeabddnnlcaaGreatDoorRfV
import Derived.Test.YtjboeabddnnlcaaGreatDoorCtQ
namespace Go.Proofs.YtjboeabddnnlcaaGreatDoor.evalPlacedProof
open Go.ChangeShapes Go.WideShapes Go.ChangeAt Go.RowKit
open Go.ChangeMaps (open_string shut_string)
set_option linter.unusedVariables false
set_option linter.unusedSimpArgs false
set_option maxRecDepth 100000

theorem flat_put (l : List EX.Nd) (i : Nat) (h : i < l.length) (x : EX.Nd) : ((((((flat cdN l).set (i * 6) (.int .i64 x.op)).set (i * 6 + 1) (.int .i64 x.kids)).set (i * 6 + 2) (.int .i64 x.v.k)).set (i * 6 + 3) (.int .i64 x.v.n)).set (i * 6 + 4) (.string x.v.s)).set (i * 6 + 5) (.string x.nm) = flat cdN (l.set i x) := by
  have e : flat cdN l = flat cdN (l.take i) ++ (cdN.c l[i] ++ flat cdN (l.drop (i + 1))) := by
    rw [← flat_cons, ← List.drop_eq_getElem_cons h, ← flat_app, List.take_append_drop]
  have e2 : flat cdN (l.set i x) = flat cdN (l.take i) ++ (cdN.c x ++ flat cdN (l.drop (i + 1))) := by
    rw [List.set_eq_take_append_cons_drop, if_pos h, flat_app, flat_cons]
  have hl : (flat cdN (l.take i)).length = i * 6 := by rw [flat_len, List.length_take, Nat.min_eq_left (by omega)]; rfl
  rw [e, e2]
  generalize flat cdN (l.take i) = A at *
  generalize flat cdN (l.drop (i + 1)) = B at *
  rw [List.set_append_right _ _ (by omega), List.set_append_right _ _ (by omega), List.set_append_right _ _ (by omega), List.set_append_right _ _ (by omega), List.set_append_right _ _ (by omega), List.set_append_right _ _ (by omega)]
  rw [hl, show i * 6 - i * 6 = 0 by omega, show i * 6 + 1 - i * 6 = 1 by omega, show i * 6 + 2 - i * 6 = 2 by omega, show i * 6 + 3 - i * 6 = 3 by omega, show i * 6 + 4 - i * 6 = 4 by omega, show i * 6 + 5 - i * 6 = 5 by omega]
  rfl
/-- the first ones placed -/
def mixd (c : ByteArray) (y : VM.Vl) (e : List EX.Nd) (i : Nat) : List EX.Nd := (e.take i).map (EV.plc c y) ++ e.drop i
theorem mixd_len (c : ByteArray) (y : VM.Vl) (e : List EX.Nd) (i : Nat) (h : i ≤ e.length) : (mixd c y e i).length = e.length := by
  unfold mixd
  rw [List.length_append, List.length_map, List.length_take, List.length_drop]
  omega
theorem mixd_get (c : ByteArray) (y : VM.Vl) (e : List EX.Nd) (i : Nat) (h : i < e.length) : (mixd c y e i)[i]'(by rw [mixd_len _ _ _ _ (by omega)]; exact h) = e[i] := by
  unfold mixd
  rw [List.getElem_append_right (by simp; omega)]
  simp [Nat.min_eq_left (Nat.le_of_lt h)]
theorem mixd_step (c : ByteArray) (y : VM.Vl) (e : List EX.Nd) (i : Nat) (h : i < e.length) : (mixd c y e i).set i (EV.plc c y e[i]) = mixd c y e (i + 1) := by
  unfold mixd
  rw [List.take_succ_eq_append_getElem h, List.map_append, List.set_append_right _ _ (by simp; omega)]
  have e1 : i - ((e.take i).map (EV.plc c y)).length = 0 := by simp; omega
  rw [e1]
  conv => lhs; rw [List.drop_eq_getElem_cons h]
  simp only [List.set_cons_zero, List.map_cons, List.map_nil, List.append_assoc, List.cons_append, List.nil_append]
theorem mixd_same (c : ByteArray) (y : VM.Vl) (e : List EX.Nd) (i : Nat) (h : i < e.length) (hp : EV.plc c y e[i] = e[i]) : mixd c y e (i + 1) = mixd c y e i := by
  rw [← mixd_step c y e i h, hp]
  have := mixd_get c y e i h
  rw [← this]
  exact List.set_getElem_self _
theorem mixd_all (c : ByteArray) (y : VM.Vl) (e : List EX.Nd) : mixd c y e e.length = e.map (EV.plc c y) := by
  unfold mixd
  rw [List.take_length, List.drop_length, List.append_nil]
theorem s7_after {w w' : World} {a b c d e f k : Addr} {p q r s t u v : Value} (h9 : Fr w w') (h : w.cell? a = some p ∧ w.cell? b = some q ∧ w.cell? c = some r ∧ w.cell? d = some s ∧ w.cell? e = some t ∧ w.cell? f = some u ∧ w.cell? k = some v) : w'.cell? a = some p ∧ w'.cell? b = some q ∧ w'.cell? c = some r ∧ w'.cell? d = some s ∧ w'.cell? e = some t ∧ w'.cell? f = some u ∧ w'.cell? k = some v :=
  ⟨(Below.cell h9 (World.block_lt_of_cell? _ _ h.1)).trans h.1, (Below.cell h9 (World.block_lt_of_cell? _ _ h.2.1)).trans h.2.1, (Below.cell h9 (World.block_lt_of_cell? _ _ h.2.2.1)).trans h.2.2.1, (Below.cell h9 (World.block_lt_of_cell? _ _ h.2.2.2.1)).trans h.2.2.2.1, (Below.cell h9 (World.block_lt_of_cell? _ _ h.2.2.2.2.1)).trans h.2.2.2.2.1, (Below.cell h9 (World.block_lt_of_cell? _ _ h.2.2.2.2.2.1)).trans h.2.2.2.2.2.1, (Below.cell h9 (World.block_lt_of_cell? _ _ h.2.2.2.2.2.2)).trans h.2.2.2.2.2.2⟩
theorem ba_ne {a b : ByteArray} (h : a ≠ b) : (¬ a.toList = b.toList) ∧ (a.toList == b.toList) = false := by
  have h1 : ¬ a.toList = b.toList := fun h2 => h (by
    rw [ByteArray.toList_eq, ByteArray.toList_eq] at h2
    exact ByteArray.ext (Array.toList_inj.1 h2))
  exact ⟨h1, by rw [beq_eq_false_iff_ne]; exact h1⟩
theorem isCol_not {c : ByteArray} {n : EX.Nd} (h : ¬ EV.isCol c n = true) : n.op ≠ 2 ∨ (n.op = 2 ∧ n.kids ≠ 0) ∨ (n.op = 2 ∧ n.kids = 0 ∧ n.v.k ≠ 0) ∨ (n.op = 2 ∧ n.kids = 0 ∧ n.v.k = 0 ∧ n.v.n ≠ 0) ∨ (n.op = 2 ∧ n.kids = 0 ∧ n.v.k = 0 ∧ n.v.n = 0 ∧ n.v.s ≠ ⟨#[]⟩) ∨ (n.op = 2 ∧ n.kids = 0 ∧ n.v.k = 0 ∧ n.v.n = 0 ∧ n.v.s = ⟨#[]⟩ ∧ n.nm ≠ c) := by
  by_cases h1 : n.op = 2
  case neg => exact .inl h1
  by_cases h2 : n.kids = 0
  case neg => exact .inr (.inl ⟨h1, h2⟩)
  by_cases h3 : n.v.k = 0
  case neg => exact .inr (.inr (.inl ⟨h1, h2, h3⟩))
  by_cases h4 : n.v.n = 0
  case neg => exact .inr (.inr (.inr (.inl ⟨h1, h2, h3, h4⟩)))
  by_cases h5 : n.v.s = ⟨#[]⟩
  case neg => exact .inr (.inr (.inr (.inr (.inl ⟨h1, h2, h3, h4, h5⟩))))
  by_cases h6 : n.nm = c
  case neg => exact .inr (.inr (.inr (.inr (.inr ⟨h1, h2, h3, h4, h5, h6⟩))))
  exact absurd (by simp [EV.isCol, h1, h2, h3, h4, h5, h6]) h
set_option maxHeartbeats 4000000 in
theorem walk (v0 : Value) (e : List EX.Nd) (v1 : Value) (cs : List ByteArray) (v2 : Value) (l : List VM.Vl) (k : Int) (w : World) (hT : Tt w)
    (h0 : IsL cdN w v0 e) (k0 : ∀ y ∈ e, EV.okN y ∧ (-9223372036854775808 ≤ y.op ∧ y.op ≤ 9223372036854775807) ∧ (-9223372036854775808 ≤ y.kids ∧ y.kids ≤ 9223372036854775807)) (b0 : e.length * 64 ≤ 140737488351232)
    (h1 : IsL cdB w v1 cs) (k1 : ∀ y ∈ cs, y.size ≤ 140737488351232) (b1 : cs.length * 16 ≤ 140737488351232)
    (h2 : IsL cdV w v2 l) (k2 : ∀ y ∈ l, EV.gd y ∧ y.s.size ≤ 140737488351232) (b2 : l.length * 32 ≤ 140737488351232) (hk : -9223372036854775808 ≤ k ∧ k ≤ 9223372036854775807) :
    Calls Tryz.prog 6 #[v0, v1, v2, .int .i64 k] w fun e w' => e = .returned (.bool true) ∧ Fr w w' := by
  obtain ⟨i0, hi0, hz0, hz1, hz2⟩ := info_parts Tryz.infoN
  have HE := hideP (fun W (g : Fr w W) => eval_any v0 v1 v2 e cs l W (h0.fr g) (h1.fr g) (h2.fr g) (fun n hn => (k0 n hn).1.1) (by omega) (fun c hc => by have := k1 c hc; omega) (hT.tn.fr g) (hT.tb.fr g) (fun n hn => (k0 n hn).1.2) (fun x hx => (k2 x hx).1))
  have HBg := hideP (fun W (g : Fr w W) => evalBegun_any W (hT.tn.fr g) (hT.tb.fr g))
  have HEx := hideP (fun W u (g : Fr w W) (x : List EX.Nd) (hx : ∀ n ∈ x, EV.okN n) (hl : x.length ≤ 9223372036854775806) (hu : IsL cdN W u x) => eval_any u v1 v2 x cs l W hu (h1.fr g) (h2.fr g) (fun n hn => (hx n hn).1) hl (fun c hc => by have := k1 c hc; omega) (hT.tn.fr g) (hT.tb.fr g) (fun n hn => (hx n hn).2) (fun x hx => (k2 x hx).1))
  have HK0 : Hid (∀ x ∈ e, EV.okN x) := fun x hx => (k0 x hx).1
  have HI0 := hideP h0
  have HI1 := hideP h1
  have HI2 := hideP h2
  obtain ⟨a0, c0, rfl, hc0, hcs0⟩ := h0
  obtain ⟨a1, c1, rfl, hc1, hcs1⟩ := h1
  obtain ⟨a2, c2, rfl, hc2, hcs2⟩ := h2
  have HC1 := hideP hcs1
  have HC2 := hideP hcs2
  have HK1 := hideP k1
  have HK2 := hideP k2
  obtain ⟨R, hR⟩ : ∃ R, EV.ev e cs l = R := ⟨_, rfl⟩
  have HR := hideP hR
  rw [hR] at HE
  obtain ⟨rk, rn, rs, rc, hXR⟩ := exV_form R
  have HXR := hideP hXR
  rw [hXR] at HE
  clear k0 k1 k2 hT hcs0 hcs1 hcs2 hR hXR
  by_cases kneg : k < 0
  · go_enter Tryz.func6, Tryz.ntmps6
    go_wp2_with fail
    refine (HE.out _ (Fr.refl w)).mono ?_
    rintro _ w2 ⟨rfl, f2⟩
    have F2 := hideP (f2.alloc (.cells #[.int .i64 rk, .int .i64 rn, .string rs] 26))
    clear f2
    go_wp2_with fail
    refine (HBg.out _ F2.out).mono ?_
    rintro _ w3 ⟨rfl, f3⟩
    go_wp2_with fail
    go_ret
    exact ⟨rfl, F2.out.trans f3⟩
  obtain ⟨K, rfl⟩ : ∃ K : Nat, k = (K : Int) := ⟨k.toNat, by omega⟩
  clear kneg hk
  by_cases hKc : K < cs.length
  case neg =>
    have hKc' : (cs.length : Int) ≤ (K : Int) := by omega
    go_enter Tryz.func6, Tryz.ntmps6
    go_wp2_with fail
    refine (HE.out _ (Fr.refl w)).mono ?_
    rintro _ w2 ⟨rfl, f2⟩
    have F2 := hideP (f2.alloc (.cells #[.int .i64 rk, .int .i64 rn, .string rs] 26))
    clear f2
    go_wp2_with fail
    refine (HBg.out _ F2.out).mono ?_
    rintro _ w3 ⟨rfl, f3⟩
    go_wp2_with fail
    go_ret
    exact ⟨rfl, F2.out.trans f3⟩
  have hKc' : ¬ (cs.length : Int) ≤ (K : Int) := by omega
  have hKc'' : (K : Int) < (cs.length : Int) := by omega
  by_cases hKl : K < l.length
  case neg =>
    have hKl' : (l.length : Int) ≤ (K : Int) := by omega
    go_enter Tryz.func6, Tryz.ntmps6
    go_wp2_with fail
    refine (HE.out _ (Fr.refl w)).mono ?_
    rintro _ w2 ⟨rfl, f2⟩
    have F2 := hideP (f2.alloc (.cells #[.int .i64 rk, .int .i64 rn, .string rs] 26))
    clear f2
    go_wp2_with fail
    refine (HBg.out _ F2.out).mono ?_
    rintro _ w3 ⟨rfl, f3⟩
    go_wp2_with fail
    go_ret
    exact ⟨rfl, F2.out.trans f3⟩
  have hKl' : ¬ (l.length : Int) ≤ (K : Int) := by omega
  have hKl'' : (K : Int) < (l.length : Int) := by omega
  obtain ⟨bc, oc, rfl, hbc, hac⟩ : ∃ b o, a1 = some ⟨b, o, none⟩ ∧ b < w.heap.size ∧ At cdB w b o cs := by
    rcases HC1.out with h | h
    · rw [h] at hKc; simp at hKc
    · exact h
  obtain ⟨bl, ol, rfl, hbl, hal⟩ : ∃ b o, a2 = some ⟨b, o, none⟩ ∧ b < w.heap.size ∧ At cdV w b o l := by
    rcases HC2.out with h | h
    · rw [h] at hKl; simp at hKl
    · exact h
  have HCc := hideP (hac.b1 K hKc)
  have HCl := hideP (hal.v3 K hKl)
  have HSz := hideP (HK1.out cs[K] (List.getElem_mem hKc))
  have HGy := hideP (HK2.out l[K] (List.getElem_mem hKl)).1
  have HFnd := hideP (fun hno => EV.fnd_at (cs := cs) (l := l) hKc hKl hno)
  have HAc := hideP (fun W (g : Fr w W) i (hi : i < cs.length) => (hac.fr hbc g).b1 i hi)
  obtain ⟨c, hcK⟩ : ∃ c, cs[K] = c := ⟨_, rfl⟩
  obtain ⟨y, hyK⟩ : ∃ y, l[K] = y := ⟨_, rfl⟩
  rw [hcK] at HCc HSz HFnd
  rw [hyK] at HCl HGy HFnd
  have HcK := hideP hcK
  clear hac hal hyK HC1 HC2 hcK
  obtain ⟨yk, yn, ys⟩ := y
  simp only at HCl
  have HCk := hideP (fun W => rcheck_any yk yn ys W)
  have HNm := hideP (fun W => nameCheck_any c W (by have := HSz.out; omega))
  obtain ⟨cky, hcky⟩ : ∃ z, VM.chk ⟨yk, yn, ys⟩ = z := ⟨_, rfl⟩
  obtain ⟨nmc, hnmc⟩ : ∃ z, LX.nm c.data.toList = z := ⟨_, rfl⟩
  rw [hcky] at HCk
  rw [hnmc] at HNm
  have HCky := hideP hcky
  have HNmc := hideP hnmc
  clear hcky hnmc
  by_cases hcz : cky = 0
  case neg =>
    have e1 : ((cky : Int) != 0) = true := by simp; omega
    have e2 : ¬ ((cky : Int) = 0) := by omega
    go_enter Tryz.func6, Tryz.ntmps6
    go_wp2_with fail
    refine (HE.out _ (Fr.refl w)).mono ?_
    rintro _ w2 ⟨rfl, f2⟩
    have F2 := hideP (f2.alloc (.cells #[.int .i64 rk, .int .i64 rn, .string rs] 26))
    clear f2
    go_wp2_with fail
    refine (HBg.out _ F2.out).mono ?_
    rintro _ w3 ⟨rfl, f3⟩
    have F3 := hideP (F2.out.trans f3)
    obtain ⟨d0, d1, d2⟩ := s3_fr F3.out HCl.out
    clear f3
    go_wp2_with fail
    refine (HCk.out _).mono ?_
    rintro _ w4 ⟨rfl, f4⟩
    go_wp2_with fail
    go_ret
    exact ⟨rfl, F3.out.trans f4⟩
  subst hcz
  by_cases hyn : yn < 0
  · go_enter Tryz.func6, Tryz.ntmps6
    go_wp2_with fail
    refine (HE.out _ (Fr.refl w)).mono ?_
    rintro _ w2 ⟨rfl, f2⟩
    have F2 := hideP (f2.alloc (.cells #[.int .i64 rk, .int .i64 rn, .string rs] 26))
    clear f2
    go_wp2_with fail
    refine (HBg.out _ F2.out).mono ?_
    rintro _ w3 ⟨rfl, f3⟩
    have F3 := hideP (F2.out.trans f3)
    obtain ⟨d0, d1, d2⟩ := s3_fr F3.out HCl.out
    clear f3
    go_wp2_with fail
    refine (HCk.out _).mono ?_
    rintro _ w4 ⟨rfl, f4⟩
    have F4 := hideP (F3.out.trans f4)
    obtain ⟨d0, d1, d2⟩ := s3_fr F4.out HCl.out
    clear f4
    go_wp2_with fail
    go_ret
    exact ⟨rfl, F4.out⟩
  have hyn' : 0 ≤ yn := by omega
  cases nmc with
  | false =>
    go_enter Tryz.func6, Tryz.ntmps6
    go_wp2_with fail
    refine (HE.out _ (Fr.refl w)).mono ?_
    rintro _ w2 ⟨rfl, f2⟩
    have F2 := hideP (f2.alloc (.cells #[.int .i64 rk, .int .i64 rn, .string rs] 26))
    clear f2
    go_wp2_with fail
    refine (HBg.out _ F2.out).mono ?_
    rintro _ w3 ⟨rfl, f3⟩
    have F3 := hideP (F2.out.trans f3)
    obtain ⟨d0, d1, d2⟩ := s3_fr F3.out HCl.out
    clear f3
    go_wp2_with fail
    refine (HCk.out _).mono ?_
    rintro _ w4 ⟨rfl, f4⟩
    have F4 := hideP (F3.out.trans f4)
    obtain ⟨d0, d1, d2⟩ := s3_fr F4.out HCl.out
    have d3 := (Below.cell F4.out (World.block_lt_of_cell? _ _ HCc.out)).trans HCc.out
    clear f4
    go_wp2_with fail
    refine (HNm.out _).mono ?_
    rintro _ w5 ⟨rfl, f5⟩
    go_wp2_with fail
    go_ret
    exact ⟨rfl, F4.out.trans f5⟩
  | true =>
    have HEv : Hid ((∀ i (h : i < K), cs[i]'(by omega) ≠ c) → EV.ev (e.map (EV.plc c ⟨yk, yn, ys⟩)) cs l = R) := by
      intro hno
      rw [← HR.out]
      refine EV.ev_placed HCky.out hyn' HNmc.out (HFnd.out ?_)
      exact fun i h => hno i h
    go_enter Tryz.func6, Tryz.ntmps6
    go_wp2_with fail
    refine (HE.out _ (Fr.refl w)).mono ?_
    rintro _ w2 ⟨rfl, f2⟩
    have HV := hideP (Blk.new w2 #[.int .i64 rk, .int .i64 rn, .string rs] 26)
    have F2 := hideP (f2.alloc (.cells #[.int .i64 rk, .int .i64 rn, .string rs] 26))
    clear f2
    go_wp2_with fail
    generalize w2.alloc (.cells #[.int .i64 rk, .int .i64 rn, .string rs] 26) = wv at *
    generalize w2.heap.size = bv at *
    refine (HBg.out _ F2.out).mono ?_
    rintro _ w3 ⟨rfl, f3⟩
    have F3 := hideP (F2.out.trans f3)
    replace HV := hideP (HV.out.fr f3)
    obtain ⟨d0, d1, d2⟩ := s3_fr F3.out HCl.out
    clear f3
    go_wp2_with fail
    refine (HCk.out _).mono ?_
    rintro _ w4 ⟨rfl, f4⟩
    have F4 := hideP (F3.out.trans f4)
    replace HV := hideP (HV.out.fr f4)
    obtain ⟨d0, d1, d2⟩ := s3_fr F4.out HCl.out
    have d3 := (Below.cell F4.out (World.block_lt_of_cell? _ _ HCc.out)).trans HCc.out
    clear f4
    go_wp2_with fail
    refine (HNm.out _).mono ?_
    rintro _ w5 ⟨rfl, f5⟩
    have F5 := hideP (F4.out.trans f5)
    replace HV := hideP (HV.out.fr f5)
    clear f5 d0 d1 d2 d3
    go_wp2_with fail
    go_loopw [11] (fun iv wr => ∃ i : Nat, iv = .int .i64 i ∧ i ≤ K ∧ (∀ j (h : j < i) (h2 : j < cs.length), cs[j] ≠ c) ∧ Fr w5 wr) (fun iv _ => K - (intOf iv).toNat)
    case atStart => exact ⟨0, rfl, Nat.zero_le _, fun j h => by omega, Fr.refl _⟩
    case round =>
      obtain ⟨i, rfl, hi, hno, hfr⟩ := hrel
      have HNo := hideP hno
      have FR := hideP (F5.out.trans hfr)
      have F6 := hideP hfr
      clear hno hfr
      by_cases hlt : i < K
      · have hlt' : (i : Int) < (K : Int) := by omega
        have hic : i < cs.length := by omega
        have hic' : (i : Int) < (cs.length : Int) := by omega
        have d3 := (Below.cell FR.out (World.block_lt_of_cell? _ _ HCc.out)).trans HCc.out
        have d4 := HAc.out _ FR.out i hic
        obtain ⟨ci, hci⟩ : ∃ ci, cs[i] = ci := ⟨_, rfl⟩
        have HCi := hideP hci
        rw [hci] at d4
        clear hci
        by_cases heq : ci = c
        · subst heq
          go_wp2_with fail
          go_region
          go_wp2_with fail
          go_ret
          exact ⟨rfl, by first | exact FR.out.drew | exact FR.out⟩
        · have heq2 : ¬ ci.toList = c.toList := fun h => heq (by
            rw [ByteArray.toList_eq, ByteArray.toList_eq] at h
            exact ByteArray.ext (Array.toList_inj.1 h))
          have heq3 : (ci.toList == c.toList) = false := by rw [beq_eq_false_iff_ne]; exact heq2
          have HNe : Hid (∀ j (h : j < i + 1) (h2 : j < cs.length), cs[j] ≠ c) := by
            intro j h h2
            by_cases hji : j < i
            · exact HNo.out j hji h2
            · obtain rfl : j = i := by omega
              rw [HCi.out]
              exact heq
          go_wp2_with fail
          go_region
          go_wp2_with fail
          go_roundw
          case rel => exact ⟨i + 1, by go_num, by omega, HNe.out, by first | exact F6.out.drew | exact F6.out⟩
          case measure => simp [intOf]; omega
      · obtain rfl : i = K := by omega
        have hlt' : ((i : Int) < (i : Int)) = False := by simp
        have HEq := hideP (HEv.out (fun j h => HNo.out j h (by omega)))
        replace HV := hideP (HV.out.fr F6.out)
        have HL0 := hideP (own_lit0 cdN wr 38 wr.heap.size (Nat.le_refl _))
        have FL0 := hideP ((Fr.refl wr).alloc (.cells #[] 38))
        have HI9 := hideP (HI0.out.fr (FR.out.trans FL0.out))
        obtain ⟨n0, hn0⟩ : ∃ n0, e.length = n0 := ⟨_, rfl⟩
        have HN0 := hideP hn0
        rw [hn0] at HI9 b0 hc0 ⊢
        clear HNo HEv F6 hn0
        go_wp2_with (at_builtin; refine wpList_append_L cdN rfl _ _ 22 38 i0 _ 64 rfl Tryz.underlying22 hi0 hz0 hz1 hz2 rfl wr.heap.size _ 0 [] rfl HL0.out (.slice a0 n0 c0) e rfl HI9.out ?c3 ?c4 ?c5 ?_)
        case c3 => unfold maxLen; rw [HN0.out]; omega
        case c4 => rw [HN0.out]; omega
        case c5 => simp
        intro v7 w7 own7 gr7
        have F7 := hideP (show Fr wr w7 from Below.grown FL0.out gr7 (by simp) (own_base HL0.out))
        have HO7 := hideP (show w7.ownsRow wr.heap.size 38 6 v7 n0 (flat cdN (mixd c ⟨yk, yn, ys⟩ e 0)) from by
          have := own7
          simp only [HN0.out, Nat.zero_add, List.nil_append] at this
          exact this)
        obtain ⟨pa, pc, rfl⟩ := own_slice HO7.out
        clear own7 gr7 HL0 FL0
        go_wp2_with fail
        obtain ⟨w6, rfl⟩ : ∃ x, x = wr := ⟨_, rfl⟩
        go_loopw [13] (fun iv wr => ∃ q : Nat, iv = .int .i64 q ∧ q ≤ n0 ∧ wr.ownsRow w6.heap.size 38 6 (.slice pa n0 pc) n0 (flat cdN (mixd c ⟨yk, yn, ys⟩ e q)) ∧ Fr w6 wr) (fun iv _ => n0 - (intOf iv).toNat)
        case atStart => exact ⟨0, rfl, Nat.zero_le _, HO7.out, F7.out⟩
        case round =>
          obtain ⟨q, rfl, hq, hown, hfr⟩ := hrel
          have HO := hideP hown
          have HF := hideP hfr
          have FQ := hideP (FR.out.trans hfr)
          clear hown hfr
          by_cases hlt2 : q < n0
          · have hlt2' : (q : Int) < (n0 : Int) := by omega
            have hqe : q < e.length := by rw [HN0.out]; exact hlt2
            have hml := mixd_len c ⟨yk, yn, ys⟩ e q (by rw [HN0.out]; omega)
            rw [HN0.out] at hml
            obtain ⟨g, rfl, hgb, hat⟩ : ∃ g, pa = some ⟨g, 0, none⟩ ∧ w6.heap.size ≤ g ∧ At cdN wr g 0 (mixd c ⟨yk, yn, ys⟩ e q) := by
              rcases HO.out.2 with ⟨_, h0⟩ | ⟨g, cap', cur, e9, h2, _⟩
              · omega
              · cases e9
                obtain ⟨a9, c9, h9, _, h8⟩ := isL_own (E := cdN) (l := mixd c ⟨yk, yn, ys⟩ e q) (by rw [hml]; exact HO.out)
                injection h9 with h9a h9b h9c
                subst h9a
                rcases h8 with h8 | ⟨b9, o9, h7, _, h6⟩
                · rw [h8] at hml; simp at hml; omega
                · cases h7
                  exact ⟨_, rfl, h2, h6⟩
            obtain ⟨u0, u1, u2, u3, u4, u5⟩ := hat.nd q (by rw [hml]; exact hlt2)
            simp only [mixd_get c ⟨yk, yn, ys⟩ e q hqe, Nat.zero_add] at u0 u1 u2 u3 u4 u5
            have hst := mixd_step c ⟨yk, yn, ys⟩ e q hqe
            have hsm := mixd_same c ⟨yk, yn, ys⟩ e q hqe
            have hfp := fun z => flat_put (mixd c ⟨yk, yn, ys⟩ e q) q (by rw [hml]; exact hlt2) z
            have d3 := (Below.cell FQ.out (World.block_lt_of_cell? _ _ HCc.out)).trans HCc.out
            have hplc : EV.isCol c e[q] = true → EV.plc c ⟨yk, yn, ys⟩ e[q] = EV.lit ⟨yk, yn, ys⟩ := fun h => by unfold EV.plc; rw [if_pos h]
            have hplc2 : ¬ EV.isCol c e[q] = true → EV.plc c ⟨yk, yn, ys⟩ e[q] = e[q] := fun h => by unfold EV.plc; rw [if_neg h]
            clear hat
            generalize e[q] = nn at *
            by_cases hcol : EV.isCol c nn = true
            · rw [hplc hcol] at hst
              have h9 := EV.isCol_eq hcol
              subst h9
              simp only [EX.nul] at u0 u1 u2 u3 u4 u5
              have HSt := hideP hst
              have HFp := hideP hfp
              clear hst hsm hfp hplc hplc2 hcol hml
              have HS7 := hideP (show wr.cell? ⟨g, q * 6, none⟩ = some (.int .i64 2) ∧ wr.cell? ⟨g, q * 6 + 1, none⟩ = some (.int .i64 0) ∧ wr.cell? ⟨g, q * 6 + 2, none⟩ = some (.int .i64 0) ∧ wr.cell? ⟨g, q * 6 + 3, none⟩ = some (.int .i64 0) ∧ wr.cell? ⟨g, q * 6 + 4, none⟩ = some (.string ⟨#[]⟩) ∧ wr.cell? ⟨g, q * 6 + 5, none⟩ = some (.string c) ∧ wr.cell? ⟨bc, oc + i, none⟩ = some (.string c) from ⟨u0, u1, u2, u3, u4, u5, d3⟩)
              have HT7 := hideP HS7.out
              clear u0 u1 u2 u3 u4 u5 d3
              go_upto_region 15 with fail
              have hz := Fr.drew (Fr.refl wr)
              go_region_held3 (fun W => W.cell? ⟨g, q * 6, none⟩ = some (.int .i64 2) ∧ W.cell? ⟨g, q * 6 + 1, none⟩ = some (.int .i64 0) ∧ W.cell? ⟨g, q * 6 + 2, none⟩ = some (.int .i64 0) ∧ W.cell? ⟨g, q * 6 + 3, none⟩ = some (.int .i64 0) ∧ W.cell? ⟨g, q * 6 + 4, none⟩ = some (.string ⟨#[]⟩) ∧ W.cell? ⟨g, q * 6 + 5, none⟩ = some (.string c) ∧ W.cell? ⟨bc, oc + i, none⟩ = some (.string c)) (first | exact HS7.out | exact s7_after hz HS7.out | exact s7_after hf9 HS7.out) (first
                                | (go_at_call 20; refine (nCol_any _ _).mono ?_; rintro _ x9 ⟨rfl, f9⟩; have hf9 := hz.trans f9; clear f9))
              all_goals (
                obtain ⟨z0, z1, z2⟩ := s3_fr (FQ.out.trans hf9) HCl.out
                clear HS7 hz
                go_wp2_with fail
                refine (nLit_any yk yn ys _).mono ?_
                rintro _ x8 ⟨rfl, f8⟩
                have FX := hideP (hf9.trans f8)
                have HOx := hideP (own_fr HO.out FX.out)
                obtain ⟨cur, hcur⟩ := own_block HOx.out g rfl
                have y0 := Blk.frozen (T := 38) hcur (q * 6)
                have y1 := Blk.frozen (T := 38) hcur (q * 6 + 1)
                have y2 := Blk.frozen (T := 38) hcur (q * 6 + 2)
                have y3 := Blk.frozen (T := 38) hcur (q * 6 + 3)
                have y4 := Blk.frozen (T := 38) hcur (q * 6 + 4)
                have y5 := Blk.frozen (T := 38) hcur (q * 6 + 5)
                obtain ⟨t0, t1, t2, t3, t4, t5, _⟩ := s7_after FX.out HT7.out
                clear z0 z1 z2 f8 hcur
                go_wp2_with fail
                have HN := hideP (show World.ownsRow ((((((x8.setCell ⟨g, q * 6, none⟩ (.int .i64 1)).setCell ⟨g, q * 6 + 1, none⟩ (.int .i64 0)).setCell ⟨g, q * 6 + 2, none⟩ (.int .i64 yk)).setCell ⟨g, q * 6 + 3, none⟩ (.int .i64 yn)).setCell ⟨g, q * 6 + 4, none⟩ (.string ys)).setCell ⟨g, q * 6 + 5, none⟩ (.string ⟨#[]⟩)) w6.heap.size 38 6 (.slice (some ⟨g, 0, none⟩) n0 pc) n0 (flat cdN (mixd c ⟨yk, yn, ys⟩ e (q + 1))) from by
                  rw [← HSt.out, ← HFp.out (EV.lit ⟨yk, yn, ys⟩)]
                  exact own_put (own_put (own_put (own_put (own_put (own_put HOx.out))))))
                have FN := hideP (((((((HF.out.trans FX.out).setC g (q * 6) (.int .i64 1) hgb).setC g (q * 6 + 1) (.int .i64 0) hgb).setC g (q * 6 + 2) (.int .i64 yk) hgb).setC g (q * 6 + 3) (.int .i64 yn) hgb).setC g (q * 6 + 4) (.string ys) hgb).setC g (q * 6 + 5) (.string ⟨#[]⟩) hgb)
                go_roundw
                case rel => exact ⟨q + 1, by go_num, by omega, HN.out, FN.out⟩
                case measure => simp [intOf]; omega)
            · have HSm := hideP (hsm (hplc2 hcol))
              have hways := isCol_not hcol
              obtain ⟨op, kids, ⟨vk, vn, vs⟩, nm⟩ := nn
              simp only at u0 u1 u2 u3 u4 u5 hways
              clear hst hsm hfp hplc hplc2 hcol hml
              rcases hways with h | ⟨rfl, h⟩ | ⟨rfl, rfl, h⟩ | ⟨rfl, rfl, rfl, h⟩ | ⟨rfl, rfl, rfl, rfl, h⟩ | ⟨rfl, rfl, rfl, rfl, rfl, h⟩
              · have e1 : (op == 2) = false := by simpa using h
                have HS7 := hideP (show wr.cell? ⟨g, q * 6, none⟩ = some (.int .i64 op) ∧ wr.cell? ⟨g, q * 6 + 1, none⟩ = some (.int .i64 kids) ∧ wr.cell? ⟨g, q * 6 + 2, none⟩ = some (.int .i64 vk) ∧ wr.cell? ⟨g, q * 6 + 3, none⟩ = some (.int .i64 vn) ∧ wr.cell? ⟨g, q * 6 + 4, none⟩ = some (.string vs) ∧ wr.cell? ⟨g, q * 6 + 5, none⟩ = some (.string nm) ∧ wr.cell? ⟨bc, oc + i, none⟩ = some (.string c) from ⟨u0, u1, u2, u3, u4, u5, d3⟩)
                clear u0 u1 u2 u3 u4 u5 d3
                go_upto_region 15 with fail
                have hz := Fr.drew (Fr.refl wr)
                go_region_held3 (fun W => W.cell? ⟨g, q * 6, none⟩ = some (.int .i64 op) ∧ W.cell? ⟨g, q * 6 + 1, none⟩ = some (.int .i64 kids) ∧ W.cell? ⟨g, q * 6 + 2, none⟩ = some (.int .i64 vk) ∧ W.cell? ⟨g, q * 6 + 3, none⟩ = some (.int .i64 vn) ∧ W.cell? ⟨g, q * 6 + 4, none⟩ = some (.string vs) ∧ W.cell? ⟨g, q * 6 + 5, none⟩ = some (.string nm) ∧ W.cell? ⟨bc, oc + i, none⟩ = some (.string c)) (first | exact HS7.out | exact s7_after hz HS7.out | exact s7_after hf9 HS7.out) (first
                                  | (go_at_call 20; refine (nCol_any _ _).mono ?_; rintro _ x9 ⟨rfl, f9⟩; have hf9 := hz.trans f9; clear f9))
                all_goals (
                  go_wp2_with fail
                  go_roundw
                  case rel => exact ⟨q + 1, by go_num, by omega, own_fr (by rw [HSm.out]; exact HO.out) hf9, HF.out.trans hf9⟩
                  case measure => simp [intOf]; omega)
              · have e1 : (kids == 0) = false := by simpa using h
                have HS7 := hideP (show wr.cell? ⟨g, q * 6, none⟩ = some (.int .i64 2) ∧ wr.cell? ⟨g, q * 6 + 1, none⟩ = some (.int .i64 kids) ∧ wr.cell? ⟨g, q * 6 + 2, none⟩ = some (.int .i64 vk) ∧ wr.cell? ⟨g, q * 6 + 3, none⟩ = some (.int .i64 vn) ∧ wr.cell? ⟨g, q * 6 + 4, none⟩ = some (.string vs) ∧ wr.cell? ⟨g, q * 6 + 5, none⟩ = some (.string nm) ∧ wr.cell? ⟨bc, oc + i, none⟩ = some (.string c) from ⟨u0, u1, u2, u3, u4, u5, d3⟩)
                clear u0 u1 u2 u3 u4 u5 d3
                go_upto_region 15 with fail
                have hz := Fr.drew (Fr.refl wr)
                go_region_held3 (fun W => W.cell? ⟨g, q * 6, none⟩ = some (.int .i64 2) ∧ W.cell? ⟨g, q * 6 + 1, none⟩ = some (.int .i64 kids) ∧ W.cell? ⟨g, q * 6 + 2, none⟩ = some (.int .i64 vk) ∧ W.cell? ⟨g, q * 6 + 3, none⟩ = some (.int .i64 vn) ∧ W.cell? ⟨g, q * 6 + 4, none⟩ = some (.string vs) ∧ W.cell? ⟨g, q * 6 + 5, none⟩ = some (.string nm) ∧ W.cell? ⟨bc, oc + i, none⟩ = some (.string c)) (first | exact HS7.out | exact s7_after hz HS7.out | exact s7_after hf9 HS7.out) (first
                                  | (go_at_call 20; refine (nCol_any _ _).mono ?_; rintro _ x9 ⟨rfl, f9⟩; have hf9 := hz.trans f9; clear f9))
                all_goals (
                  go_wp2_with fail
                  go_roundw
                  case rel => exact ⟨q + 1, by go_num, by omega, own_fr (by rw [HSm.out]; exact HO.out) hf9, HF.out.trans hf9⟩
                  case measure => simp [intOf]; omega)
              · have e1 : (vk == 0) = false := by simpa using h
                have HS7 := hideP (show wr.cell? ⟨g, q * 6, none⟩ = some (.int .i64 2) ∧ wr.cell? ⟨g, q * 6 + 1, none⟩ = some (.int .i64 0) ∧ wr.cell? ⟨g, q * 6 + 2, none⟩ = some (.int .i64 vk) ∧ wr.cell? ⟨g, q * 6 + 3, none⟩ = some (.int .i64 vn) ∧ wr.cell? ⟨g, q * 6 + 4, none⟩ = some (.string vs) ∧ wr.cell? ⟨g, q * 6 + 5, none⟩ = some (.string nm) ∧ wr.cell? ⟨bc, oc + i, none⟩ = some (.string c) from ⟨u0, u1, u2, u3, u4, u5, d3⟩)
                clear u0 u1 u2 u3 u4 u5 d3
                go_upto_region 15 with fail
                have hz := Fr.drew (Fr.refl wr)
                go_region_held3 (fun W => W.cell? ⟨g, q * 6, none⟩ = some (.int .i64 2) ∧ W.cell? ⟨g, q * 6 + 1, none⟩ = some (.int .i64 0) ∧ W.cell? ⟨g, q * 6 + 2, none⟩ = some (.int .i64 vk) ∧ W.cell? ⟨g, q * 6 + 3, none⟩ = some (.int .i64 vn) ∧ W.cell? ⟨g, q * 6 + 4, none⟩ = some (.string vs) ∧ W.cell? ⟨g, q * 6 + 5, none⟩ = some (.string nm) ∧ W.cell? ⟨bc, oc + i, none⟩ = some (.string c)) (first | exact HS7.out | exact s7_after hz HS7.out | exact s7_after hf9 HS7.out) (first
                                  | (go_at_call 20; refine (nCol_any _ _).mono ?_; rintro _ x9 ⟨rfl, f9⟩; have hf9 := hz.trans f9; clear f9))
                all_goals (
                  go_wp2_with fail
                  go_roundw
                  case rel => exact ⟨q + 1, by go_num, by omega, own_fr (by rw [HSm.out]; exact HO.out) hf9, HF.out.trans hf9⟩
                  case measure => simp [intOf]; omega)
              · have e1 : (vn == 0) = false := by simpa using h
                have HS7 := hideP (show wr.cell? ⟨g, q * 6, none⟩ = some (.int .i64 2) ∧ wr.cell? ⟨g, q * 6 + 1, none⟩ = some (.int .i64 0) ∧ wr.cell? ⟨g, q * 6 + 2, none⟩ = some (.int .i64 0) ∧ wr.cell? ⟨g, q * 6 + 3, none⟩ = some (.int .i64 vn) ∧ wr.cell? ⟨g, q * 6 + 4, none⟩ = some (.string vs) ∧ wr.cell? ⟨g, q * 6 + 5, none⟩ = some (.string nm) ∧ wr.cell? ⟨bc, oc + i, none⟩ = some (.string c) from ⟨u0, u1, u2, u3, u4, u5, d3⟩)
                clear u0 u1 u2 u3 u4 u5 d3
                go_upto_region 15 with fail
                have hz := Fr.drew (Fr.refl wr)
                go_region_held3 (fun W => W.cell? ⟨g, q * 6, none⟩ = some (.int .i64 2) ∧ W.cell? ⟨g, q * 6 + 1, none⟩ = some (.int .i64 0) ∧ W.cell? ⟨g, q * 6 + 2, none⟩ = some (.int .i64 0) ∧ W.cell? ⟨g, q * 6 + 3, none⟩ = some (.int .i64 vn) ∧ W.cell? ⟨g, q * 6 + 4, none⟩ = some (.string vs) ∧ W.cell? ⟨g, q * 6 + 5, none⟩ = some (.string nm) ∧ W.cell? ⟨bc, oc + i, none⟩ = some (.string c)) (first | exact HS7.out | exact s7_after hz HS7.out | exact s7_after hf9 HS7.out) (first
                                  | (go_at_call 20; refine (nCol_any _ _).mono ?_; rintro _ x9 ⟨rfl, f9⟩; have hf9 := hz.trans f9; clear f9))
                all_goals (
                  go_wp2_with fail
                  go_roundw
                  case rel => exact ⟨q + 1, by go_num, by omega, own_fr (by rw [HSm.out]; exact HO.out) hf9, HF.out.trans hf9⟩
                  case measure => simp [intOf]; omega)
              · obtain ⟨e1, e2, e3⟩ := size_some (fun h0 => h (size_nil h0))
                have HS7 := hideP (show wr.cell? ⟨g, q * 6, none⟩ = some (.int .i64 2) ∧ wr.cell? ⟨g, q * 6 + 1, none⟩ = some (.int .i64 0) ∧ wr.cell? ⟨g, q * 6 + 2, none⟩ = some (.int .i64 0) ∧ wr.cell? ⟨g, q * 6 + 3, none⟩ = some (.int .i64 0) ∧ wr.cell? ⟨g, q * 6 + 4, none⟩ = some (.string vs) ∧ wr.cell? ⟨g, q * 6 + 5, none⟩ = some (.string nm) ∧ wr.cell? ⟨bc, oc + i, none⟩ = some (.string c) from ⟨u0, u1, u2, u3, u4, u5, d3⟩)
                clear u0 u1 u2 u3 u4 u5 d3
                go_upto_region 15 with fail
                have hz := Fr.drew (Fr.refl wr)
                go_region_held3 (fun W => W.cell? ⟨g, q * 6, none⟩ = some (.int .i64 2) ∧ W.cell? ⟨g, q * 6 + 1, none⟩ = some (.int .i64 0) ∧ W.cell? ⟨g, q * 6 + 2, none⟩ = some (.int .i64 0) ∧ W.cell? ⟨g, q * 6 + 3, none⟩ = some (.int .i64 0) ∧ W.cell? ⟨g, q * 6 + 4, none⟩ = some (.string vs) ∧ W.cell? ⟨g, q * 6 + 5, none⟩ = some (.string nm) ∧ W.cell? ⟨bc, oc + i, none⟩ = some (.string c)) (first | exact HS7.out | exact s7_after hz HS7.out | exact s7_after hf9 HS7.out) (first
                                  | (go_at_call 20; refine (nCol_any _ _).mono ?_; rintro _ x9 ⟨rfl, f9⟩; have hf9 := hz.trans f9; clear f9))
                all_goals (
                  go_wp2_with fail
                  go_roundw
                  case rel => exact ⟨q + 1, by go_num, by omega, own_fr (by rw [HSm.out]; exact HO.out) hf9, HF.out.trans hf9⟩
                  case measure => simp [intOf]; omega)
              · obtain ⟨e1, e2⟩ := ba_ne h
                have HS7 := hideP (show wr.cell? ⟨g, q * 6, none⟩ = some (.int .i64 2) ∧ wr.cell? ⟨g, q * 6 + 1, none⟩ = some (.int .i64 0) ∧ wr.cell? ⟨g, q * 6 + 2, none⟩ = some (.int .i64 0) ∧ wr.cell? ⟨g, q * 6 + 3, none⟩ = some (.int .i64 0) ∧ wr.cell? ⟨g, q * 6 + 4, none⟩ = some (.string ⟨#[]⟩) ∧ wr.cell? ⟨g, q * 6 + 5, none⟩ = some (.string nm) ∧ wr.cell? ⟨bc, oc + i, none⟩ = some (.string c) from ⟨u0, u1, u2, u3, u4, u5, d3⟩)
                clear u0 u1 u2 u3 u4 u5 d3
                go_upto_region 15 with fail
                have hz := Fr.drew (Fr.refl wr)
                go_region_held3 (fun W => W.cell? ⟨g, q * 6, none⟩ = some (.int .i64 2) ∧ W.cell? ⟨g, q * 6 + 1, none⟩ = some (.int .i64 0) ∧ W.cell? ⟨g, q * 6 + 2, none⟩ = some (.int .i64 0) ∧ W.cell? ⟨g, q * 6 + 3, none⟩ = some (.int .i64 0) ∧ W.cell? ⟨g, q * 6 + 4, none⟩ = some (.string ⟨#[]⟩) ∧ W.cell? ⟨g, q * 6 + 5, none⟩ = some (.string nm) ∧ W.cell? ⟨bc, oc + i, none⟩ = some (.string c)) (first | exact HS7.out | exact s7_after hz HS7.out | exact s7_after hf9 HS7.out) (first
                                  | (go_at_call 20; refine (nCol_any _ _).mono ?_; rintro _ x9 ⟨rfl, f9⟩; have hf9 := hz.trans f9; clear f9))
                all_goals (
                  go_wp2_with fail
                  go_roundw
                  case rel => exact ⟨q + 1, by go_num, by omega, own_fr (by rw [HSm.out]; exact HO.out) hf9, HF.out.trans hf9⟩
                  case measure => simp [intOf]; omega)
          · obtain rfl : q = n0 := by omega
            have hlt2' : ((q : Int) < (q : Int)) = False := by simp
            have hall : mixd c ⟨yk, yn, ys⟩ e q = e.map (EV.plc c ⟨yk, yn, ys⟩) := by
              have := mixd_all c ⟨yk, yn, ys⟩ e
              rw [HN0.out] at this
              exact this
            have HIp := hideP (show IsL cdN wr (.slice pa q pc) (e.map (EV.plc c ⟨yk, yn, ys⟩)) from isL_own (E := cdN) (by rw [List.length_map, HN0.out, ← hall]; exact HO.out))
            have HCa := hideP (HEx.out wr _ FQ.out _ (by
              intro x hx
              obtain ⟨n, hn, rfl⟩ := List.mem_map.1 hx
              unfold EV.plc
              split
              · exact ⟨by show (⟨#[]⟩ : ByteArray).size ≤ _; decide, HGy.out⟩
              · exact HK0.out n hn) (by rw [List.length_map, HN0.out]; omega) HIp.out)
            rw [HEq.out, HXR.out] at HCa
            clear hall
            go_wp2_with fail
            refine HCa.out.mono ?_
            rintro _ w8 ⟨rfl, f8⟩
            have HV2 := hideP (Blk.new w8 #[.int .i64 rk, .int .i64 rn, .string rs] 26)
            have g8 := f8.alloc (.cells #[.int .i64 rk, .int .i64 rn, .string rs] 26)
            have FV := HV.out.fr (HF.out.trans g8)
            have x0 := FV.cell 0 rfl
            have x1 := FV.cell 1 rfl
            have x2 := FV.cell 2 rfl
            have y0 := HV2.out.cell 0 rfl
            have y1 := HV2.out.cell 1 rfl
            have y2 := HV2.out.cell 2 rfl
            have F8 := hideP (FQ.out.trans g8)
            clear f8 g8 FV
            go_wp2_with fail
            go_ret
            exact ⟨rfl, F8.out⟩

set_option maxRecDepth 100000 in
theorem lifted (os : Go.Os) (started : os.Started) (H : Type) (enc : TypeId × Value → H) :
    ReturnsInHanded {} Tryz.checked os 6 .any (fun w args => (Rows.evalPlacedSpec.pre enc Tryz.prog Tryz.f6 [] false w args ∧ laidMetH Tryz.prog Rows.evalPlacedRow.laid w) ∧ sizedMet enc Tryz.prog Tryz.f6 (OpenSpec.ofChange Rows.evalPlacedSpec) false w args)
      (Rows.evalPlacedSpec.post enc Tryz.prog Tryz.f6 false true false false) := by
  refine returnsInHanded_of_change_and (C := Tryz.checked) (X := fun w _ => laidMetH Tryz.prog Rows.evalPlacedRow.laid w) (fun _ _ _ hh h => h.of_heap hh) own started (by kernel_rfl) Tryz.func6
    (ChangeSpec.witness_shaped (enc := enc) (C := Tryz.checked) (os := os) (X := fun w _ => laidMetH Tryz.prog Rows.evalPlacedRow.laid w) false (World.laidAll Tryz.prog os Rows.evalPlacedRow.laid) #[.slice none 0 0, .slice none 0 0, .slice none 0 0, .int .i64 0] 8 (World.laidAll_os _ _ _)
      (World.shaped_of_ZipB (by kernel_rfl) (by kernel_rfl)) (by kernel_rfl) (by kernel_rfl) (by kernel_rfl)
      (by rw [MakeChecks.laidMetH_plain _ _ _ (by kernel_rfl)]; exact laidMet_laidAll _ (by kernel_rfl) (by kernel_rfl))) ?_
  intro W base args ds gs before hval0 hW hcnd hsz0 hL _
  have hT : Tt W := tabs_of_laid hL
  have hval : ∀ (j : Nat) t v, Tryz.f6.params[j]? = some t → args[j]? = some v → Value.okWide Tryz.prog W .any base t v := hval0
  have hsz : (DataW.weightsEach Tryz.prog (Tryz.f6.params.toList ++ Rows.evalPlacedSpec.plain.varTypes Tryz.prog) (ds ++ gs)).all (· ≤ reachBytes) = true := hsz0
  have hW' := hW
  obtain ⟨p, q, hA0, hV, rfl, hfz, hnd⟩ := hW
  have hA : DataW.TrodAll enc Tryz.prog W 0 (fun _ => true) true Tryz.f6.params.toList args.toList ds p := hA0
  rw [Tryz.params6] at hA hval hsz
  obtain ⟨v0, vs0, d0, ds0, p0, q0, hargs, rfl, rfl, h0, r0⟩ := trodAll_cons hA
  obtain ⟨v1, vs1, d1, ds1, p1, q1, rfl, rfl, rfl, h1, r1⟩ := trodAll_cons r0
  obtain ⟨v2, vs2, d2, ds2, p2, q2, rfl, rfl, rfl, h2, r2⟩ := trodAll_cons r1
  obtain ⟨v3, vs3, d3, ds3, p3, q3, rfl, rfl, rfl, h3, r3⟩ := trodAll_cons r2
  obtain ⟨rfl, rfl, rfl⟩ := trodAll_nil r3
  obtain rfl : args = #[v0, v1, v2, v3] := by cases args; simp_all
  obtain ⟨rfl, rfl⟩ := trodVars_none hV
  obtain ⟨l0, rw0, ok0, b0⟩ := open_nds (hval 0 22 v0 rfl rfl) h0 (sized_at hsz (j := 0) rfl rfl)
  obtain ⟨l1, rw1, ok1, b1⟩ := open_cls (hval 1 23 v1 rfl rfl) h1 (sized_at hsz (j := 1) rfl rfl)
  obtain ⟨l2, rw2, ok2, b2⟩ := open_vrw (hval 2 24 v2 rfl rfl) h2 (sized_at hsz (j := 2) rfl rfl)
  obtain ⟨a3, rfl, rfl, rfl, w3⟩ := open_int Tryz.underlying3 (hval 3 3 v3 rfl rfl) h3
  clear hA0 hval0 hsz0
  refine (walk v0 l0 v1 l1 v2 l2 a3 W hT rw0 ok0 b0 rw1 ok1 b1 rw2 ok2 b2 (wf_i64 w3)).mono fun e W' ⟨he, bel⟩ => ?_
  subst he
  exact ⟨_, rfl, _, _, _, [], _, [], hW', trodAll_mk1 (shut_bool Tryz.underlying4 _), (trodAll_cons_mk (shut_nds h0 bel) (trodAll_cons_mk (shut_cls h1 bel) (trodAll_cons_mk (shut_vrw h2 bel) (trodAll_cons_mk (shut_int Tryz.underlying3 w3) trodAll_mk0)))), rfl, Below.frame bel _, fun h => by cases h⟩

theorem over : Rows.evalPlacedRow.holds Tryz.pinned (OpenSpec.ofChange Rows.evalPlacedSpec) :=
  OpenClaim.holds_of_wide 6 Tryz.f6 rfl rfl rfl rfl rfl rfl rfl ⟨rfl, rfl, rfl, rfl, rfl⟩ rfl rfl rfl rfl rfl (by kernel_rfl) Tryz.func6 (by kernel_rfl)
    (of_decide_eq_true (by kernel_rfl)) (by unfold Func.isWrapper; first | (rw [if_pos (by decide +kernel)]; kernel_rfl) | (rw [if_neg (by decide +kernel)]; exact ⟨rfl, rfl⟩))
    (fun os started H enc _ => lifted os started H enc)

theorem card : Rows.EvalPlacedCardSaid :=
  Claim7.holds_tied_plain_at .later [] [.data, .data, .data, .data, .data, .data, .pinned] true (true, "96cea82cc36b5cf1a3380f7b37f60b58bdddc176841e44ac2e27ea7ff724803d") false
    over (fun _ h => by cases h) (by kernel_rfl) (fun _ h => by cases h) evalPlaced_row_tie rfl ⟨rfl, rfl⟩ (by kernel_rfl) rfl
    (fun f fn hf hfn => by
      obtain rfl : f = 6 := Option.some.inj ((show Tryz.prog.funcNamed "starling/starlinglaw.EvalPlaced" = some 6 by kernel_rfl).symm.trans hf) |>.symm
      obtain rfl : fn = Tryz.f6 := (Option.some.inj (Tryz.func6.symm.trans hfn)).symm
      exact ⟨by kernel_rfl, fun j t ht => by
        rw [Tryz.params6] at ht
        have hm : t ∈ [22, 23, 24, 3] := by simpa using Array.mem_of_getElem? ht
        have hall : ([22, 23, 24, 3].all fun u => !Tryz.prog.wantsStandIn u) = true := by kernel_rfl
        exact (show Tryz.prog.wantsStandIn t = false by simpa using List.all_eq_true.1 hall t hm)⟩)
    (by kernel_rfl)

end Go.Proofs.YtjboeabddnnlcaaGreatDoor.evalPlacedProof
namespace Go.Proofs.YtjboeabddnnlcaaGreatDoor
theorem evalPlaced_holds : Rows.EvalPlacedCardSaid := evalPlacedProof.card
#print axioms evalPlaced_holds
end Go.Proofs.YtjboeabddnnlcaaGreatDoor
