/-
  Proved: for every store, all ops and every place PlayParts answers true: ops in two parts, one behind the other, do what all of them do. No condition but the form's own reach.
-/
import Derived.Test.YtklldfkaihpkiaaJdL
import Derived.Test.YtklldfkaihpkiaaOpenD
import Derived.Deep.DeepCutAuto
import Derived.Deep.CutRange
namespace Go.Proofs.Ytklldfkaihpkiaa.PlayParts
open Go.ChangeShapes Go.WideShapes Go.ChangeAt Go.RowKit
set_option linter.unusedVariables false
set_option linter.unusedSimpArgs false
set_option maxRecDepth 100000

theorem playO_bad : ∀ (l : List JN.O) (s : JN.S), (JN.playO s l).2 ≠ 0 → (JN.playO s l).1 = JN.noneS
  | [], s, h => absurd rfl h
  | o :: l, s, h => by
    unfold JN.playO at h ⊢
    by_cases e : (JN.opS s o).2 = 0
    · rw [if_pos e] at h ⊢; exact playO_bad l _ h
    · rw [if_neg e]
theorem play_bad (s : JN.S) (l : List JN.O) (h : (JN.playS s l).2 ≠ 0) : (JN.playS s l).1 = JN.noneS := by
  unfold JN.playS at h ⊢
  by_cases a : JN.schk s = 0
  · rw [if_pos a] at h ⊢
    by_cases b : 100 < l.length
    · rw [if_pos b]
    · rw [if_neg b] at h ⊢; exact playO_bad l s h
  · rw [if_neg a]
theorem playO_ok : ∀ (l : List JN.O) (s : JN.S), JN.OkS s → (JN.playO s l).2 = 0 → JN.OkS (JN.playO s l).1
  | [], s, h, _ => h
  | o :: l, s, h, h2 => by
    unfold JN.playO at h2 ⊢
    by_cases e : (JN.opS s o).2 = 0
    · rw [if_pos e] at h2 ⊢; exact playO_ok l _ (JN.op_ok h e).1 h2
    · rw [if_neg e] at h2; exact absurd h2 e
theorem play_ok {s : JN.S} {l : List JN.O} (h : (JN.playS s l).2 = 0) : JN.OkS (JN.playS s l).1 := by
  obtain ⟨hs, _, e⟩ := JN.playS_err h
  rw [e] at h ⊢
  exact playO_ok l s hs h
theorem IsL.from {α : Type} {E : Cd α} {w : World} {a : Option Addr} {m c : Nat} {l : List α} (h : IsL E w (.slice a m c) l) (n : Nat) (hn : n < l.length) : ∃ b o, a = some ⟨b, o, none⟩ ∧ IsL E w (.slice (some ⟨b, o + n * E.k, none⟩) (l.length - n) (c - n)) (l.drop n) := by
  obtain ⟨a', cap, e, hc, hh⟩ := h
  cases e
  rcases hh with h0 | ⟨b, o, e, hb, hat⟩
  · rw [h0] at hn; simp at hn
  · refine ⟨b, o, e, _, _, by rw [List.length_drop], by rw [List.length_drop]; omega, ?_⟩
    right
    refine ⟨b, _, rfl, hb, ?_⟩
    intro j u hj
    have hs : flat E l = flat E (l.take n) ++ flat E (l.drop n) := by rw [← flat_app, List.take_append_drop]
    have := hat (n * E.k + j) u (by
      rw [hs, List.getElem?_append_right (by rw [flat_len, List.length_take, Nat.min_eq_left (by omega)]; omega), flat_len, List.length_take, Nat.min_eq_left (by omega), Nat.add_sub_cancel_left]
      exact hj)
    rw [← Nat.add_assoc] at this
    exact this
theorem from_ops {w : World} {a : Option Addr} {c n : Nat} {l : List JN.O} (h : IsL cdO w (.slice a l.length c) l) (hn : n ≤ l.length) : IsL cdO w (.slice (if c = n then a else Option.map (fun x => x.add (n * 3)) a) (l.length - n) (c - n)) (l.drop n) := by
  by_cases e : n = l.length
  · refine ⟨_, _, by rw [List.length_drop], by rw [List.length_drop]; omega, ?_⟩
    left
    rw [e, List.drop_length]
  · have hc := h.cap.2
    obtain ⟨b, o, e1, h1⟩ := IsL.from h n (by omega)
    rw [if_neg (by omega), e1]
    have e2 : Option.map (fun x : Addr => x.add (n * 3)) (some ⟨b, o, none⟩) = some ⟨b, o + n * cdO.k, none⟩ := by
      rw [Option.map_some, add_at _ _ rfl]
      rfl
    rw [e2]
    exact h1
set_option maxHeartbeats 20000000 in
theorem walk (p q P Q : Value) (s : JN.S) (v : Value) (ops : List JN.O) (k : Int) (w : World) (hr : IsS w p q P Q s) (hb : BD s.da ∧ BD s.jo) (hl : IsL cdO w v ops) (ho : ∀ y ∈ ops, (-9223372036854775808 ≤ y.kind ∧ y.kind ≤ 9223372036854775807) ∧ -9223372036854775808 ≤ y.no ∧ y.no ≤ 9223372036854775807) (hlen : ops.length * 32 ≤ 140737488351232) (hk : -9223372036854775808 ≤ k ∧ k ≤ 9223372036854775807) :
    Calls Try.prog 9 #[.agg #[p, q, P, Q], v, .int .i64 k] w fun e w' => e = .returned (.bool true) ∧ Fr w w' := by
  obtain ⟨aS, nS, dS, rfl⟩ := hr.1.1.slice
  obtain ⟨eS, mS, hS, rfl⟩ := hr.1.2.slice
  obtain ⟨AS, NS, CS, rfl⟩ := hr.2.1.slice
  obtain ⟨ES, MS, GS, rfl⟩ := hr.2.2.slice
  have hl0 := hl
  obtain ⟨av, cv, rfl, hcap, _⟩ := hl0
  have hb1 := hb.1.pl
  have hb2 := hb.2.pl
  have VS := hideP (SV.new hr)
  have HF : Hid (Fr w (w.alloc (.cells #[.slice aS nS dS, .slice eS mS hS, .slice AS NS CS, .slice ES MS GS] 46))) := (Fr.refl w).alloc _
  have LO := hideP (hl.fr ((Fr.refl w).alloc (.cells #[.slice aS nS dS, .slice eS mS hS, .slice AS NS CS, .slice ES MS GS] 46)))
  clear hr hl ho hb
  obtain ⟨r, hrr⟩ : ∃ r, JN.playS s ops = r := ⟨_, rfl⟩
  have hbad := play_bad s ops
  have hpt := fun h => JN.play_parts (s := s) (l := ops) h
  have hgd := fun h => play_ok (s := s) (l := ops) h
  have hgk := fun n h => play_ok (s := s) (l := ops.take n) h
  rw [hrr] at hbad hpt hgd
  have HR := hideP hrr
  clear hrr
  obtain ⟨x, y⟩ := r
  simp only at hbad hpt hgd
  by_cases h0 : y = 0
  · subst h0
    replace hpt := hpt rfl
    replace hgd := hgd rfl
    clear hbad
    by_cases hk0 : k < 0
    · clear hpt hgk hcap
      go_enter Try.func9, Try.ntmps9
      obtain ⟨kS0, kS1, kS2, kS3, _, _, _, _⟩ := VS.out.b.four
      have c21 := play_any _ _ _ _ _ s ops (w.alloc (.cells #[.slice aS nS dS, .slice eS mS hS, .slice AS NS CS, .slice ES MS GS] 46)) VS.out.s LO.out hb1 hb2
      rw [HR.out] at c21
      go_wp2_with fail
      refine c21.mono ?_
      rintro _ w21 ⟨pA, qA, PA, QA, rfl, sA, xA, yA, f21⟩
      clear c21
      clear kS0 kS1 kS2 kS3
      obtain ⟨aA, nA, dA, rfl⟩ := sA.1.1.slice
      obtain ⟨eA, mA, hA, rfl⟩ := sA.1.2.slice
      obtain ⟨AA, NA, CA, rfl⟩ := sA.2.1.slice
      obtain ⟨EA, MA, GA, rfl⟩ := sA.2.2.slice
      have NV := SV.new sA
      have g21 : Fr (w.alloc (.cells #[.slice aS nS dS, .slice eS mS hS, .slice AS NS CS, .slice ES MS GS] 46)) (w21.alloc (.cells #[.slice aA nA dA, .slice eA mA hA, .slice AA NA CA, .slice EA MA GA] 46)) := f21.alloc _
      replace VS := hideP (VS.out.fr g21)
      replace LO := hideP (LO.out.fr g21)
      replace HF := hideP (HF.out.trans g21)
      have VA := hideP NV
      have XA := hideP xA
      have YA := hideP yA
      clear NV g21 f21 sA xA yA
      have c22 := journalBegun_any (w21.alloc (.cells #[.slice aA nA dA, .slice eA mA hA, .slice AA NA CA, .slice EA MA GA] 46))
      go_wp2_with fail
      refine c22.mono ?_
      rintro _ w22 ⟨rfl, f22⟩
      clear c22
      replace VS := hideP (VS.out.fr f22)
      replace VA := hideP (VA.out.fr f22)
      replace LO := hideP (LO.out.fr f22)
      replace HF := hideP (HF.out.trans f22)
      clear f22
      go_wp2_with fail
      go_ret
      exact ⟨rfl, HF.out⟩
    by_cases hk1 : (ops.length : Int) < k
    · clear hpt hgk hcap
      go_enter Try.func9, Try.ntmps9
      obtain ⟨kS0, kS1, kS2, kS3, _, _, _, _⟩ := VS.out.b.four
      have c21 := play_any _ _ _ _ _ s ops (w.alloc (.cells #[.slice aS nS dS, .slice eS mS hS, .slice AS NS CS, .slice ES MS GS] 46)) VS.out.s LO.out hb1 hb2
      rw [HR.out] at c21
      go_wp2_with fail
      refine c21.mono ?_
      rintro _ w21 ⟨pA, qA, PA, QA, rfl, sA, xA, yA, f21⟩
      clear c21
      clear kS0 kS1 kS2 kS3
      obtain ⟨aA, nA, dA, rfl⟩ := sA.1.1.slice
      obtain ⟨eA, mA, hA, rfl⟩ := sA.1.2.slice
      obtain ⟨AA, NA, CA, rfl⟩ := sA.2.1.slice
      obtain ⟨EA, MA, GA, rfl⟩ := sA.2.2.slice
      have NV := SV.new sA
      have g21 : Fr (w.alloc (.cells #[.slice aS nS dS, .slice eS mS hS, .slice AS NS CS, .slice ES MS GS] 46)) (w21.alloc (.cells #[.slice aA nA dA, .slice eA mA hA, .slice AA NA CA, .slice EA MA GA] 46)) := f21.alloc _
      replace VS := hideP (VS.out.fr g21)
      replace LO := hideP (LO.out.fr g21)
      replace HF := hideP (HF.out.trans g21)
      have VA := hideP NV
      have XA := hideP xA
      have YA := hideP yA
      clear NV g21 f21 sA xA yA
      have c22 := journalBegun_any (w21.alloc (.cells #[.slice aA nA dA, .slice eA mA hA, .slice AA NA CA, .slice EA MA GA] 46))
      go_wp2_with fail
      refine c22.mono ?_
      rintro _ w22 ⟨rfl, f22⟩
      clear c22
      replace VS := hideP (VS.out.fr f22)
      replace VA := hideP (VA.out.fr f22)
      replace LO := hideP (LO.out.fr f22)
      replace HF := hideP (HF.out.trans f22)
      clear f22
      go_wp2_with fail
      go_ret
      exact ⟨rfl, HF.out⟩
    obtain ⟨n, rfl⟩ := Int.eq_ofNat_of_zero_le (show 0 ≤ k by omega)
    have hn : n ≤ ops.length := by omega
    replace hpt := hpt n
    replace hgk := hgk n hpt.1
    obtain ⟨e1, e2⟩ := hpt
    obtain ⟨b1, hb1'⟩ : ∃ b1, (JN.playS s (ops.take n)).1 = b1 := ⟨_, rfl⟩
    have e3 : JN.playS s (ops.take n) = (b1, 0) := Prod.ext hb1' e1
    rw [e3] at e2 hgk
    simp only at e2 hgk
    have hx1 := hgd.da.len
    have hx2 := hgd.da.many
    have hx3 := hgd.jo.len
    have hx4 := hgd.jo.many
    have hy1 := hgk.da.len
    have hy3 := hgk.jo.len
    have E2 := hideP e2
    have E3 := hideP e3
    have hk2 : ¬ ((n : Int) < 0) := hk0
    have hk3 : ¬ ((ops.length : Int) < (n : Int)) := hk1
    have hk4 : (0 : Int) ≤ (n : Int) := by omega
    have hk5 : (n : Int) ≤ (cv : Int) := by omega
    have hk6 : (n : Int) ≤ (ops.length : Int) := by omega
    clear e1 e2 e3 hb1' hgd hgk hk0 hk1
    go_enter Try.func9, Try.ntmps9
    obtain ⟨kS0, kS1, kS2, kS3, _, _, _, _⟩ := VS.out.b.four
    have c21 := play_any _ _ _ _ _ s ops (w.alloc (.cells #[.slice aS nS dS, .slice eS mS hS, .slice AS NS CS, .slice ES MS GS] 46)) VS.out.s LO.out hb1 hb2
    rw [HR.out] at c21
    go_wp2_with fail
    refine c21.mono ?_
    rintro _ w21 ⟨pA, qA, PA, QA, rfl, sA, xA, yA, f21⟩
    clear c21
    clear kS0 kS1 kS2 kS3
    obtain ⟨aA, nA, dA, rfl⟩ := sA.1.1.slice
    obtain ⟨eA, mA, hA, rfl⟩ := sA.1.2.slice
    obtain ⟨AA, NA, CA, rfl⟩ := sA.2.1.slice
    obtain ⟨EA, MA, GA, rfl⟩ := sA.2.2.slice
    have NV := SV.new sA
    have g21 : Fr (w.alloc (.cells #[.slice aS nS dS, .slice eS mS hS, .slice AS NS CS, .slice ES MS GS] 46)) (w21.alloc (.cells #[.slice aA nA dA, .slice eA mA hA, .slice AA NA CA, .slice EA MA GA] 46)) := f21.alloc _
    replace VS := hideP (VS.out.fr g21)
    replace LO := hideP (LO.out.fr g21)
    replace HF := hideP (HF.out.trans g21)
    have VA := hideP NV
    have XA := hideP xA
    have YA := hideP yA
    clear NV g21 f21 sA xA yA
    have c22 := journalBegun_any (w21.alloc (.cells #[.slice aA nA dA, .slice eA mA hA, .slice AA NA CA, .slice EA MA GA] 46))
    go_wp2_with fail
    refine c22.mono ?_
    rintro _ w22 ⟨rfl, f22⟩
    clear c22
    replace VS := hideP (VS.out.fr f22)
    replace VA := hideP (VA.out.fr f22)
    replace LO := hideP (LO.out.fr f22)
    replace HF := hideP (HF.out.trans f22)
    clear f22
    have cp := fun W (f : Fr w22 W) => play_any _ _ _ _ (.slice av n cv) s (ops.take n) W (VS.out.s.fr f) ((LO.out.upto n hn).fr f) hb1 hb2
    rw [E3.out] at cp
    have CP := hideP (cp)
    have HS3 := hideP (show w22.cell? ⟨w.heap.size, 0, none⟩ = some (.slice aS nS dS) ∧ w22.cell? ⟨w.heap.size, 1, none⟩ = some (.slice eS mS hS) ∧ w22.cell? ⟨w.heap.size, 2, none⟩ = some (.slice AS NS CS) ∧ w22.cell? ⟨w.heap.size, 3, none⟩ = some (.slice ES MS GS) from by
      obtain ⟨k0, k1, k2, k3, _, _, _, _⟩ := VS.out.b.four
      exact ⟨k0, k1, k2, k3⟩)
    have hlt0 : w.heap.size < w22.heap.size := VS.out.b.lt
    have hz := Fr.drew (Fr.refl w22)
    have hy := Fr.drew (Fr.alloc (Fr.refl w22) (.cells #[.slice none 0 0, .slice none 0 0, .slice none 0 0, .slice none 0 0] 46))
    go_upto_region 6 with fail
    try simp only [show decide ((n : Int) < 0) = false from by simp, show decide (ops.length < n) = false from by simp; omega, Bool.or_false]
    go_cut [9, 10] from 40 to 47 (fun s4 s5 wx => ∃ N p q P Q, s4 = .pointer (some ⟨N, 0, none⟩) ∧ s5 = .int .i64 0 ∧ SV wx N p q P Q b1 ∧ Fr w22 wx)
    case first =>
      go_region_held3 (fun W => W.cell? ⟨w.heap.size, 0, none⟩ = some (.slice aS nS dS) ∧ W.cell? ⟨w.heap.size, 1, none⟩ = some (.slice eS mS hS) ∧ W.cell? ⟨w.heap.size, 2, none⟩ = some (.slice AS NS CS) ∧ W.cell? ⟨w.heap.size, 3, none⟩ = some (.slice ES MS GS)) (first | exact HS3.out | assumption | exact s4_after hz HS3.out | exact s4_after (Fr.alloc hz _) HS3.out | exact s4_after hy HS3.out | exact s4_after (Fr.after f5 hz) HS3.out | exact s4_after (Fr.after f5 hy) HS3.out | exact s4_after (Fr.after f5 (Fr.alloc hz _)) HS3.out | exact s4_after (Fr.alloc (Fr.after f5 hz) _) HS3.out | exact s4_set4 HS3.out (Fr.after f5 (Fr.alloc hz _)) (by omega) | exact s4_set4 HS3.out (Fr.after f5 hy) (by omega)) (first
        | (go_at_call 35; refine (CP.out _ (by first | exact hz | exact Fr.alloc hz _ | exact hy)).mono ?_; rintro _ w5 ⟨p5, q5, P5, Q5, rfl, hs5, hx5, hy5, f5⟩; obtain ⟨b1, n1, d1, rfl⟩ := hs5.1.1.slice; obtain ⟨b2, n2, d2, rfl⟩ := hs5.1.2.slice; obtain ⟨b3, n3, d3, rfl⟩ := hs5.2.1.slice; obtain ⟨b4, n4, d4, rfl⟩ := hs5.2.2.slice; have HS5 := hideP hs5; have HX5 := hideP hx5; have HY5 := hideP hy5; clear hs5 hx5 hy5; (first | (have HN5 : Hid (Blk w5 w22.heap.size #[.slice none 0 0, .slice none 0 0, .slice none 0 0, .slice none 0 0] 46) := (Blk.new w22.drew #[.slice none 0 0, .slice none 0 0, .slice none 0 0, .slice none 0 0] 46).fr f5) | (have HN5 : Hid (Blk w5 w22.heap.size #[.slice none 0 0, .slice none 0 0, .slice none 0 0, .slice none 0 0] 46) := ((Blk.new w22 #[.slice none 0 0, .slice none 0 0, .slice none 0 0, .slice none 0 0] 46).fr (Fr.drew (Fr.refl _))).fr f5) | skip); (first | (obtain ⟨g0, g1, g2, g3, y0, y1, y2, y3⟩ := HN5.out.four) | skip)))
      all_goals (go_wp2_with fail; go_meet)
      all_goals first
        | exact ⟨_, _, _, _, _, rfl, rfl, SV.new HS5.out, Fr.alloc (Fr.after f5 hz) _⟩
        | exact ⟨_, _, _, _, _, rfl, rfl, sv_set (Fr.alloc hz _) (Blk.new w22.drew #[.slice none 0 0, .slice none 0 0, .slice none 0 0, .slice none 0 0] 46) (Nat.le_refl _) f5 HS5.out HX5.out HY5.out⟩
        | exact ⟨_, _, _, _, _, rfl, rfl, sv_set hy ((Blk.new w22 #[.slice none 0 0, .slice none 0 0, .slice none 0 0, .slice none 0 0] 46).fr (Fr.drew (Fr.refl _))) (Nat.le_refl _) f5 HS5.out HX5.out HY5.out⟩
    case rest =>
      obtain ⟨nB0, pB, qB, PB, QB, rfl, rfl, vB, fcut⟩ := hcut
      replace VS := hideP (VS.out.fr fcut)
      replace VA := hideP (VA.out.fr fcut)
      replace LO := hideP (LO.out.fr fcut)
      replace HF := hideP (HF.out.trans fcut)
      obtain ⟨aB, nB, dB, rfl⟩ := vB.s.1.1.slice
      obtain ⟨eB, mB, hB, rfl⟩ := vB.s.1.2.slice
      obtain ⟨AB, NB, CB, rfl⟩ := vB.s.2.1.slice
      obtain ⟨EB, MB, GB, rfl⟩ := vB.s.2.2.slice
      have VB := hideP vB
      clear vB fcut CP HS3 hz hy hlt0
      clear cp
      have cp := fun W (f : Fr wc W) => play_any _ _ _ _ _ b1 (ops.drop n) W (VB.out.s.fr f) ((from_ops LO.out hn).fr f) (by omega) (by omega)
      rw [E2.out] at cp
      have CP := hideP (cp)
      have HS3 := hideP (show wc.cell? ⟨nB0, 0, none⟩ = some (.slice aB nB dB) ∧ wc.cell? ⟨nB0, 1, none⟩ = some (.slice eB mB hB) ∧ wc.cell? ⟨nB0, 2, none⟩ = some (.slice AB NB CB) ∧ wc.cell? ⟨nB0, 3, none⟩ = some (.slice EB MB GB) from by
        obtain ⟨k0, k1, k2, k3, _, _, _, _⟩ := VB.out.b.four
        exact ⟨k0, k1, k2, k3⟩)
      have hlt0 : nB0 < wc.heap.size := VB.out.b.lt
      have hz := Fr.drew (Fr.refl wc)
      have hy := Fr.drew (Fr.alloc (Fr.refl wc) (.cells #[.slice none 0 0, .slice none 0 0, .slice none 0 0, .slice none 0 0] 46))
      go_upto_region 7 with fail
      try simp only [show decide ((n : Int) < 0) = false from by simp, show decide (ops.length < n) = false from by simp; omega, Bool.or_false]
      go_cut [11, 12] from 48 to 55 (fun s4 s5 wx => ∃ N p q P Q, s4 = .pointer (some ⟨N, 0, none⟩) ∧ s5 = .int .i64 0 ∧ SV wx N p q P Q x ∧ Fr wc wx)
      case first =>
        go_region_held3 (fun W => W.cell? ⟨nB0, 0, none⟩ = some (.slice aB nB dB) ∧ W.cell? ⟨nB0, 1, none⟩ = some (.slice eB mB hB) ∧ W.cell? ⟨nB0, 2, none⟩ = some (.slice AB NB CB) ∧ W.cell? ⟨nB0, 3, none⟩ = some (.slice EB MB GB)) (first | exact HS3.out | assumption | exact s4_after hz HS3.out | exact s4_after (Fr.alloc hz _) HS3.out | exact s4_after hy HS3.out | exact s4_after (Fr.after f5 hz) HS3.out | exact s4_after (Fr.after f5 hy) HS3.out | exact s4_after (Fr.after f5 (Fr.alloc hz _)) HS3.out | exact s4_after (Fr.alloc (Fr.after f5 hz) _) HS3.out | exact s4_set4 HS3.out (Fr.after f5 (Fr.alloc hz _)) (by omega) | exact s4_set4 HS3.out (Fr.after f5 hy) (by omega)) (first
          | (go_at_call 35; refine (CP.out _ (by first | exact hz | exact Fr.alloc hz _ | exact hy)).mono ?_; generalize (if cv = n then av else Option.map (fun x => x.add (n * 3)) av) = zv; rintro _ w5 ⟨p5, q5, P5, Q5, rfl, hs5, hx5, hy5, f5⟩; obtain ⟨b1, n1, d1, rfl⟩ := hs5.1.1.slice; obtain ⟨b2, n2, d2, rfl⟩ := hs5.1.2.slice; obtain ⟨b3, n3, d3, rfl⟩ := hs5.2.1.slice; obtain ⟨b4, n4, d4, rfl⟩ := hs5.2.2.slice; have HS5 := hideP hs5; have HX5 := hideP hx5; have HY5 := hideP hy5; clear hs5 hx5 hy5; (first | (have HN5 : Hid (Blk w5 wc.heap.size #[.slice none 0 0, .slice none 0 0, .slice none 0 0, .slice none 0 0] 46) := (Blk.new wc.drew #[.slice none 0 0, .slice none 0 0, .slice none 0 0, .slice none 0 0] 46).fr f5) | (have HN5 : Hid (Blk w5 wc.heap.size #[.slice none 0 0, .slice none 0 0, .slice none 0 0, .slice none 0 0] 46) := ((Blk.new wc #[.slice none 0 0, .slice none 0 0, .slice none 0 0, .slice none 0 0] 46).fr (Fr.drew (Fr.refl _))).fr f5) | skip); (first | (obtain ⟨g0, g1, g2, g3, y0, y1, y2, y3⟩ := HN5.out.four) | skip)))
        all_goals (go_wp2_with fail; go_meet)
        all_goals first
          | exact ⟨_, _, _, _, _, rfl, rfl, SV.new HS5.out, Fr.alloc (Fr.after f5 hz) _⟩
          | exact ⟨_, _, _, _, _, rfl, rfl, sv_set (Fr.alloc hz _) (Blk.new wc.drew #[.slice none 0 0, .slice none 0 0, .slice none 0 0, .slice none 0 0] 46) (Nat.le_refl _) f5 HS5.out HX5.out HY5.out⟩
          | exact ⟨_, _, _, _, _, rfl, rfl, sv_set hy ((Blk.new wc #[.slice none 0 0, .slice none 0 0, .slice none 0 0, .slice none 0 0] 46).fr (Fr.drew (Fr.refl _))) (Nat.le_refl _) f5 HS5.out HX5.out HY5.out⟩
      case rest =>
        obtain ⟨nC0, pC, qC, PC, QC, rfl, rfl, vC, fcut⟩ := hcut
        replace VS := hideP (VS.out.fr fcut)
        replace VA := hideP (VA.out.fr fcut)
        replace VB := hideP (VB.out.fr fcut)
        replace LO := hideP (LO.out.fr fcut)
        replace HF := hideP (HF.out.trans fcut)
        obtain ⟨aC, nC, dC, rfl⟩ := vC.s.1.1.slice
        obtain ⟨eC, mC, hC, rfl⟩ := vC.s.1.2.slice
        obtain ⟨AC, NC, CC, rfl⟩ := vC.s.2.1.slice
        obtain ⟨EC, MC, GC, rfl⟩ := vC.s.2.2.slice
        have VC := hideP vC
        clear vC fcut CP HS3 hz hy hlt0
        clear cp
        obtain ⟨kC0, kC1, kC2, kC3, _, _, _, _⟩ := VC.out.b.four
        obtain ⟨kA0, kA1, kA2, kA3, _, _, _, _⟩ := VA.out.b.four
        have c23 := sameStore_eq _ _ _ _ _ _ _ _ x wc VC.out.s.1 VC.out.s.2 VA.out.s.1 VA.out.s.2 (by omega) (by omega) (by omega) (by omega)
        go_wp2_with fail
        refine c23.mono ?_
        rintro _ w23 ⟨rfl, f23⟩
        clear c23
        clear kC0 kC1 kC2 kC3
        clear kA0 kA1 kA2 kA3
        replace VS := hideP (VS.out.fr f23)
        replace VA := hideP (VA.out.fr f23)
        replace VB := hideP (VB.out.fr f23)
        replace VC := hideP (VC.out.fr f23)
        replace LO := hideP (LO.out.fr f23)
        replace HF := hideP (HF.out.trans f23)
        go_wp2_with fail
        go_ret
        exact ⟨rfl, HF.out⟩
  · obtain rfl := hbad h0
    have hne : ((y : Int) != 0) = true := by simp; omega
    have hne2 : ¬ ((y : Int) = 0) := by omega
    clear hpt hgd hgk hcap
    go_enter Try.func9, Try.ntmps9
    obtain ⟨kS0, kS1, kS2, kS3, _, _, _, _⟩ := VS.out.b.four
    have c21 := play_any _ _ _ _ _ s ops (w.alloc (.cells #[.slice aS nS dS, .slice eS mS hS, .slice AS NS CS, .slice ES MS GS] 46)) VS.out.s LO.out hb1 hb2
    rw [HR.out] at c21
    go_wp2_with fail
    refine c21.mono ?_
    rintro _ w21 ⟨pA, qA, PA, QA, rfl, sA, xA, yA, f21⟩
    clear c21
    clear kS0 kS1 kS2 kS3
    obtain ⟨aA, nA, dA, rfl⟩ := sA.1.1.slice
    obtain ⟨eA, mA, hA, rfl⟩ := sA.1.2.slice
    obtain ⟨AA, NA, CA, rfl⟩ := sA.2.1.slice
    obtain ⟨EA, MA, GA, rfl⟩ := sA.2.2.slice
    have NV := SV.new sA
    have g21 : Fr (w.alloc (.cells #[.slice aS nS dS, .slice eS mS hS, .slice AS NS CS, .slice ES MS GS] 46)) (w21.alloc (.cells #[.slice aA nA dA, .slice eA mA hA, .slice AA NA CA, .slice EA MA GA] 46)) := f21.alloc _
    replace VS := hideP (VS.out.fr g21)
    replace LO := hideP (LO.out.fr g21)
    replace HF := hideP (HF.out.trans g21)
    have VA := hideP NV
    have XA := hideP xA
    have YA := hideP yA
    clear NV g21 f21 sA xA yA
    have c22 := journalBegun_any (w21.alloc (.cells #[.slice aA nA dA, .slice eA mA hA, .slice AA NA CA, .slice EA MA GA] 46))
    go_wp2_with fail
    refine c22.mono ?_
    rintro _ w22 ⟨rfl, f22⟩
    clear c22
    replace VS := hideP (VS.out.fr f22)
    replace VA := hideP (VA.out.fr f22)
    replace LO := hideP (LO.out.fr f22)
    replace HF := hideP (HF.out.trans f22)
    clear f22
    obtain ⟨kA0, kA1, kA2, kA3, _, _, _, _⟩ := VA.out.b.four
    have c23 := sameStore_eq _ _ _ _ _ _ _ _ JN.noneS w22 VA.out.s.1 VA.out.s.2 (isD_none _) (isD_none _) (by decide) (by decide) (by decide) (by decide)
    go_wp2_with fail
    refine c23.mono ?_
    rintro _ w23 ⟨rfl, f23⟩
    clear c23
    clear kA0 kA1 kA2 kA3
    replace VS := hideP (VS.out.fr f23)
    replace VA := hideP (VA.out.fr f23)
    replace LO := hideP (LO.out.fr f23)
    replace HF := hideP (HF.out.trans f23)
    go_wp2_with fail
    go_ret
    exact ⟨rfl, HF.out⟩

set_option maxRecDepth 100000 in
theorem lifted (os : Go.Os) (started : os.Started) (H : Type) (enc : TypeId × Value → H) :
    ReturnsInHanded {} Try.checked os 9 .any (Rows.playPartsSpec.pre6 enc Try.prog Try.f9 Rows.playPartsRow.domain false) (Rows.playPartsSpec.post enc Try.prog Try.f9 false true false false) := by
  refine returnsInHanded_of_change_sized (C := Try.checked) own started (by kernel_rfl) Try.func9
    (ChangeSpec.witness6 (enc := enc) (C := Try.checked) false ⟨#[], #[.agg #[.slice none 0 0, .slice none 0 0, .slice none 0 0, .slice none 0 0], .slice none 0 0, .int .i64 0], []⟩ 8 (by kernel_rfl) (by kernel_rfl) (by kernel_rfl) (by kernel_rfl)) ?_
  intro W base args ds gs before hval0 hW hcnd hsz0 _
  have hval : ∀ (j : Nat) t v, Try.f9.params[j]? = some t → args[j]? = some v → Value.okWide Try.prog W .any base t v := hval0
  have hsz : (DataW.weightsEach Try.prog (Try.f9.params.toList ++ Rows.playPartsSpec.plain.varTypes Try.prog) (ds ++ gs)).all (· ≤ reachBytes) = true := hsz0
  have hW' := hW
  obtain ⟨p, q, hA0, hV, rfl, hfz, hnd⟩ := hW
  have hA : DataW.TrodAll enc Try.prog W 0 (fun _ => true) true Try.f9.params.toList args.toList ds p := hA0
  rw [Try.params9] at hA hval hsz
  obtain ⟨v0, vs0, d0, ds0, p0, q0, hargs, rfl, rfl, h0, r0⟩ := trodAll_cons hA
  obtain ⟨v1, vs1, d1, ds1, p1, q1, rfl, rfl, rfl, h1, r1⟩ := trodAll_cons r0
  obtain ⟨v2, vs2, d2, ds2, p2, q2, rfl, rfl, rfl, h2, r2⟩ := trodAll_cons r1
  obtain ⟨rfl, rfl, rfl⟩ := trodAll_nil r2
  obtain rfl : args = #[v0, v1, v2] := by cases args; simp_all
  obtain ⟨rfl, rfl⟩ := trodVars_none hV
  obtain ⟨x0, y0, X0, Y0, l0, rfl, rw0, bd0⟩ := open_store (hval 0 46 v0 rfl rfl) h0 (sized_at hsz (j := 0) rfl rfl)
  obtain ⟨l1, rw1, wd1, b1⟩ := open_ops (hval 1 47 v1 rfl rfl) h1 (sized_at hsz (j := 1) rfl rfl)
  obtain ⟨a2, rfl, rfl, rfl, w2⟩ := open_int Try.underlying3 (hval 2 3 v2 rfl rfl) h2
  clear hA0 hval0 hsz0
  refine (walk x0 y0 X0 Y0 l0 v1 l1 a2 W rw0 bd0 rw1 wd1 b1 (wf_i64 w2)).mono fun e W' ⟨he, bel⟩ => ?_
  subst he
  exact ⟨_, rfl, _, _, _, [], _, [], hW', trodAll_mk1 (shut_bool Try.underlying4 _), (trodAll_cons_mk (shut_store h0 bel) (trodAll_cons_mk (shut_ops h1 bel) (trodAll_cons_mk (shut_int Try.underlying3 w2) trodAll_mk0))), rfl, Below.frame bel _, fun h => by cases h⟩

theorem over : Rows.playPartsRow.holds Try.pinned (OpenSpec.ofChange Rows.playPartsSpec) :=
  OpenClaim.holds_of_wide 9 Try.f9 rfl rfl rfl rfl rfl rfl rfl ⟨rfl, rfl, rfl, rfl, rfl⟩ rfl rfl rfl rfl rfl (by kernel_rfl) Try.func9 (by kernel_rfl)
    (of_decide_eq_true (by kernel_rfl)) (by unfold Func.isWrapper; first | (rw [if_pos (by decide +kernel)]; kernel_rfl) | (rw [if_neg (by decide +kernel)]; exact ⟨rfl, rfl⟩))
    (fun os started H enc _ => lifted os started H enc)

end Go.Proofs.Ytklldfkaihpkiaa.PlayParts
namespace Go.Proofs.Ytklldfkaihpkiaa
theorem playParts_holds : Rows.PlayPartsSaid := PlayParts.over
#print axioms playParts_holds
end Go.Proofs.Ytklldfkaihpkiaa
