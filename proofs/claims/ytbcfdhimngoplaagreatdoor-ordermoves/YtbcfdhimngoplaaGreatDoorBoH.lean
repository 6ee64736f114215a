/-
  What symMerge of package slices does with two sorted lists side by side, where their midst lies in the first one.
-/
import Derived.Test.YtbcfdhimngoplaaGreatDoorGqL
namespace Go.Proofs.YtbcfdhimngoplaaGreatDoor
open Go.ChangeShapes Go.WideShapes Go.ChangeAt Go.RowKit
set_option linter.unusedVariables false
set_option linter.unusedSimpArgs false
set_option maxRecDepth 100000
set_option maxHeartbeats 4000000
theorem symMerge_lo (kv : Value) (ks : List BG.Ky) (B G : Nat) (hl : ks.length ≤ 1000) (n : Nat) (hn1 : n ≤ 1000) (N : Nat) (ih : SmIs kv ks B G n N) (P X Y Q : List Pr) (w : World) (hN : X.length + Y.length ≤ N + 1) (h : SR w B G (P ++ X ++ Y ++ Q)) (hk : ∀ w', w.grownBy w' (some G) → IsL cdY w' kv ks) (hf : ∀ p ∈ P ++ X ++ Y ++ Q, Fit ks p.2) (hX : BO.Sorted (plt ks) X) (hY : BO.Sorted (plt ks) Y) (h0 : X ≠ []) (h1 : Y ≠ []) (hn : n = (P ++ X ++ Y ++ Q).length) (a m b : Nat) (ha : a = P.length) (hm : m = P.length + X.length) (hb : b = P.length + X.length + Y.length)
  (q0 : X.length ≠ 1) (q1 : Y.length ≠ 1) (mid : Nat) (hmid : mid = (a + b) / 2) (hc : mid < m) :
  Calls Tryz.prog 77 #[.slice (some ⟨G, 0, none⟩) n n, .int .i64 (a : Int), .int .i64 (m : Int), .int .i64 (b : Int), .func (.func 29) #[kv] #[]] w fun e w' => e = .returned (.tuple #[]) ∧ SR w' B G (P ++ BO.sort (plt ks) (X ++ Y) ++ Q) ∧ w.grownBy w' (some G) := by
 have p0 := List.length_pos_iff.2 h0
 have p1 := List.length_pos_iff.2 h1
 have hLn : P.length + X.length + Y.length + Q.length = n := by rw [hn]; simp only [List.length_append]
 have HRo := hideP (fun (P U V Q : List Pr) (W : World) (h : SR W B G (P ++ U ++ V ++ Q)) => rotate_any kv B G P U V Q W h (by obtain ⟨a, c, h, _⟩ := hk w (grown_same w _); exact ⟨a, _, c, h⟩) n)
 have HCp := hideP (fun (wr : World) (hs : SR wr B G (P ++ X ++ Y ++ Q)) (hg : w.grownBy wr (some G)) (M pc : Nat) (q1 : a ≤ M) (q2 : M < m) (q3 : M < mid) (q4 : mid + m ≤ b + M) (hpc : mid + m - 1 - M = pc) => show ∃ (cm : Int) (xq yq : Sq), (∀ y, (P ++ X ++ Y ++ Q)[mid + m - 1 - M]? = some y → ∀ x, (P ++ X ++ Y ++ Q)[M]? = some x → (cm < 0 ↔ plt ks y x = true)) ∧ (∀ W, Fr wr W → W.cell? ⟨G, pc, none⟩ = some (.slice xq.a xq.n xq.c)) ∧ (∀ W, Fr wr W → W.cell? ⟨G, M, none⟩ = some (.slice yq.a yq.n yq.c)) ∧
   (∀ W, Fr wr W → Calls Tryz.prog 29 #[kv, .slice xq.a xq.n xq.c, .slice yq.a yq.n yq.c] W fun e w' => e = .returned (.int .i64 cm) ∧ Fr W w') by
  have hM : M < (P ++ X ++ Y ++ Q).length := by rw [← hn]; omega
  have hA : pc < (P ++ X ++ Y ++ Q).length := by rw [← hn]; omega
  obtain ⟨cm, xq, yq, c1, c2, c3, c4⟩ := cmp_at kv ks hk hl hf hs hg hA hM
  refine ⟨cm, xq, yq, fun y hy x hx => ?_, c2, c3, c4⟩
  rw [hpc, List.getElem?_eq_getElem hA] at hy
  rw [List.getElem?_eq_getElem hM] at hx
  cases hx
  cases hy
  exact c1)
 have HFin := hideP (fun (S : Nat) (h1 : a ≤ S) (h2 : S ≤ m) (h3 : S ≤ mid) (h4 : mid + m ≤ b + S) c1 c2 => BO.cut_found (plt_weak ks) (P := P) (Q := Q) hX hY ha hm hb hmid h1 h2 h3 h4 c1 c2)
 have HIh := hideP (fun (P' X' Y' Q' : List Pr) (W : World) (hg : w.grownBy W (some G)) (hN' : X'.length + Y'.length ≤ N) (hs : SR W B G (P' ++ X' ++ Y' ++ Q')) (hp : (P' ++ X' ++ Y' ++ Q').Perm (P ++ X ++ Y ++ Q)) => ih P' X' Y' Q' W hN' hs (fun w' g => hk w' (grown_trans hg g)) (fun p hp' => hf p (hp.mem_iff.1 hp')))
 obtain ⟨ka, kn, kc, rfl⟩ : ∃ a n c, kv = .slice a n c := by obtain ⟨a, c, h, _⟩ := hk w (grown_same w _); exact ⟨a, _, c, h⟩
 have HX := hideP hX
 have HY := hideP hY
 have H0 := hideP h
 have HA := hideP ha
 have HM := hideP hm
 have HB := hideP hb
 have HNn := hideP hn
 have HNN := hideP hN
 have HMid := hideP hmid
 obtain ⟨lx, hlx⟩ : ∃ l, X.length = l := ⟨_, rfl⟩
 obtain ⟨ly, hly⟩ : ∃ l, Y.length = l := ⟨_, rfl⟩
 have w1 : IntKind.i64.wrap ((m : Int) - (a : Int)) = (lx : Int) := by rw [IntKind.wrap_i64]; omega
 have w2 : IntKind.i64.wrap ((b : Int) - (m : Int)) = (ly : Int) := by rw [IntKind.wrap_i64]; omega
 have x1 : ((lx : Int) == 1) = false := by simp; omega
 have x2 : ¬ ((lx : Int) = 1) := by omega
 have y1 : ((ly : Int) == 1) = false := by simp; omega
 have y2 : ¬ ((ly : Int) = 1) := by omega
 have e1 : IntKind.u64.wrap ((a : Int) + (b : Int)) = (a : Int) + (b : Int) := by
  simp [IntKind.wrap, IntKind.bits, IntKind.signed]
  omega
 have e2 : ((a : Int) + (b : Int)) / 2 = (mid : Int) := by omega
 have e3 : IntKind.i64.wrap (mid : Int) = (mid : Int) := by
  simp [IntKind.wrap, IntKind.bits, IntKind.signed]
  omega
 obtain ⟨z, hz⟩ : ∃ z, mid + m = z := ⟨_, rfl⟩
 have w3 : IntKind.i64.wrap ((mid : Int) + (m : Int)) = (z : Int) := by rw [IntKind.wrap_i64]; omega
 obtain ⟨p, hp⟩ : ∃ p, z = p + 1 := ⟨z - 1, by omega⟩
 have w4 : IntKind.i64.wrap ((z : Int) - 1) = (p : Int) := by rw [IntKind.wrap_i64]; omega
 have Hz := hideP hz
 have Hp := hideP hp
 have n1 : a ≤ 1000 := by omega
 have n2 : b ≤ 1000 := by omega
 have n3 : m ≤ 1000 := by omega
 have n4 : mid ≤ 1000 := by omega
 have n5 : z ≤ 2000 := by omega
 have HQ := hideP (show b ≤ n ∧ z ≤ 2 * n ∧ a < m ∧ m < b ∧ mid < b ∧ a < mid ∧ n ≤ 1000 by omega)
 have hcs : (mid : Int) < (m : Int) := by omega
 obtain ⟨s0, hs0⟩ : ∃ s0, z - b = s0 := ⟨_, rfl⟩
 have w5 : IntKind.i64.wrap ((z : Int) - (b : Int)) = (s0 : Int) := by rw [IntKind.wrap_i64]; omega
 have HS0 := hideP (show z = s0 + b ∧ a ≤ s0 ∧ s0 ≤ mid ∧ mid < m by omega)
 clear hs0
 clear ih h hk hf hX hY h0 h1 hn ha hm hb hN hLn p0 p1 q0 q1 hmid hlx hly hz hp hc hl hn1
 go_enter Tryz.func77, Tryz.ntmps77
 go_wp2_with fail
 clear w1 w2 w3 w4 x1 x2 y1 y2 e1 e2 e3 n1 n2 n3 n4 n5 hcs w5
 go_loopw [20, 21, 23] (fun sv rv _ wr => ∃ S R : Nat, sv = .int .i64 (S : Int) ∧ rv = .int .i64 (R : Int) ∧ s0 ≤ S ∧ S ≤ R ∧ R ≤ mid ∧ (s0 < S → ∀ y, (P ++ X ++ Y ++ Q)[mid + m - S]? = some y → ∀ x, (P ++ X ++ Y ++ Q)[S - 1]? = some x → plt ks y x = false) ∧ (R < mid → ∀ y, (P ++ X ++ Y ++ Q)[mid + m - 1 - R]? = some y → ∀ x, (P ++ X ++ Y ++ Q)[R]? = some x → plt ks y x = true) ∧ SR wr B G (P ++ X ++ Y ++ Q) ∧ w.grownBy wr (some G)) (fun sv rv _ _ => (intOf rv).toNat - (intOf sv).toNat)
 case atStart => exact ⟨s0, mid, rfl, rfl, Nat.le_refl _, by have := HS0.out; have := HQ.out; omega, Nat.le_refl _, fun h => by omega, fun h => by omega, H0.out, grown_same _ _⟩
 case round =>
  obtain ⟨S, R, rfl, rfl, hS0, hSR, hR0, c1, c2, hs, hg⟩ := hrel
  have HC1 := hideP c1
  have HC2 := hideP c2
  have HSr := hideP hs
  have HGr := hideP hg
  have H3 := hideP (show s0 ≤ S ∧ S ≤ R ∧ R ≤ mid from ⟨hS0, hSR, hR0⟩)
  by_cases hlt : S < R
  case pos =>
   obtain ⟨M, hM⟩ : ∃ M, M = (S + R) / 2 := ⟨_, rfl⟩
   have g0 := HQ.out
   have g1 := HS0.out
   have g2 := Hz.out
   have g3 := Hp.out
   have hmi : S ≤ M ∧ M < R := by omega
   have e1 : IntKind.u64.wrap ((S : Int) + (R : Int)) = (S : Int) + (R : Int) := by
    simp [IntKind.wrap, IntKind.bits, IntKind.signed]
    omega
   have e2 : ((S : Int) + (R : Int)) / 2 = (M : Int) := by omega
   have e3 : IntKind.i64.wrap (M : Int) = (M : Int) := by
    simp [IntKind.wrap, IntKind.bits, IntKind.signed]
    omega
   obtain ⟨pc, hpc⟩ : ∃ pc, mid + m - 1 - M = pc := ⟨_, rfl⟩
   have w6 : IntKind.i64.wrap ((p : Int) - (M : Int)) = (pc : Int) := by rw [IntKind.wrap_i64]; omega
   have b1 : (M : Int) < (n : Int) := by omega
   have b2 : (pc : Int) < (n : Int) := by omega
   obtain ⟨cm, xq, yq, d1, d2, d3, d4⟩ := HCp.out wr hs hg M pc (by omega) (by omega) (by omega) (by omega) hpc
   have HD1 := hideP d1
   have HCm := hideP d4
   have HMm := hideP (show S ≤ M ∧ M < R ∧ s0 ≤ S ∧ R ≤ mid ∧ mid + m - 1 - M = mid + m - (M + 1) by omega)
   have HS := hideP (show wr.cell? ⟨G, pc, none⟩ = some (.slice xq.a xq.n xq.c) ∧ wr.cell? ⟨G, M, none⟩ = some (.slice yq.a yq.n yq.c) from ⟨d2 _ (Fr.refl _), d3 _ (Fr.refl _)⟩)
   have cx := d2 _ (Fr.refl _)
   have cy := d3 _ (Fr.refl _)
   have hz : Fr wr wr.drew := Fr.drew (Fr.refl wr)
   have hlt' : (S : Int) < (R : Int) := by omega
   have n1 : S ≤ 1000 := by omega
   have n2 : R ≤ 1000 := by omega
   have n3 : M ≤ 1000 := by omega
   have n4 : p ≤ 2000 := by omega
   clear c1 c2 hs hg d1 d2 d3 d4 hM g0 g1 g2 g3 hpc hmi hS0 hSR hR0 hlt
   go_wp2_with fail
   clear cx cy
   go_region_held3 (fun W => W.cell? ⟨G, pc, none⟩ = some (.slice xq.a xq.n xq.c) ∧ W.cell? ⟨G, M, none⟩ = some (.slice yq.a yq.n yq.c)) (first | exact HS.out | exact c2_after hz HS.out | exact c2_after hf9 HS.out) (first
    | (go_at_call 29; refine (HCm.out _ hz).mono ?_; rintro _ w3 ⟨rfl, f3⟩; have hf9 := hz.trans f3; clear f3))
   all_goals (
    have HSn := hideP (HSr.out.fr hf9)
    have HGn := hideP (grown_then HGr.out hf9)
    clear hf9 hz HS e1 e2 e3 w6 hlt' n1 n2 n4
    by_cases he : cm < 0
    ·
     have hb : (!decide (cm < 0)) = false := by simp [he]
     rw [hb]
     clear hb
     have HE := hideP he
     clear he
     go_wp2_with fail
     go_roundw
     case rel => exact ⟨S, M, rfl, rfl, HMm.out.2.2.1, HMm.out.1, Nat.le_trans (Nat.le_of_lt HMm.out.2.1) HMm.out.2.2.2.1, HC1.out, fun _ y hy x hx => (HD1.out y hy x hx).1 HE.out, HSn.out, HGn.out⟩
     case measure => have := HMm.out; simp [intOf]; omega
    ·
     have hb : (!decide (cm < 0)) = true := by simp [he]
     rw [hb]
     clear hb
     have HE := hideP he
     clear he
     go_wp2_with fail
     go_roundw
     case rel => exact ⟨M + 1, R, by go_num, rfl, by have := HMm.out; omega, HMm.out.2.1, HMm.out.2.2.2.1, fun _ y hy x hx => by
      have hy' : (P ++ X ++ Y ++ Q)[mid + m - 1 - M]? = some y := by rw [HMm.out.2.2.2.2]; exact hy
      cases hq : plt ks y x with
      | false => rfl
      | true => exact absurd ((HD1.out y hy' x (by simpa using hx)).2 hq) HE.out, HC2.out, HSn.out, HGn.out⟩
     case measure => have := HMm.out; simp [intOf]; omega)
  case neg =>
   obtain rfl : S = R := by omega
   have g0 := HQ.out
   have g1 := HS0.out
   have g2 := Hz.out
   obtain ⟨X1, X2, Y1, Y2, rfl, rfl, hSx, hE, hMd, hSo⟩ := HFin.out S (by omega) (by omega) (by omega) (by omega) (fun h => c1 (by omega)) (fun h => c2 (by omega))
   have hEb : S ≤ mid + m := by omega
   obtain ⟨E, hEe⟩ : ∃ E, mid + m - S = E := ⟨_, rfl⟩
   rw [hEe] at hE
   have hzE : (z : Int) - (S : Int) = (E : Int) := by rw [← hEe, ← g2]; omega
   have w7 : IntKind.i64.wrap ((z : Int) - (S : Int)) = (E : Int) := by rw [hzE, IntKind.wrap_i64]; omega
   clear hzE hEb
   have hlt' : ¬ ((S : Int) < (S : Int)) := by omega
   have n1 : S ≤ 1000 := by omega
   have n2 : z ≤ 2000 := by omega
   have hm2 : m = a + X1.length + X2.length := by have h7 := HM.out; simp only [List.length_append] at h7; have h8 := HA.out; omega
   have hb2 : b = m + Y1.length + Y2.length := by have h7 := HM.out; have h8 := HB.out; simp only [List.length_append] at h7 h8; omega
   have HAll := hideP (show S = a + X1.length ∧ E = m + Y1.length ∧ mid = a + X1.length + Y1.length ∧ m = a + X1.length + X2.length ∧ b = m + Y1.length + Y2.length ∧ X1.length + X2.length + (Y1.length + Y2.length) ≤ N + 1 ∧ a < m ∧ m < b ∧ a < mid ∧ mid < b ∧ a = P.length by have h7 := HNN.out; simp only [List.length_append] at h7; have h8 := HA.out; omega)
   have HSo := hideP hSo
   clear c1 c2 hs hg hSo g0 g1 g2 hEe HC1 HC2 HFin HCp hSx hE hMd hm2 hb2 hlt hS0 hSR hR0 H3
   have hp0 : (X1 ++ Y1 ++ (X2 ++ Y2)).Perm (X1 ++ X2 ++ (Y1 ++ Y2)) := by
    rw [List.append_assoc X1, List.append_assoc X1]
    refine List.Perm.append_left X1 ?_
    rw [← List.append_assoc, ← List.append_assoc]
    exact List.Perm.append_right Y2 List.perm_append_comm
   have HPm1 := hideP (show (P ++ X1 ++ Y1 ++ (X2 ++ Y2 ++ Q)).Perm (P ++ (X1 ++ X2) ++ (Y1 ++ Y2) ++ Q) by
    have := List.Perm.append_left P (List.Perm.append_right Q hp0)
    simpa [List.append_assoc] using this)
   have HPm2 := hideP (show (P ++ BO.sort (plt ks) (X1 ++ Y1) ++ X2 ++ Y2 ++ Q).Perm (P ++ (X1 ++ X2) ++ (Y1 ++ Y2) ++ Q) by
    have h1 := List.Perm.append_left P (List.Perm.append_right (X2 ++ Y2 ++ Q) (BO.sort_perm (lt := plt ks) (X1 ++ Y1)))
    have h2 := HPm1.out
    simp only [List.append_assoc] at h1 h2 ⊢
    exact h1.trans h2)
   have HLen1 := hideP (show n = (P ++ X1 ++ Y1 ++ (X2 ++ Y2 ++ Q)).length by rw [HNn.out]; exact HPm1.out.length_eq.symm)
   have HLen := hideP (show n = (P ++ BO.sort (plt ks) (X1 ++ Y1) ++ X2 ++ Y2 ++ Q).length by rw [HNn.out]; exact HPm2.out.length_eq.symm)
   have HPm3 := hideP (show mid = (P ++ BO.sort (plt ks) (X1 ++ Y1)).length by have := HAll.out; rw [List.length_append, BO.sort_len, List.length_append]; omega)
   have HX1 := hideP (show BO.Sorted (plt ks) X1 from List.Pairwise.sublist (List.sublist_append_left _ _) HX.out)
   have HX2 := hideP (show BO.Sorted (plt ks) X2 from List.Pairwise.sublist (List.sublist_append_right _ _) HX.out)
   have HY1 := hideP (show BO.Sorted (plt ks) Y1 from List.Pairwise.sublist (List.sublist_append_left _ _) HY.out)
   have HY2 := hideP (show BO.Sorted (plt ks) Y2 from List.Pairwise.sublist (List.sublist_append_right _ _) HY.out)
   clear hp0
   by_cases nB : 0 < X2.length
   ·
    by_cases nC : 0 < Y1.length
    ·
     by_cases nA : 0 < X1.length
     ·
      by_cases nD : 0 < Y2.length
      ·
       have r1 : (S : Int) < (m : Int) := by have := HAll.out; omega
       have r2 : (m : Int) < (E : Int) := by have := HAll.out; omega
       have s1 : (a : Int) < (S : Int) := by have := HAll.out; omega
       have s2 : (S : Int) < (mid : Int) := by have := HAll.out; omega
       have t1 : (mid : Int) < (E : Int) := by have := HAll.out; omega
       have t2 : (E : Int) < (b : Int) := by have := HAll.out; omega
       have HNA := hideP nA
       clear nA
       have HNB := hideP nB
       clear nB
       have HNC := hideP nC
       clear nC
       have HND := hideP nD
       clear nD
       have HS3 := hideP (show SR wr B G (P ++ X1 ++ X2 ++ Y1 ++ Y2 ++ Q) by have := HSr.out; simpa [List.append_assoc] using this)
       go_wp2_with fail
       refine (HRo.out (P ++ X1) X2 Y1 (Y2 ++ Q) wr (by have := HS3.out; simpa [List.append_assoc] using this) (by rw [HNn.out]; simp only [List.length_append]; omega) HQ.out.2.2.2.2.2.2 (List.ne_nil_of_length_pos HNB.out) (List.ne_nil_of_length_pos HNC.out) S m E (by have := HAll.out; rw [List.length_append]; omega) (by have := HAll.out; rw [List.length_append]; omega) (by have := HAll.out; rw [List.length_append]; omega)).mono ?_
       rintro _ w3 ⟨rfl, hs3, hg3⟩
       replace HS3 := hideP (show SR w3 B G (P ++ X1 ++ Y1 ++ (X2 ++ Y2 ++ Q)) by simpa [List.append_assoc] using hs3)
       have HG3 := hideP (grown_trans HGr.out hg3)
       clear hs3 hg3
       go_wp2_with fail
       refine (HIh.out P X1 Y1 (X2 ++ Y2 ++ Q) w3 HG3.out (by have := HAll.out; omega) HS3.out HPm1.out HX1.out HY1.out (List.ne_nil_of_length_pos HNA.out) (List.ne_nil_of_length_pos HNC.out) HLen1.out a S mid HA.out (by have := HAll.out; omega) (by have := HAll.out; omega)).mono ?_
       rintro _ w4 ⟨rfl, hs4, hg4⟩
       have HS4 := hideP (show SR w4 B G (P ++ BO.sort (plt ks) (X1 ++ Y1) ++ (X2 ++ Y2 ++ Q)) from hs4)
       have HG4 := hideP (grown_trans HG3.out hg4)
       clear hs4 hg4
       go_wp2_with fail
       refine (HIh.out (P ++ BO.sort (plt ks) (X1 ++ Y1)) X2 Y2 Q w4 HG4.out (by have := HAll.out; omega) (by have := HS4.out; simpa [List.append_assoc] using this) HPm2.out HX2.out HY2.out (List.ne_nil_of_length_pos HNB.out) (List.ne_nil_of_length_pos HND.out) HLen.out mid E b HPm3.out (by have := HAll.out; have := HPm3.out; omega) (by have := HAll.out; have := HPm3.out; omega)).mono ?_
       rintro _ w5 ⟨rfl, hs5, hg5⟩
       have HS5 := hideP (show SR w5 B G (P ++ BO.sort (plt ks) (X1 ++ X2 ++ (Y1 ++ Y2)) ++ Q) by rw [HSo.out]; simpa [List.append_assoc] using hs5)
       have HG5 := hideP (grown_trans HG4.out hg5)
       clear hs5 hg5
       go_wp2_with fail
       go_end0
       exact ⟨by first | rfl | trivial, by simpa [List.append_assoc] using HS5.out, HG5.out⟩
      ·
       have r1 : (S : Int) < (m : Int) := by have := HAll.out; omega
       have r2 : (m : Int) < (E : Int) := by have := HAll.out; omega
       have s1 : (a : Int) < (S : Int) := by have := HAll.out; omega
       have s2 : (S : Int) < (mid : Int) := by have := HAll.out; omega
       have t1 : (mid : Int) < (E : Int) := by have := HAll.out; omega
       have t2 : ¬ ((E : Int) < (b : Int)) := by have := HAll.out; omega
       have HNA := hideP nA
       clear nA
       have HNB := hideP nB
       clear nB
       have HNC := hideP nC
       clear nC
       have HZD := hideP (List.eq_nil_of_length_eq_zero (Nat.eq_zero_of_not_pos nD))
       clear nD
       have HS3 := hideP (show SR wr B G (P ++ X1 ++ X2 ++ Y1 ++ Y2 ++ Q) by have := HSr.out; simpa [List.append_assoc] using this)
       go_wp2_with fail
       refine (HRo.out (P ++ X1) X2 Y1 (Y2 ++ Q) wr (by have := HS3.out; simpa [List.append_assoc] using this) (by rw [HNn.out]; simp only [List.length_append]; omega) HQ.out.2.2.2.2.2.2 (List.ne_nil_of_length_pos HNB.out) (List.ne_nil_of_length_pos HNC.out) S m E (by have := HAll.out; rw [List.length_append]; omega) (by have := HAll.out; rw [List.length_append]; omega) (by have := HAll.out; rw [List.length_append]; omega)).mono ?_
       rintro _ w3 ⟨rfl, hs3, hg3⟩
       replace HS3 := hideP (show SR w3 B G (P ++ X1 ++ Y1 ++ (X2 ++ Y2 ++ Q)) by simpa [List.append_assoc] using hs3)
       have HG3 := hideP (grown_trans HGr.out hg3)
       clear hs3 hg3
       go_wp2_with fail
       refine (HIh.out P X1 Y1 (X2 ++ Y2 ++ Q) w3 HG3.out (by have := HAll.out; omega) HS3.out HPm1.out HX1.out HY1.out (List.ne_nil_of_length_pos HNA.out) (List.ne_nil_of_length_pos HNC.out) HLen1.out a S mid HA.out (by have := HAll.out; omega) (by have := HAll.out; omega)).mono ?_
       rintro _ w4 ⟨rfl, hs4, hg4⟩
       have HS4 := hideP (show SR w4 B G (P ++ BO.sort (plt ks) (X1 ++ Y1) ++ (X2 ++ Y2 ++ Q)) from hs4)
       have HG4 := hideP (grown_trans HG3.out hg4)
       clear hs4 hg4
       have HS5 := hideP (show SR w4 B G (P ++ BO.sort (plt ks) (X1 ++ X2 ++ (Y1 ++ Y2)) ++ Q) by
        rw [HSo.out, sort_side (plt_weak ks) HX2.out HY2.out (.inr HZD.out)]
        have := HS4.out
        simpa [List.append_assoc] using this)
       have HG5 := hideP HG4.out
       go_wp2_with fail
       go_end0
       exact ⟨by first | rfl | trivial, by simpa [List.append_assoc] using HS5.out, HG5.out⟩
     ·
      by_cases nD : 0 < Y2.length
      ·
       have r1 : (S : Int) < (m : Int) := by have := HAll.out; omega
       have r2 : (m : Int) < (E : Int) := by have := HAll.out; omega
       have s1 : ¬ ((a : Int) < (S : Int)) := by have := HAll.out; omega
       have t1 : (mid : Int) < (E : Int) := by have := HAll.out; omega
       have t2 : (E : Int) < (b : Int) := by have := HAll.out; omega
       have HZA := hideP (List.eq_nil_of_length_eq_zero (Nat.eq_zero_of_not_pos nA))
       clear nA
       have HNB := hideP nB
       clear nB
       have HNC := hideP nC
       clear nC
       have HND := hideP nD
       clear nD
       have HS3 := hideP (show SR wr B G (P ++ X1 ++ X2 ++ Y1 ++ Y2 ++ Q) by have := HSr.out; simpa [List.append_assoc] using this)
       go_wp2_with fail
       refine (HRo.out (P ++ X1) X2 Y1 (Y2 ++ Q) wr (by have := HS3.out; simpa [List.append_assoc] using this) (by rw [HNn.out]; simp only [List.length_append]; omega) HQ.out.2.2.2.2.2.2 (List.ne_nil_of_length_pos HNB.out) (List.ne_nil_of_length_pos HNC.out) S m E (by have := HAll.out; rw [List.length_append]; omega) (by have := HAll.out; rw [List.length_append]; omega) (by have := HAll.out; rw [List.length_append]; omega)).mono ?_
       rintro _ w3 ⟨rfl, hs3, hg3⟩
       replace HS3 := hideP (show SR w3 B G (P ++ X1 ++ Y1 ++ (X2 ++ Y2 ++ Q)) by simpa [List.append_assoc] using hs3)
       have HG3 := hideP (grown_trans HGr.out hg3)
       clear hs3 hg3
       have HS4 := hideP (show SR w3 B G (P ++ BO.sort (plt ks) (X1 ++ Y1) ++ (X2 ++ Y2 ++ Q)) by
        rw [sort_side (plt_weak ks) HX1.out HY1.out (.inl HZA.out)]
        have := HS3.out
        simpa [List.append_assoc] using this)
       go_wp2_with fail
       refine (HIh.out (P ++ BO.sort (plt ks) (X1 ++ Y1)) X2 Y2 Q w3 HG3.out (by have := HAll.out; omega) (by have := HS4.out; simpa [List.append_assoc] using this) HPm2.out HX2.out HY2.out (List.ne_nil_of_length_pos HNB.out) (List.ne_nil_of_length_pos HND.out) HLen.out mid E b HPm3.out (by have := HAll.out; have := HPm3.out; omega) (by have := HAll.out; have := HPm3.out; omega)).mono ?_
       rintro _ w5 ⟨rfl, hs5, hg5⟩
       have HS5 := hideP (show SR w5 B G (P ++ BO.sort (plt ks) (X1 ++ X2 ++ (Y1 ++ Y2)) ++ Q) by rw [HSo.out]; simpa [List.append_assoc] using hs5)
       have HG5 := hideP (grown_trans HG3.out hg5)
       clear hs5 hg5
       go_wp2_with fail
       go_end0
       exact ⟨by first | rfl | trivial, by simpa [List.append_assoc] using HS5.out, HG5.out⟩
      ·
       have r1 : (S : Int) < (m : Int) := by have := HAll.out; omega
       have r2 : (m : Int) < (E : Int) := by have := HAll.out; omega
       have s1 : ¬ ((a : Int) < (S : Int)) := by have := HAll.out; omega
       have t1 : (mid : Int) < (E : Int) := by have := HAll.out; omega
       have t2 : ¬ ((E : Int) < (b : Int)) := by have := HAll.out; omega
       have HZA := hideP (List.eq_nil_of_length_eq_zero (Nat.eq_zero_of_not_pos nA))
       clear nA
       have HNB := hideP nB
       clear nB
       have HNC := hideP nC
       clear nC
       have HZD := hideP (List.eq_nil_of_length_eq_zero (Nat.eq_zero_of_not_pos nD))
       clear nD
       have HS3 := hideP (show SR wr B G (P ++ X1 ++ X2 ++ Y1 ++ Y2 ++ Q) by have := HSr.out; simpa [List.append_assoc] using this)
       go_wp2_with fail
       refine (HRo.out (P ++ X1) X2 Y1 (Y2 ++ Q) wr (by have := HS3.out; simpa [List.append_assoc] using this) (by rw [HNn.out]; simp only [List.length_append]; omega) HQ.out.2.2.2.2.2.2 (List.ne_nil_of_length_pos HNB.out) (List.ne_nil_of_length_pos HNC.out) S m E (by have := HAll.out; rw [List.length_append]; omega) (by have := HAll.out; rw [List.length_append]; omega) (by have := HAll.out; rw [List.length_append]; omega)).mono ?_
       rintro _ w3 ⟨rfl, hs3, hg3⟩
       replace HS3 := hideP (show SR w3 B G (P ++ X1 ++ Y1 ++ (X2 ++ Y2 ++ Q)) by simpa [List.append_assoc] using hs3)
       have HG3 := hideP (grown_trans HGr.out hg3)
       clear hs3 hg3
       have HS4 := hideP (show SR w3 B G (P ++ BO.sort (plt ks) (X1 ++ Y1) ++ (X2 ++ Y2 ++ Q)) by
        rw [sort_side (plt_weak ks) HX1.out HY1.out (.inl HZA.out)]
        have := HS3.out
        simpa [List.append_assoc] using this)
       have HS5 := hideP (show SR w3 B G (P ++ BO.sort (plt ks) (X1 ++ X2 ++ (Y1 ++ Y2)) ++ Q) by
        rw [HSo.out, sort_side (plt_weak ks) HX2.out HY2.out (.inr HZD.out)]
        have := HS4.out
        simpa [List.append_assoc] using this)
       have HG5 := hideP HG3.out
       go_wp2_with fail
       go_end0
       exact ⟨by first | rfl | trivial, by simpa [List.append_assoc] using HS5.out, HG5.out⟩
    ·
     by_cases nA : 0 < X1.length
     ·
      by_cases nD : 0 < Y2.length
      ·
       have r1 : (S : Int) < (m : Int) := by have := HAll.out; omega
       have r2 : ¬ ((m : Int) < (E : Int)) := by have := HAll.out; omega
       have s1 : (a : Int) < (S : Int) := by have := HAll.out; omega
       have s2 : ¬ ((S : Int) < (mid : Int)) := by have := HAll.out; omega
       have t1 : (mid : Int) < (E : Int) := by have := HAll.out; omega
       have t2 : (E : Int) < (b : Int) := by have := HAll.out; omega
       have HNA := hideP nA
       clear nA
       have HNB := hideP nB
       clear nB
       have HZC := hideP (List.eq_nil_of_length_eq_zero (Nat.eq_zero_of_not_pos nC))
       clear nC
       have HND := hideP nD
       clear nD
       have HS3 := hideP (show SR wr B G (P ++ X1 ++ X2 ++ Y1 ++ Y2 ++ Q) by have := HSr.out; simpa [List.append_assoc] using this)
       replace HS3 := hideP (show SR wr B G (P ++ X1 ++ Y1 ++ (X2 ++ Y2 ++ Q)) by have := HS3.out; rw [HZC.out] at this ⊢; simpa [List.append_assoc] using this)
       have HS4 := hideP (show SR wr B G (P ++ BO.sort (plt ks) (X1 ++ Y1) ++ (X2 ++ Y2 ++ Q)) by
        rw [sort_side (plt_weak ks) HX1.out HY1.out (.inr HZC.out)]
        have := HS3.out
        simpa [List.append_assoc] using this)
       go_wp2_with fail
       refine (HIh.out (P ++ BO.sort (plt ks) (X1 ++ Y1)) X2 Y2 Q wr HGr.out (by have := HAll.out; omega) (by have := HS4.out; simpa [List.append_assoc] using this) HPm2.out HX2.out HY2.out (List.ne_nil_of_length_pos HNB.out) (List.ne_nil_of_length_pos HND.out) HLen.out mid E b HPm3.out (by have := HAll.out; have := HPm3.out; omega) (by have := HAll.out; have := HPm3.out; omega)).mono ?_
       rintro _ w5 ⟨rfl, hs5, hg5⟩
       have HS5 := hideP (show SR w5 B G (P ++ BO.sort (plt ks) (X1 ++ X2 ++ (Y1 ++ Y2)) ++ Q) by rw [HSo.out]; simpa [List.append_assoc] using hs5)
       have HG5 := hideP (grown_trans HGr.out hg5)
       clear hs5 hg5
       go_wp2_with fail
       go_end0
       exact ⟨by first | rfl | trivial, by simpa [List.append_assoc] using HS5.out, HG5.out⟩
      ·
       have r1 : (S : Int) < (m : Int) := by have := HAll.out; omega
       have r2 : ¬ ((m : Int) < (E : Int)) := by have := HAll.out; omega
       have s1 : (a : Int) < (S : Int) := by have := HAll.out; omega
       have s2 : ¬ ((S : Int) < (mid : Int)) := by have := HAll.out; omega
       have t1 : (mid : Int) < (E : Int) := by have := HAll.out; omega
       have t2 : ¬ ((E : Int) < (b : Int)) := by have := HAll.out; omega
       have HNA := hideP nA
       clear nA
       have HNB := hideP nB
       clear nB
       have HZC := hideP (List.eq_nil_of_length_eq_zero (Nat.eq_zero_of_not_pos nC))
       clear nC
       have HZD := hideP (List.eq_nil_of_length_eq_zero (Nat.eq_zero_of_not_pos nD))
       clear nD
       have HS3 := hideP (show SR wr B G (P ++ X1 ++ X2 ++ Y1 ++ Y2 ++ Q) by have := HSr.out; simpa [List.append_assoc] using this)
       replace HS3 := hideP (show SR wr B G (P ++ X1 ++ Y1 ++ (X2 ++ Y2 ++ Q)) by have := HS3.out; rw [HZC.out] at this ⊢; simpa [List.append_assoc] using this)
       have HS4 := hideP (show SR wr B G (P ++ BO.sort (plt ks) (X1 ++ Y1) ++ (X2 ++ Y2 ++ Q)) by
        rw [sort_side (plt_weak ks) HX1.out HY1.out (.inr HZC.out)]
        have := HS3.out
        simpa [List.append_assoc] using this)
       have HS5 := hideP (show SR wr B G (P ++ BO.sort (plt ks) (X1 ++ X2 ++ (Y1 ++ Y2)) ++ Q) by
        rw [HSo.out, sort_side (plt_weak ks) HX2.out HY2.out (.inr HZD.out)]
        have := HS4.out
        simpa [List.append_assoc] using this)
       have HG5 := hideP HGr.out
       go_wp2_with fail
       go_end0
       exact ⟨by first | rfl | trivial, by simpa [List.append_assoc] using HS5.out, HG5.out⟩
     ·
      by_cases nD : 0 < Y2.length
      ·
       have r1 : (S : Int) < (m : Int) := by have := HAll.out; omega
       have r2 : ¬ ((m : Int) < (E : Int)) := by have := HAll.out; omega
       have s1 : ¬ ((a : Int) < (S : Int)) := by have := HAll.out; omega
       have t1 : (mid : Int) < (E : Int) := by have := HAll.out; omega
       have t2 : (E : Int) < (b : Int) := by have := HAll.out; omega
       have HZA := hideP (List.eq_nil_of_length_eq_zero (Nat.eq_zero_of_not_pos nA))
       clear nA
       have HNB := hideP nB
       clear nB
       have HZC := hideP (List.eq_nil_of_length_eq_zero (Nat.eq_zero_of_not_pos nC))
       clear nC
       have HND := hideP nD
       clear nD
       have HS3 := hideP (show SR wr B G (P ++ X1 ++ X2 ++ Y1 ++ Y2 ++ Q) by have := HSr.out; simpa [List.append_assoc] using this)
       replace HS3 := hideP (show SR wr B G (P ++ X1 ++ Y1 ++ (X2 ++ Y2 ++ Q)) by have := HS3.out; rw [HZC.out] at this ⊢; simpa [List.append_assoc] using this)
       have HS4 := hideP (show SR wr B G (P ++ BO.sort (plt ks) (X1 ++ Y1) ++ (X2 ++ Y2 ++ Q)) by
        rw [sort_side (plt_weak ks) HX1.out HY1.out (.inl HZA.out)]
        have := HS3.out
        simpa [List.append_assoc] using this)
       go_wp2_with fail
       refine (HIh.out (P ++ BO.sort (plt ks) (X1 ++ Y1)) X2 Y2 Q wr HGr.out (by have := HAll.out; omega) (by have := HS4.out; simpa [List.append_assoc] using this) HPm2.out HX2.out HY2.out (List.ne_nil_of_length_pos HNB.out) (List.ne_nil_of_length_pos HND.out) HLen.out mid E b HPm3.out (by have := HAll.out; have := HPm3.out; omega) (by have := HAll.out; have := HPm3.out; omega)).mono ?_
       rintro _ w5 ⟨rfl, hs5, hg5⟩
       have HS5 := hideP (show SR w5 B G (P ++ BO.sort (plt ks) (X1 ++ X2 ++ (Y1 ++ Y2)) ++ Q) by rw [HSo.out]; simpa [List.append_assoc] using hs5)
       have HG5 := hideP (grown_trans HGr.out hg5)
       clear hs5 hg5
       go_wp2_with fail
       go_end0
       exact ⟨by first | rfl | trivial, by simpa [List.append_assoc] using HS5.out, HG5.out⟩
      ·
       have r1 : (S : Int) < (m : Int) := by have := HAll.out; omega
       have r2 : ¬ ((m : Int) < (E : Int)) := by have := HAll.out; omega
       have s1 : ¬ ((a : Int) < (S : Int)) := by have := HAll.out; omega
       have t1 : (mid : Int) < (E : Int) := by have := HAll.out; omega
       have t2 : ¬ ((E : Int) < (b : Int)) := by have := HAll.out; omega
       have HZA := hideP (List.eq_nil_of_length_eq_zero (Nat.eq_zero_of_not_pos nA))
       clear nA
       have HNB := hideP nB
       clear nB
       have HZC := hideP (List.eq_nil_of_length_eq_zero (Nat.eq_zero_of_not_pos nC))
       clear nC
       have HZD := hideP (List.eq_nil_of_length_eq_zero (Nat.eq_zero_of_not_pos nD))
       clear nD
       have HS3 := hideP (show SR wr B G (P ++ X1 ++ X2 ++ Y1 ++ Y2 ++ Q) by have := HSr.out; simpa [List.append_assoc] using this)
       replace HS3 := hideP (show SR wr B G (P ++ X1 ++ Y1 ++ (X2 ++ Y2 ++ Q)) by have := HS3.out; rw [HZC.out] at this ⊢; simpa [List.append_assoc] using this)
       have HS4 := hideP (show SR wr B G (P ++ BO.sort (plt ks) (X1 ++ Y1) ++ (X2 ++ Y2 ++ Q)) by
        rw [sort_side (plt_weak ks) HX1.out HY1.out (.inl HZA.out)]
        have := HS3.out
        simpa [List.append_assoc] using this)
       have HS5 := hideP (show SR wr B G (P ++ BO.sort (plt ks) (X1 ++ X2 ++ (Y1 ++ Y2)) ++ Q) by
        rw [HSo.out, sort_side (plt_weak ks) HX2.out HY2.out (.inr HZD.out)]
        have := HS4.out
        simpa [List.append_assoc] using this)
       have HG5 := hideP HGr.out
       go_wp2_with fail
       go_end0
       exact ⟨by first | rfl | trivial, by simpa [List.append_assoc] using HS5.out, HG5.out⟩
   ·
    by_cases nA : 0 < X1.length
    ·
     by_cases nC : 0 < Y1.length
     ·
      have r1 : ¬ ((S : Int) < (m : Int)) := by have := HAll.out; omega
      have s1 : (a : Int) < (S : Int) := by have := HAll.out; omega
      have s2 : (S : Int) < (mid : Int) := by have := HAll.out; omega
      have t1 : ¬ ((mid : Int) < (E : Int)) := by have := HAll.out; omega
      have HNA := hideP nA
      clear nA
      have HZB := hideP (List.eq_nil_of_length_eq_zero (Nat.eq_zero_of_not_pos nB))
      clear nB
      have HNC := hideP nC
      clear nC
      have HS3 := hideP (show SR wr B G (P ++ X1 ++ X2 ++ Y1 ++ Y2 ++ Q) by have := HSr.out; simpa [List.append_assoc] using this)
      replace HS3 := hideP (show SR wr B G (P ++ X1 ++ Y1 ++ (X2 ++ Y2 ++ Q)) by have := HS3.out; rw [HZB.out] at this ⊢; simpa [List.append_assoc] using this)
      go_wp2_with fail
      refine (HIh.out P X1 Y1 (X2 ++ Y2 ++ Q) wr HGr.out (by have := HAll.out; omega) HS3.out HPm1.out HX1.out HY1.out (List.ne_nil_of_length_pos HNA.out) (List.ne_nil_of_length_pos HNC.out) HLen1.out a S mid HA.out (by have := HAll.out; omega) (by have := HAll.out; omega)).mono ?_
      rintro _ w4 ⟨rfl, hs4, hg4⟩
      have HS4 := hideP (show SR w4 B G (P ++ BO.sort (plt ks) (X1 ++ Y1) ++ (X2 ++ Y2 ++ Q)) from hs4)
      have HG4 := hideP (grown_trans HGr.out hg4)
      clear hs4 hg4
      have HS5 := hideP (show SR w4 B G (P ++ BO.sort (plt ks) (X1 ++ X2 ++ (Y1 ++ Y2)) ++ Q) by
       rw [HSo.out, sort_side (plt_weak ks) HX2.out HY2.out (.inl HZB.out)]
       have := HS4.out
       simpa [List.append_assoc] using this)
      have HG5 := hideP HG4.out
      go_wp2_with fail
      go_end0
      exact ⟨by first | rfl | trivial, by simpa [List.append_assoc] using HS5.out, HG5.out⟩
     ·
      have r1 : ¬ ((S : Int) < (m : Int)) := by have := HAll.out; omega
      have s1 : (a : Int) < (S : Int) := by have := HAll.out; omega
      have s2 : ¬ ((S : Int) < (mid : Int)) := by have := HAll.out; omega
      have t1 : ¬ ((mid : Int) < (E : Int)) := by have := HAll.out; omega
      have HNA := hideP nA
      clear nA
      have HZB := hideP (List.eq_nil_of_length_eq_zero (Nat.eq_zero_of_not_pos nB))
      clear nB
      have HZC := hideP (List.eq_nil_of_length_eq_zero (Nat.eq_zero_of_not_pos nC))
      clear nC
      have HS3 := hideP (show SR wr B G (P ++ X1 ++ X2 ++ Y1 ++ Y2 ++ Q) by have := HSr.out; simpa [List.append_assoc] using this)
      replace HS3 := hideP (show SR wr B G (P ++ X1 ++ Y1 ++ (X2 ++ Y2 ++ Q)) by have := HS3.out; rw [HZC.out] at this ⊢; simpa [List.append_assoc] using this)
      have HS4 := hideP (show SR wr B G (P ++ BO.sort (plt ks) (X1 ++ Y1) ++ (X2 ++ Y2 ++ Q)) by
       rw [sort_side (plt_weak ks) HX1.out HY1.out (.inr HZC.out)]
       have := HS3.out
       simpa [List.append_assoc] using this)
      have HS5 := hideP (show SR wr B G (P ++ BO.sort (plt ks) (X1 ++ X2 ++ (Y1 ++ Y2)) ++ Q) by
       rw [HSo.out, sort_side (plt_weak ks) HX2.out HY2.out (.inl HZB.out)]
       have := HS4.out
       simpa [List.append_assoc] using this)
      have HG5 := hideP HGr.out
      go_wp2_with fail
      go_end0
      exact ⟨by first | rfl | trivial, by simpa [List.append_assoc] using HS5.out, HG5.out⟩
    ·
     have r1 : ¬ ((S : Int) < (m : Int)) := by have := HAll.out; omega
     have s1 : ¬ ((a : Int) < (S : Int)) := by have := HAll.out; omega
     have t1 : ¬ ((mid : Int) < (E : Int)) := by have := HAll.out; omega
     have HZA := hideP (List.eq_nil_of_length_eq_zero (Nat.eq_zero_of_not_pos nA))
     clear nA
     have HZB := hideP (List.eq_nil_of_length_eq_zero (Nat.eq_zero_of_not_pos nB))
     clear nB
     have HS3 := hideP (show SR wr B G (P ++ X1 ++ X2 ++ Y1 ++ Y2 ++ Q) by have := HSr.out; simpa [List.append_assoc] using this)
     replace HS3 := hideP (show SR wr B G (P ++ X1 ++ Y1 ++ (X2 ++ Y2 ++ Q)) by have := HS3.out; rw [HZB.out] at this ⊢; simpa [List.append_assoc] using this)
     have HS4 := hideP (show SR wr B G (P ++ BO.sort (plt ks) (X1 ++ Y1) ++ (X2 ++ Y2 ++ Q)) by
      rw [sort_side (plt_weak ks) HX1.out HY1.out (.inl HZA.out)]
      have := HS3.out
      simpa [List.append_assoc] using this)
     have HS5 := hideP (show SR wr B G (P ++ BO.sort (plt ks) (X1 ++ X2 ++ (Y1 ++ Y2)) ++ Q) by
      rw [HSo.out, sort_side (plt_weak ks) HX2.out HY2.out (.inl HZB.out)]
      have := HS4.out
      simpa [List.append_assoc] using this)
     have HG5 := hideP HGr.out
     go_wp2_with fail
     go_end0
     exact ⟨by first | rfl | trivial, by simpa [List.append_assoc] using HS5.out, HG5.out⟩
end Go.Proofs.YtbcfdhimngoplaaGreatDoor
