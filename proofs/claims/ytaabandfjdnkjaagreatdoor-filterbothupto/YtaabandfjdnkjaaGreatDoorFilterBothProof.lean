/-
  Proved: up to a size, for every list of rows, all names and two expressions, FilterBoth answers true: who is kept by both of two is kept by one, then by the other one. No condition but the form's own reach.
-/
import Derived.Test.YtaabandfjdnkjaaGreatDoorGqG
import Derived.Test.YtaabandfjdnkjaaGreatDoorGqF
import Derived.Test.YtaabandfjdnkjaaGreatDoorBjB
import Derived.Test.YtaabandfjdnkjaaGreatDoorWtB
import Derived.Test.YtaabandfjdnkjaaGreatDoorGqI
namespace Go.Proofs.YtaabandfjdnkjaaGreatDoor.filterBothProof
open Go.ChangeShapes Go.WideShapes Go.ChangeAt Go.RowKit
open Go.ChangeMaps (open_string shut_string)
set_option linter.unusedVariables false
set_option linter.unusedSimpArgs false
set_option maxRecDepth 100000
set_option maxHeartbeats 2000000
set_option maxHeartbeats 4000000
theorem infoN6 : (Tryz.prog.info? 28).map (fun i => (i.zero, i.size, i.bytes)) = some (some (.agg #[.int .i64 0, .int .i64 0, .int .i64 0, .int .i64 0, .string ⟨#[]⟩, .string ⟨#[]⟩]), 6, 64) := by kernel_rfl
theorem okN_op (op kids : Int) : EV.okN (EV.opN op kids) := ⟨Nat.zero_le _, EV.gd_nul⟩
theorem ok_snoc {l : List EX.Nd} (h : ∀ n ∈ l, EV.okN n) (op kids : Int) : ∀ n ∈ l ++ [EV.opN op kids], EV.okN n := fun n hn => by
 rcases List.mem_append.1 hn with h1 | h1
 · exact h n h1
 ·
  obtain rfl : n = EV.opN op kids := by simpa using h1
  exact okN_op _ _
theorem walk (v0 : Value) (l0 : List (List VM.Vl)) (v1 : Value) (l1 : List ByteArray) (v2 : Value) (l2 : List EX.Nd) (v3 : Value) (l3 : List EX.Nd) (w : World) (hTt : Tt w) (rw0 : IsRR w v0 l0) (ok0 : ∀ y ∈ l0, y.length * 32 ≤ 140737488351232 ∧ ∀ z ∈ y, EV.gd z ∧ z.s.size ≤ 140737488351232) (b0 : l0.length * 24 ≤ 140737488351232) (rw1 : IsL cdB w v1 l1) (ok1 : ∀ y ∈ l1, y.size ≤ 140737488351232) (b1 : l1.length * 16 ≤ 140737488351232) (rw2 : IsL cdN w v2 l2) (ok2 : ∀ y ∈ l2, EV.okN y ∧ (-9223372036854775808 ≤ y.op ∧ y.op ≤ 9223372036854775807) ∧ (-9223372036854775808 ≤ y.kids ∧ y.kids ≤ 9223372036854775807)) (b2 : l2.length * 64 ≤ 140737488351232) (rw3 : IsL cdN w v3 l3) (ok3 : ∀ y ∈ l3, EV.okN y ∧ (-9223372036854775808 ≤ y.op ∧ y.op ≤ 9223372036854775807) ∧ (-9223372036854775808 ≤ y.kids ∧ y.kids ≤ 9223372036854775807)) (b3 : l3.length * 64 ≤ 140737488351232) (hsz : (l2.length + l3.length) * 64 ≤ 140737488351232) :
  Calls Tryz.prog 3 #[v0, v1, v2, v3] w fun e w' => e = .returned (.bool true) ∧ Fr w w' := by
 have HBg := hideP (fun (W : World) (f : Fr w W) => bagBegun_any W (hTt.tn.fr f) (hTt.tb.fr f))
 obtain ⟨i0, hi0, hz0, hz1, hz2⟩ := info_parts infoN6
 have HR := hideP rw0
 have HE := hideP rw2
 have HD := hideP rw3
 have HOk := hideP (show ∀ n ∈ l2, EV.okN n from fun n hn => (ok2 n hn).1)
 have HOk3 := hideP (show ∀ n ∈ l3, EV.okN n from fun n hn => (ok3 n hn).1)
 have HRn := hideP (fun r (hr : r ∈ l0) => show r.length ≤ 9223372036854775806 by have := (ok0 r hr).1; omega)
 have HF := hideP (fun (W : World) (v va : Value) (ls : List (List VM.Vl)) (es : List EX.Nd) (f : Fr w W) (h : IsRR W v ls) (he : IsL cdN W va es) (hs : ∀ r ∈ ls, r ∈ l0) (hn : ls.length ≤ l0.length) (hes : ∀ n ∈ es, EV.okN n) (hel : es.length ≤ 9223372036854775806) => filter_any v _ va ls l1 es W h (rw1.fr f) he (fun n hn => (hes n hn).1) hel (fun c hc => by have := ok1 c hc; omega) (hTt.tn.fr f) (hTt.tb.fr f) (fun n hn => (hes n hn).2) (fun r hr x hx => ((ok0 r (hs r hr)).2 x hx).1) (by omega) (fun r hr => by have := (ok0 r (hs r hr)).1; omega))
 have hb2 : l2.length * 64 ≤ 140737488351232 := b2
 have hb3 : l3.length * 64 ≤ 140737488351232 := b3
 have HX2 := hideP (fun (W : World) (f : Fr w W) => rexprCheck_any v2 l2 W (rw2.fr f) (fun n hn => (ok2 n hn).1.1) (by omega))
 have HX3 := hideP (fun (W : World) (f : Fr w W) => rexprCheck_any v3 l3 W (rw3.fr f) (fun n hn => (ok3 n hn).1.1) (by omega))
 obtain ⟨A0, c0, rfl⟩ := rw0.slice
 obtain ⟨A1, c1, rfl, _⟩ := rw1
 obtain ⟨A2, c2, rfl, _⟩ := rw2
 obtain ⟨A3, c3, rfl, _⟩ := rw3
 clear rw0 ok0 b0 ok1 b1 ok2 b2 ok3 b3
 obtain ⟨M, hM⟩ : ∃ M, l2 ++ l3 = M := ⟨_, rfl⟩
 obtain ⟨N, hN⟩ : ∃ N, M ++ [EV.opN 16 2] = N := ⟨_, rfl⟩
 have HM := hideP hM
 have HN := hideP hN
 have HMl := hideP (show M.length = l2.length + l3.length by rw [← hM, List.length_append])
 have HNl := hideP (show N.length = l2.length + l3.length + 1 by rw [← hN, List.length_append, HMl.out]; rfl)
 have HNok := hideP (show ∀ n ∈ N, EV.okN n from hN ▸ ok_snoc (hM ▸ fun n hn => (List.mem_append.1 hn).elim (HOk.out n) (HOk3.out n)) 16 2)
 clear hM hN
 have HMs := hideP (show M.length * 64 ≤ 140737488351232 by rw [HMl.out]; exact hsz)
 clear hsz
 cases hx : BG.fil l0 l1 N with
 | error c =>
  have p0 := BG.fil_ne hx
  have p1 : ((c : Int) != 0) = true := by simp; omega
  have p2 : ((c : Int) == 0) = false := by simp; omega
  have HX := hideP hx
  clear hx
  have HB1 := hideP (Blk.new w #[] 28)
  have G1 := hideP ((Fr.refl w).alloc (.cells #[] 28))
  go_enter Tryz.func3, Tryz.ntmps3
  go_wp2_with (at_builtin; refine wpList_append_L cdN rfl _ _ 24 28 i0 _ 64 rfl Tryz.underlying24 hi0 hz0 hz1 hz2 rfl w.heap.size _ 0 [] rfl (own_blk0 HB1.out (Nat.le_refl _)) _ l2 rfl (HE.out.fr G1.out) ?c3 ?c4 ?c5 ?_)
  case c3 => unfold maxLen; omega
  case c4 => omega
  case c5 => exact G1.out.size
  intro v1 w1 own1 gr1
  have G11 := hideP (show Fr w w1 from Below.grown G1.out gr1 G1.out.size (own_base (own_blk0 (B := w.heap.size) (k := 6) HB1.out (Nat.le_refl _))))
  have HO1 := hideP (show w1.ownsRow w.heap.size 28 6 v1 l2.length (flat cdN l2) from own1)
  clear own1 gr1
  go_wp2_with (at_builtin; refine wpList_append_L cdN rfl _ _ 24 28 i0 _ 64 rfl Tryz.underlying24 hi0 hz0 hz1 hz2 rfl w.heap.size _ l2.length _ rfl HO1.out _ l3 rfl (HD.out.fr G11.out) ?c3 ?c4 ?c5 ?_)
  case c3 => unfold maxLen; omega
  case c4 => have := HMs.out; have := HMl.out; omega
  case c5 => exact G11.out.size
  intro v2 w2 own2 gr2
  have G12 := hideP (show Fr w w2 from Below.grown G11.out gr2 G11.out.size (own_base HO1.out))
  have o2 : w2.ownsRow w.heap.size 28 6 v2 M.length (flat cdN M) := by rw [← HM.out, List.length_append]; exact own2
  have HO2 := hideP o2
  clear own2 gr2 o2 HO1
  go_wp2_with fail
  refine (nOp_any 16 2 _).mono ?_
  rintro _ w3 ⟨rfl, f3⟩
  have HL := hideP (show IsL cdN (w3.alloc (.cells #[.int .i64 16, .int .i64 2, .int .i64 0, .int .i64 0, .string ⟨#[]⟩, .string ⟨#[]⟩] 28)) (.slice (some ⟨w3.heap.size, 0, none⟩) 1 1) [EV.opN 16 2] from lit_many cdN w3 [EV.opN 16 2] 28)
  have g3 := f3.alloc (.cells #[.int .i64 16, .int .i64 2, .int .i64 0, .int .i64 0, .string ⟨#[]⟩, .string ⟨#[]⟩] 28)
  have HP := hideP (own_fr HO2.out g3)
  have G13 := hideP (G12.out.trans g3)
  clear f3 g3 HO2
  go_wp2_with (at_builtin; refine wpList_append_L cdN rfl _ _ 24 28 i0 _ 64 rfl Tryz.underlying24 hi0 hz0 hz1 hz2 rfl w.heap.size _ M.length _ rfl HP.out (.slice (some ⟨w3.heap.size, 0, none⟩) 1 1) [EV.opN 16 2] rfl HL.out ?c3 ?c4 ?c5 ?_)
  case c3 => unfold maxLen; rw [show [EV.opN 16 2].length = 1 from rfl]; have := HMl.out; omega
  case c4 => rw [show [EV.opN 16 2].length = 1 from rfl]; have := HMs.out; omega
  case c5 => exact G13.out.size
  intro v4 w4 own4 gr4
  have F4 := hideP (show Fr w w4 from Below.grown G13.out gr4 G13.out.size (own_base HP.out))
  have o4 : w4.ownsRow w.heap.size 28 6 v4 N.length (flat cdN N) := by rw [← HN.out, List.length_append]; exact own4
  clear own4
  obtain ⟨na, nc, rfl⟩ := own_slice o4
  have Hn := hideP (show IsL cdN w4 (.slice na N.length nc) N from isL_own (E := cdN) o4)
  clear o4 gr4 HP HL HB1 G1 G11 G12 G13
  go_wp2_with fail
  have k5 := HF.out w4 _ _ l0 N F4.out (HR.out.fr F4.out) Hn.out (fun r h => h) (Nat.le_refl _) HNok.out (by have := HNl.out; omega)
  rw [HX.out] at k5
  refine k5.mono ?_
  clear k5
  rintro _ w5 ⟨rfl, f5⟩
  have F5 := hideP (F4.out.trans f5)
  clear f5
  go_wp2_with fail
  refine (HBg.out _ F5.out).mono ?_
  rintro _ w6 ⟨rfl, f6⟩
  have F6 := hideP (F5.out.trans f6)
  clear f6
  go_wp2_with fail
  go_ret
  exact ⟨rfl, F6.out⟩
 | ok x =>
  have HX := hideP hx
  clear hx
  by_cases h2 : EX.ck l2 = 0
  ·
   by_cases h3 : EX.ck l3 = 0
   ·
    have HH2 := hideP h2
    have HH3 := hideP h3
    obtain ⟨a, c, e1, e2, e3, e4⟩ := BG.fil_both h2 h3 (show BG.fil l0 l1 (l2 ++ l3 ++ [EV.opN 16 2]) = .ok x by rw [HM.out, HN.out]; exact HX.out)
    have HE1 := hideP e1
    have HE2 := hideP e2
    have HE3 := hideP e3
    have HE4 := hideP e4
    have HAm := hideP (show (∀ r ∈ a, r ∈ l0) ∧ a.length ≤ l0.length from by
     have e := (BG.fil_iff.1 e1).2.2.2
     subst e
     exact ⟨fun r hr => (List.mem_filter.1 hr).1, List.length_filter_le _ _⟩)
    have HCm := hideP (show (∀ r ∈ c, r ∈ l0) ∧ c.length ≤ l0.length from by
     have e := (BG.fil_iff.1 e3).2.2.2
     subst e
     exact ⟨fun r hr => (List.mem_filter.1 hr).1, List.length_filter_le _ _⟩)
    have HXm := hideP (show (∀ r ∈ x, r ∈ l0) ∧ x.length ≤ l0.length ∧ l0.length ≤ 40 from by
     have e := (BG.fil_iff.1 HX.out)
     exact ⟨fun r hr => by rw [e.2.2.2] at hr; exact (List.mem_filter.1 hr).1, by rw [e.2.2.2]; exact List.length_filter_le _ _, (BG.chk_all e.1).1⟩)
    clear h2 h3 e1 e2 e3 e4
    have HB1 := hideP (Blk.new w #[] 28)
    have G1 := hideP ((Fr.refl w).alloc (.cells #[] 28))
    go_enter Tryz.func3, Tryz.ntmps3
    go_wp2_with (at_builtin; refine wpList_append_L cdN rfl _ _ 24 28 i0 _ 64 rfl Tryz.underlying24 hi0 hz0 hz1 hz2 rfl w.heap.size _ 0 [] rfl (own_blk0 HB1.out (Nat.le_refl _)) _ l2 rfl (HE.out.fr G1.out) ?c3 ?c4 ?c5 ?_)
    case c3 => unfold maxLen; omega
    case c4 => omega
    case c5 => exact G1.out.size
    intro v1 w1 own1 gr1
    have G11 := hideP (show Fr w w1 from Below.grown G1.out gr1 G1.out.size (own_base (own_blk0 (B := w.heap.size) (k := 6) HB1.out (Nat.le_refl _))))
    have HO1 := hideP (show w1.ownsRow w.heap.size 28 6 v1 l2.length (flat cdN l2) from own1)
    clear own1 gr1
    go_wp2_with (at_builtin; refine wpList_append_L cdN rfl _ _ 24 28 i0 _ 64 rfl Tryz.underlying24 hi0 hz0 hz1 hz2 rfl w.heap.size _ l2.length _ rfl HO1.out _ l3 rfl (HD.out.fr G11.out) ?c3 ?c4 ?c5 ?_)
    case c3 => unfold maxLen; omega
    case c4 => have := HMs.out; have := HMl.out; omega
    case c5 => exact G11.out.size
    intro v2 w2 own2 gr2
    have G12 := hideP (show Fr w w2 from Below.grown G11.out gr2 G11.out.size (own_base HO1.out))
    have o2 : w2.ownsRow w.heap.size 28 6 v2 M.length (flat cdN M) := by rw [← HM.out, List.length_append]; exact own2
    have HO2 := hideP o2
    clear own2 gr2 o2 HO1
    go_wp2_with fail
    refine (nOp_any 16 2 _).mono ?_
    rintro _ w3 ⟨rfl, f3⟩
    have HL := hideP (show IsL cdN (w3.alloc (.cells #[.int .i64 16, .int .i64 2, .int .i64 0, .int .i64 0, .string ⟨#[]⟩, .string ⟨#[]⟩] 28)) (.slice (some ⟨w3.heap.size, 0, none⟩) 1 1) [EV.opN 16 2] from lit_many cdN w3 [EV.opN 16 2] 28)
    have g3 := f3.alloc (.cells #[.int .i64 16, .int .i64 2, .int .i64 0, .int .i64 0, .string ⟨#[]⟩, .string ⟨#[]⟩] 28)
    have HP := hideP (own_fr HO2.out g3)
    have G13 := hideP (G12.out.trans g3)
    clear f3 g3 HO2
    go_wp2_with (at_builtin; refine wpList_append_L cdN rfl _ _ 24 28 i0 _ 64 rfl Tryz.underlying24 hi0 hz0 hz1 hz2 rfl w.heap.size _ M.length _ rfl HP.out (.slice (some ⟨w3.heap.size, 0, none⟩) 1 1) [EV.opN 16 2] rfl HL.out ?c3 ?c4 ?c5 ?_)
    case c3 => unfold maxLen; rw [show [EV.opN 16 2].length = 1 from rfl]; have := HMl.out; omega
    case c4 => rw [show [EV.opN 16 2].length = 1 from rfl]; have := HMs.out; omega
    case c5 => exact G13.out.size
    intro v4 w4 own4 gr4
    have F4 := hideP (show Fr w w4 from Below.grown G13.out gr4 G13.out.size (own_base HP.out))
    have o4 : w4.ownsRow w.heap.size 28 6 v4 N.length (flat cdN N) := by rw [← HN.out, List.length_append]; exact own4
    clear own4
    obtain ⟨na, nc, rfl⟩ := own_slice o4
    have Hn := hideP (show IsL cdN w4 (.slice na N.length nc) N from isL_own (E := cdN) o4)
    clear o4 gr4 HP HL HB1 G1 G11 G12 G13
    go_wp2_with fail
    have k5 := HF.out w4 _ _ l0 N F4.out (HR.out.fr F4.out) Hn.out (fun r h => h) (Nat.le_refl _) HNok.out (by have := HNl.out; omega)
    rw [HX.out] at k5
    refine k5.mono ?_
    clear k5
    rintro _ w5 ⟨⟨u, rfl, hO⟩, f5⟩
    obtain ⟨xa, xc, rfl⟩ := hO.slice
    have Hx := hideP hO.rows
    have F5 := hideP (F4.out.trans f5)
    clear f5 hO
    go_wp2_with fail
    refine (HBg.out _ F5.out).mono ?_
    rintro _ w6 ⟨rfl, f6⟩
    replace Hx := hideP (Hx.out.fr f6)
    have F6 := hideP (F5.out.trans f6)
    clear f6
    go_wp2_with fail
    have j7 := HX2.out w6 F6.out
    rw [HH2.out] at j7
    refine j7.mono ?_
    clear j7
    rintro _ w7 ⟨rfl, f7⟩
    replace Hx := hideP (Hx.out.fr f7)
    have F7 := hideP (F6.out.trans f7)
    clear f7
    go_wp2_with fail
    have j8 := HX3.out w7 F7.out
    rw [HH3.out] at j8
    refine j8.mono ?_
    clear j8
    rintro _ w8 ⟨rfl, f8⟩
    replace Hx := hideP (Hx.out.fr f8)
    have F8 := hideP (F7.out.trans f8)
    clear f8
    go_wp2_with fail
    have k9 := HF.out w8 _ _ l0 l2 F8.out (HR.out.fr F8.out) (HE.out.fr F8.out) (fun r h => h) (Nat.le_refl _) HOk.out (by omega)
    rw [HE1.out] at k9
    refine k9.mono ?_
    clear k9
    rintro _ w9 ⟨⟨u, rfl, hO⟩, f9⟩
    obtain ⟨ya, yc, rfl⟩ := hO.slice
    have Hy := hideP hO.rows
    replace Hx := hideP (Hx.out.fr f9)
    have F9 := hideP (F8.out.trans f9)
    clear f9 hO
    go_wp2_with fail
    have k10 := HF.out w9 _ _ a l3 F9.out Hy.out (HD.out.fr F9.out) HAm.out.1 HAm.out.2 HOk3.out (by omega)
    rw [HE2.out] at k10
    refine k10.mono ?_
    clear k10
    rintro _ w10 ⟨⟨u, rfl, hO⟩, f10⟩
    obtain ⟨za, zc, rfl⟩ := hO.slice
    have Hz := hideP hO.rows
    replace Hx := hideP (Hx.out.fr f10)
    have F10 := hideP (F9.out.trans f10)
    clear f10 hO
    go_wp2_with fail
    have k11 := HF.out w10 _ _ l0 l3 F10.out (HR.out.fr F10.out) (HD.out.fr F10.out) (fun r h => h) (Nat.le_refl _) HOk3.out (by omega)
    rw [HE3.out] at k11
    refine k11.mono ?_
    clear k11
    rintro _ w11 ⟨⟨u, rfl, hO⟩, f11⟩
    obtain ⟨sa, sc, rfl⟩ := hO.slice
    have Hs := hideP hO.rows
    replace Hx := hideP (Hx.out.fr f11)
    replace Hz := hideP (Hz.out.fr f11)
    have F11 := hideP (F10.out.trans f11)
    clear f11 hO
    go_wp2_with fail
    have k12 := HF.out w11 _ _ c l2 F11.out Hs.out (HE.out.fr F11.out) HCm.out.1 HCm.out.2 HOk.out (by omega)
    rw [HE4.out] at k12
    refine k12.mono ?_
    clear k12
    rintro _ w12 ⟨⟨u, rfl, hO⟩, f12⟩
    obtain ⟨ta, tc, rfl⟩ := hO.slice
    have Ht := hideP hO.rows
    replace Hx := hideP (Hx.out.fr f12)
    replace Hz := hideP (Hz.out.fr f12)
    have F12 := hideP (F11.out.trans f12)
    clear f12 hO
    go_wp2_with fail
    refine (sameRows_eq _ _ x w12 Hx.out Hz.out (by have := HXm.out.2; omega) (fun r hr => HRn.out r (HXm.out.1 r hr))).mono ?_
    rintro _ w13 ⟨rfl, f13⟩
    replace Hx := hideP (Hx.out.fr f13)
    replace Ht := hideP (Ht.out.fr f13)
    have F13 := hideP (F12.out.trans f13)
    clear f13
    go_wp2_with fail
    refine (sameRows_eq _ _ x w13 Hx.out Ht.out (by have := HXm.out.2; omega) (fun r hr => HRn.out r (HXm.out.1 r hr))).mono ?_
    rintro _ w14 ⟨rfl, f14⟩
    replace Hx := hideP (Hx.out.fr f14)
    replace Ht := hideP (Ht.out.fr f14)
    have F14 := hideP (F13.out.trans f14)
    clear f14
    go_wp2_with fail
    go_ret
    exact ⟨rfl, F14.out⟩
   ·
    have p1 : (((EX.ck l3 : Nat) : Int) != 0) = true := by simp; omega
    have HH2 := hideP h2
    clear h2
    generalize EX.ck l3 = z3 at *
    have HB1 := hideP (Blk.new w #[] 28)
    have G1 := hideP ((Fr.refl w).alloc (.cells #[] 28))
    go_enter Tryz.func3, Tryz.ntmps3
    go_wp2_with (at_builtin; refine wpList_append_L cdN rfl _ _ 24 28 i0 _ 64 rfl Tryz.underlying24 hi0 hz0 hz1 hz2 rfl w.heap.size _ 0 [] rfl (own_blk0 HB1.out (Nat.le_refl _)) _ l2 rfl (HE.out.fr G1.out) ?c3 ?c4 ?c5 ?_)
    case c3 => unfold maxLen; omega
    case c4 => omega
    case c5 => exact G1.out.size
    intro v1 w1 own1 gr1
    have G11 := hideP (show Fr w w1 from Below.grown G1.out gr1 G1.out.size (own_base (own_blk0 (B := w.heap.size) (k := 6) HB1.out (Nat.le_refl _))))
    have HO1 := hideP (show w1.ownsRow w.heap.size 28 6 v1 l2.length (flat cdN l2) from own1)
    clear own1 gr1
    go_wp2_with (at_builtin; refine wpList_append_L cdN rfl _ _ 24 28 i0 _ 64 rfl Tryz.underlying24 hi0 hz0 hz1 hz2 rfl w.heap.size _ l2.length _ rfl HO1.out _ l3 rfl (HD.out.fr G11.out) ?c3 ?c4 ?c5 ?_)
    case c3 => unfold maxLen; omega
    case c4 => have := HMs.out; have := HMl.out; omega
    case c5 => exact G11.out.size
    intro v2 w2 own2 gr2
    have G12 := hideP (show Fr w w2 from Below.grown G11.out gr2 G11.out.size (own_base HO1.out))
    have o2 : w2.ownsRow w.heap.size 28 6 v2 M.length (flat cdN M) := by rw [← HM.out, List.length_append]; exact own2
    have HO2 := hideP o2
    clear own2 gr2 o2 HO1
    go_wp2_with fail
    refine (nOp_any 16 2 _).mono ?_
    rintro _ w3 ⟨rfl, f3⟩
    have HL := hideP (show IsL cdN (w3.alloc (.cells #[.int .i64 16, .int .i64 2, .int .i64 0, .int .i64 0, .string ⟨#[]⟩, .string ⟨#[]⟩] 28)) (.slice (some ⟨w3.heap.size, 0, none⟩) 1 1) [EV.opN 16 2] from lit_many cdN w3 [EV.opN 16 2] 28)
    have g3 := f3.alloc (.cells #[.int .i64 16, .int .i64 2, .int .i64 0, .int .i64 0, .string ⟨#[]⟩, .string ⟨#[]⟩] 28)
    have HP := hideP (own_fr HO2.out g3)
    have G13 := hideP (G12.out.trans g3)
    clear f3 g3 HO2
    go_wp2_with (at_builtin; refine wpList_append_L cdN rfl _ _ 24 28 i0 _ 64 rfl Tryz.underlying24 hi0 hz0 hz1 hz2 rfl w.heap.size _ M.length _ rfl HP.out (.slice (some ⟨w3.heap.size, 0, none⟩) 1 1) [EV.opN 16 2] rfl HL.out ?c3 ?c4 ?c5 ?_)
    case c3 => unfold maxLen; rw [show [EV.opN 16 2].length = 1 from rfl]; have := HMl.out; omega
    case c4 => rw [show [EV.opN 16 2].length = 1 from rfl]; have := HMs.out; omega
    case c5 => exact G13.out.size
    intro v4 w4 own4 gr4
    have F4 := hideP (show Fr w w4 from Below.grown G13.out gr4 G13.out.size (own_base HP.out))
    have o4 : w4.ownsRow w.heap.size 28 6 v4 N.length (flat cdN N) := by rw [← HN.out, List.length_append]; exact own4
    clear own4
    obtain ⟨na, nc, rfl⟩ := own_slice o4
    have Hn := hideP (show IsL cdN w4 (.slice na N.length nc) N from isL_own (E := cdN) o4)
    clear o4 gr4 HP HL HB1 G1 G11 G12 G13
    go_wp2_with fail
    have k5 := HF.out w4 _ _ l0 N F4.out (HR.out.fr F4.out) Hn.out (fun r h => h) (Nat.le_refl _) HNok.out (by have := HNl.out; omega)
    rw [HX.out] at k5
    refine k5.mono ?_
    clear k5
    rintro _ w5 ⟨⟨u, rfl, hO⟩, f5⟩
    obtain ⟨xa, xc, rfl⟩ := hO.slice
    have Hx := hideP hO.rows
    have F5 := hideP (F4.out.trans f5)
    clear f5 hO
    go_wp2_with fail
    refine (HBg.out _ F5.out).mono ?_
    rintro _ w6 ⟨rfl, f6⟩
    replace Hx := hideP (Hx.out.fr f6)
    have F6 := hideP (F5.out.trans f6)
    clear f6
    go_wp2_with fail
    have j7 := HX2.out w6 F6.out
    rw [HH2.out] at j7
    refine j7.mono ?_
    clear j7
    rintro _ w7 ⟨rfl, f7⟩
    replace Hx := hideP (Hx.out.fr f7)
    have F7 := hideP (F6.out.trans f7)
    clear f7
    go_wp2_with fail
    have j8 := HX3.out w7 F7.out
    refine j8.mono ?_
    clear j8
    rintro _ w8 ⟨rfl, f8⟩
    replace Hx := hideP (Hx.out.fr f8)
    have F8 := hideP (F7.out.trans f8)
    clear f8
    go_wp2_with fail
    go_ret
    exact ⟨rfl, F8.out⟩
  ·
   have p1 : (((EX.ck l2 : Nat) : Int) != 0) = true := by simp; omega
   generalize EX.ck l2 = z2 at *
   have HB1 := hideP (Blk.new w #[] 28)
   have G1 := hideP ((Fr.refl w).alloc (.cells #[] 28))
   go_enter Tryz.func3, Tryz.ntmps3
   go_wp2_with (at_builtin; refine wpList_append_L cdN rfl _ _ 24 28 i0 _ 64 rfl Tryz.underlying24 hi0 hz0 hz1 hz2 rfl w.heap.size _ 0 [] rfl (own_blk0 HB1.out (Nat.le_refl _)) _ l2 rfl (HE.out.fr G1.out) ?c3 ?c4 ?c5 ?_)
   case c3 => unfold maxLen; omega
   case c4 => omega
   case c5 => exact G1.out.size
   intro v1 w1 own1 gr1
   have G11 := hideP (show Fr w w1 from Below.grown G1.out gr1 G1.out.size (own_base (own_blk0 (B := w.heap.size) (k := 6) HB1.out (Nat.le_refl _))))
   have HO1 := hideP (show w1.ownsRow w.heap.size 28 6 v1 l2.length (flat cdN l2) from own1)
   clear own1 gr1
   go_wp2_with (at_builtin; refine wpList_append_L cdN rfl _ _ 24 28 i0 _ 64 rfl Tryz.underlying24 hi0 hz0 hz1 hz2 rfl w.heap.size _ l2.length _ rfl HO1.out _ l3 rfl (HD.out.fr G11.out) ?c3 ?c4 ?c5 ?_)
   case c3 => unfold maxLen; omega
   case c4 => have := HMs.out; have := HMl.out; omega
   case c5 => exact G11.out.size
   intro v2 w2 own2 gr2
   have G12 := hideP (show Fr w w2 from Below.grown G11.out gr2 G11.out.size (own_base HO1.out))
   have o2 : w2.ownsRow w.heap.size 28 6 v2 M.length (flat cdN M) := by rw [← HM.out, List.length_append]; exact own2
   have HO2 := hideP o2
   clear own2 gr2 o2 HO1
   go_wp2_with fail
   refine (nOp_any 16 2 _).mono ?_
   rintro _ w3 ⟨rfl, f3⟩
   have HL := hideP (show IsL cdN (w3.alloc (.cells #[.int .i64 16, .int .i64 2, .int .i64 0, .int .i64 0, .string ⟨#[]⟩, .string ⟨#[]⟩] 28)) (.slice (some ⟨w3.heap.size, 0, none⟩) 1 1) [EV.opN 16 2] from lit_many cdN w3 [EV.opN 16 2] 28)
   have g3 := f3.alloc (.cells #[.int .i64 16, .int .i64 2, .int .i64 0, .int .i64 0, .string ⟨#[]⟩, .string ⟨#[]⟩] 28)
   have HP := hideP (own_fr HO2.out g3)
   have G13 := hideP (G12.out.trans g3)
   clear f3 g3 HO2
   go_wp2_with (at_builtin; refine wpList_append_L cdN rfl _ _ 24 28 i0 _ 64 rfl Tryz.underlying24 hi0 hz0 hz1 hz2 rfl w.heap.size _ M.length _ rfl HP.out (.slice (some ⟨w3.heap.size, 0, none⟩) 1 1) [EV.opN 16 2] rfl HL.out ?c3 ?c4 ?c5 ?_)
   case c3 => unfold maxLen; rw [show [EV.opN 16 2].length = 1 from rfl]; have := HMl.out; omega
   case c4 => rw [show [EV.opN 16 2].length = 1 from rfl]; have := HMs.out; omega
   case c5 => exact G13.out.size
   intro v4 w4 own4 gr4
   have F4 := hideP (show Fr w w4 from Below.grown G13.out gr4 G13.out.size (own_base HP.out))
   have o4 : w4.ownsRow w.heap.size 28 6 v4 N.length (flat cdN N) := by rw [← HN.out, List.length_append]; exact own4
   clear own4
   obtain ⟨na, nc, rfl⟩ := own_slice o4
   have Hn := hideP (show IsL cdN w4 (.slice na N.length nc) N from isL_own (E := cdN) o4)
   clear o4 gr4 HP HL HB1 G1 G11 G12 G13
   go_wp2_with fail
   have k5 := HF.out w4 _ _ l0 N F4.out (HR.out.fr F4.out) Hn.out (fun r h => h) (Nat.le_refl _) HNok.out (by have := HNl.out; omega)
   rw [HX.out] at k5
   refine k5.mono ?_
   clear k5
   rintro _ w5 ⟨⟨u, rfl, hO⟩, f5⟩
   obtain ⟨xa, xc, rfl⟩ := hO.slice
   have Hx := hideP hO.rows
   have F5 := hideP (F4.out.trans f5)
   clear f5 hO
   go_wp2_with fail
   refine (HBg.out _ F5.out).mono ?_
   rintro _ w6 ⟨rfl, f6⟩
   replace Hx := hideP (Hx.out.fr f6)
   have F6 := hideP (F5.out.trans f6)
   clear f6
   go_wp2_with fail
   have j7 := HX2.out w6 F6.out
   refine j7.mono ?_
   clear j7
   rintro _ w7 ⟨rfl, f7⟩
   replace Hx := hideP (Hx.out.fr f7)
   have F7 := hideP (F6.out.trans f7)
   clear f7
   go_wp2_with fail
   go_ret
   exact ⟨rfl, F7.out⟩

theorem contract (H : Type) (enc : TypeId × Value → H) (W : World) (base : Nat) (args : Array Value) (ds gs : List (DataW H)) (before : List MemPlace)
  (hval : ∀ (j : Nat) t v, Tryz.f3.params[j]? = some t → args[j]? = some v → Value.okWide Tryz.prog W .any base t v)
  (hW : DataW.Whole enc Tryz.prog Tryz.f3.params.toList Rows.filterBothSpec.vars false W args.toList ds gs before) (hk : Rows.uptoSmall H (ds ++ gs) = true) (hL : laidMetH Tryz.prog Rows.filterBothUptoRow.laid W) :
  Calls Tryz.prog 3 args W fun e W' => ∃ v, e = .returned v ∧ Rows.filterBothSpec.post enc Tryz.prog Tryz.f3 false true false false W args v W' := by
 have hT : Tt W := tabs_of_laid hL
 have hW' := hW
 obtain ⟨p, q, hA0, hV, rfl, hfz, hnd⟩ := hW
 have hA : DataW.TrodAll enc Tryz.prog W 0 (fun _ => true) true Tryz.f3.params.toList args.toList ds p := hA0
 rw [Tryz.params3] at hA hval
 obtain ⟨v0, vs0, d0, ds0, p0, q0, hargs, rfl, rfl, h0, r0⟩ := trodAll_cons hA
 obtain ⟨v1, vs1, d1, ds1, p1, q1, rfl, rfl, rfl, h1, r1⟩ := trodAll_cons r0
 obtain ⟨v2, vs2, d2, ds2, p2, q2, rfl, rfl, rfl, h2, r2⟩ := trodAll_cons r1
 obtain ⟨v3, vs3, d3, ds3, p3, q3, rfl, rfl, rfl, h3, r3⟩ := trodAll_cons r2
 obtain ⟨rfl, rfl, rfl⟩ := trodAll_nil r3
 obtain rfl : args = #[v0, v1, v2, v3] := by cases args; simp_all
 obtain ⟨rfl, rfl⟩ := trodVars_none hV
 have hbulk : Rows.uptoBulkAll (H := H) [d0, d1, d2, d3] ≤ 1048576 := of_decide_eq_true hk
 simp only [Rows.uptoBulkAll] at hbulk
 obtain ⟨l0, rw0, ok0, b0⟩ := open_rws (hval 0 22 v0 rfl rfl) h0 (bulk_weights inT_ok rfl (by omega))
 obtain ⟨l1, rw1, ok1, b1⟩ := open_cls (hval 1 23 v1 rfl rfl) h1 (bulk_weights inT_ok rfl (by omega))
 obtain ⟨l2, rw2, ok2, b2⟩ := open_nds (hval 2 24 v2 rfl rfl) h2 (bulk_weights inT_ok rfl (by omega))
 have c2 := nds_bulk rw2 h2
 obtain ⟨l3, rw3, ok3, b3⟩ := open_nds (hval 3 24 v3 rfl rfl) h3 (bulk_weights inT_ok rfl (by omega))
 have c3 := nds_bulk rw3 h3
 clear hA0
 simp only [List.append_nil] at hW'
 refine (walk v0 l0 v1 l1 v2 l2 v3 l3 W hT rw0 ok0 b0 rw1 ok1 b1 rw2 ok2 b2 rw3 ok3 b3 (by omega)).mono fun e W' ⟨he, bel⟩ => ?_
 subst he
 exact ⟨_, rfl, _, _, _, [], _, [], hW', trodAll_mk1 (shut_bool Tryz.underlying4 _), (trodAll_cons_mk (shut_rws h0 bel) (trodAll_cons_mk (shut_cls h1 bel) (trodAll_cons_mk (shut_nds h2 bel) (trodAll_cons_mk (shut_nds h3 bel) trodAll_mk0)))), rfl, Below.frame bel _, fun h => by cases h⟩
theorem reads (os : Go.Os) {H : Type} (enc : TypeId × Value → H) : ∃ places, DataW.whole enc Tryz.prog ((World.laidAll Tryz.prog os Rows.filterBothUptoRow.laid).forCall (fun _ _ => 0) ⟨#[], #[.slice none 0 0, .slice none 0 0, .slice none 0 0, .slice none 0 0], []⟩).memory Tryz.f3.params.toList Rows.filterBothSpec.vars false #[Value.slice none 0 0, Value.slice none 0 0, Value.slice none 0 0, Value.slice none 0 0].toList 8 = some ([.nil, .nil, .nil, .nil], [], places) :=
 ⟨[], by kernel_rfl⟩
set_option maxRecDepth 100000 in
theorem lifted (os : Go.Os) (started : os.Started) (H : Type) (enc : TypeId × Value → H) (F : Stop.Interp) :
  ReturnsInHanded {} Tryz.checked os 3 .any ((Rows.OpenSpec.upto Rows.filterBothSpec).preRow enc Tryz.prog Tryz.f3 Rows.filterBothUptoRow.domain false Rows.filterBothUptoRow.laid) (((Rows.OpenSpec.upto Rows.filterBothSpec).at F).post enc Tryz.prog Tryz.f3 false true false false) := by
 obtain ⟨places, hx⟩ := reads os enc
 refine returnsInHanded_of_row (C := Tryz.checked) (s := Rows.OpenSpec.upto Rows.filterBothSpec) own started (by kernel_rfl) Tryz.func3
  (witness_row_at (enc := enc) (C := Tryz.checked) false (World.laidAll Tryz.prog os Rows.filterBothUptoRow.laid) #[.slice none 0 0, .slice none 0 0, .slice none 0 0, .slice none 0 0] (World.laidAll_os _ _ _) (by kernel_rfl) (by kernel_rfl) (by kernel_rfl)
   (OpenSpec.preRow_of_cond 8 hx (by kernel_rfl) (fun k hk => by cases hk; kernel_rfl) (by kernel_rfl) (by rw [MakeChecks.laidMetH_plain _ _ _ (by kernel_rfl)]; exact laidMet_laidAll _ (by kernel_rfl) (by kernel_rfl)))) ?_
 intro W base args ds gs before hval hW _ hcond _ hL _ _
 exact contract H enc W base args ds gs before hval hW (hcond _ rfl) hL
theorem closed : joinedFacts Tryz.prog 3 Tryz.f3 Rows.filterBothSpec Rows.filterBothUptoRow = true := by
 unfold joinedFacts
 repeat' (with_reducible refine Bool.and_eq_true_iff.2 ⟨?_, ?_⟩)
 all_goals first
  | with_reducible exact HeadW.mayEnter
  | with_reducible exact laidOut
  | with_reducible exact HeadW.mapsRowed
  | with_reducible exact HeadW.stopsHeard
  | (rw [HeadW.liftsFinal]; as_aux_lemma => kernel_rfl)
  | (rw [HeadW.make]; as_aux_lemma => kernel_rfl)
  | (rw [HeadW.plainKeys]; as_aux_lemma => kernel_rfl)
  | as_aux_lemma => kernel_rfl
theorem over : Rows.filterBothUptoRow.holds Tryz.pinned (Rows.OpenSpec.upto Rows.filterBothSpec) :=
 OpenClaim.holds_of_cond 3 Tryz.f3 rfl rfl rfl rfl rfl rfl rfl ⟨rfl, rfl, rfl, rfl, rfl⟩ rfl rfl rfl rfl rfl (by as_aux_lemma => kernel_rfl) Tryz.func3 closed
  (of_decide_eq_true (by as_aux_lemma => kernel_rfl)) (by unfold Func.isWrapper; first | (rw [if_pos (by decide +kernel)]; kernel_rfl) | (rw [if_neg (by decide +kernel)]; exact ⟨rfl, rfl⟩))
  (fun os started H enc _ F => by rw [OpenClaim.pre_eq_preRow]; exact lifted os started H enc F)
theorem card : Rows.FilterBothUptoCardSaid :=
 Claim7.holds_tied_plain_at .later [] [.data, .data, .data, .data, .data, .data, .pinned] true (true, "3d9200482c1a8c9d4c0c2901940aba6e6f6453fca408f5f0e6919f8376bce52c") false
  over (fun _ h => by cases h) (by as_aux_lemma => kernel_rfl) (fun _ h => by cases h) filterBothUpto_row_tie rfl ⟨rfl, rfl⟩ HeadW.main rfl
  (fun f fn hf hfn => by
   obtain rfl : f = 3 := Option.some.inj ((show Tryz.prog.funcNamed "starling/starlinglaw.FilterBoth" = some 3 by as_aux_lemma => kernel_rfl).symm.trans hf) |>.symm
   obtain rfl : fn = Tryz.f3 := (Option.some.inj (Tryz.func3.symm.trans hfn)).symm
   exact ⟨HeadW.looks.symm, fun j t ht => by
    rw [Tryz.params3] at ht
    have hm : t ∈ [22, 23, 24, 24] := by simpa using Array.mem_of_getElem? ht
    have hall : ([22, 23, 24, 24].all fun u => !Tryz.prog.wantsStandIn u) = true := by as_aux_lemma => kernel_rfl
    exact (show Tryz.prog.wantsStandIn t = false by simpa using List.all_eq_true.1 hall t hm)⟩)
  (by as_aux_lemma => kernel_rfl)
end Go.Proofs.YtaabandfjdnkjaaGreatDoor.filterBothProof
namespace Go.Proofs.YtaabandfjdnkjaaGreatDoor
theorem filterBothUpto_holds : Rows.FilterBothUptoCardSaid := filterBothProof.card
end Go.Proofs.YtaabandfjdnkjaaGreatDoor
