/-
  Proved: for every list of rows, columns and expression FilterThree answers true: each row is kept by just one: by an expression, by its Not, or by neither. No condition but the form's own reach.
-/
import Derived.Test.YtaabandfjdnkjaaGreatDoorGqG
import Derived.Test.YtaabandfjdnkjaaGreatDoorGqF
import Derived.Test.YtaabandfjdnkjaaGreatDoorBjB
import Derived.Test.YtaabandfjdnkjaaGreatDoorBlC
namespace Go.Proofs.YtaabandfjdnkjaaGreatDoor.filterThreeProof
open Go.ChangeShapes Go.WideShapes Go.ChangeAt Go.RowKit
open Go.ChangeMaps (open_string shut_string)
set_option linter.unusedVariables false
set_option linter.unusedSimpArgs false
set_option maxRecDepth 100000
set_option maxHeartbeats 2000000
theorem infoN6 : (Tryz.prog.info? 28).map (fun i => (i.zero, i.size, i.bytes)) = some (some (.agg #[.int .i64 0, .int .i64 0, .int .i64 0, .int .i64 0, .string ⟨#[]⟩, .string ⟨#[]⟩]), 6, 64) := by kernel_rfl
theorem okN_op (op kids : Int) : EV.okN (EV.opN op kids) := ⟨Nat.zero_le _, EV.gd_nul⟩
theorem ok_snoc {l : List EX.Nd} (h : ∀ n ∈ l, EV.okN n) (op kids : Int) : ∀ n ∈ l ++ [EV.opN op kids], EV.okN n := fun n hn => by
 rcases List.mem_append.1 hn with h1 | h1
 · exact h n h1
 ·
  obtain rfl : n = EV.opN op kids := by simpa using h1
  exact okN_op _ _
theorem walk (v0 : Value) (l0 : List (List VM.Vl)) (v1 : Value) (l1 : List ByteArray) (v2 : Value) (l2 : List EX.Nd) (w : World) (hTt : Tt w) (rw0 : IsRR w v0 l0) (ok0 : ∀ y ∈ l0, y.length * 32 ≤ 140737488351232 ∧ ∀ z ∈ y, EV.gd z ∧ z.s.size ≤ 140737488351232) (b0 : l0.length * 24 ≤ 140737488351232) (rw1 : IsL cdB w v1 l1) (ok1 : ∀ y ∈ l1, y.size ≤ 140737488351232) (b1 : l1.length * 16 ≤ 140737488351232) (rw2 : IsL cdN w v2 l2) (ok2 : ∀ y ∈ l2, EV.okN y ∧ (-9223372036854775808 ≤ y.op ∧ y.op ≤ 9223372036854775807) ∧ (-9223372036854775808 ≤ y.kids ∧ y.kids ≤ 9223372036854775807)) (b2 : l2.length * 64 ≤ 140737488351232) :
  Calls Tryz.prog 4 #[v0, v1, v2] w fun e w' => e = .returned (.bool true) ∧ Fr w w' := by
 have HBg := hideP (fun (W : World) (f : Fr w W) => bagBegun_any W (hTt.tn.fr f) (hTt.tb.fr f))
 obtain ⟨i0, hi0, hz0, hz1, hz2⟩ := info_parts infoN6
 have HR := hideP rw0
 have HE := hideP rw2
 have HOk := hideP (show ∀ n ∈ l2, EV.okN n from fun n hn => (ok2 n hn).1)
 have HRn := hideP (fun r (hr : r ∈ l0) => show r.length ≤ 9223372036854775806 by have := (ok0 r hr).1; omega)
 have HF := hideP (fun (W : World) (v va : Value) (ls : List (List VM.Vl)) (es : List EX.Nd) (f : Fr w W) (h : IsRR W v ls) (he : IsL cdN W va es) (hs : ∀ r ∈ ls, r ∈ l0) (hn : ls.length ≤ l0.length) (hes : ∀ n ∈ es, EV.okN n) (hel : es.length ≤ 9223372036854775806) => filter_any v _ va ls l1 es W h (rw1.fr f) he (fun n hn => (hes n hn).1) hel (fun c hc => by have := ok1 c hc; omega) (hTt.tn.fr f) (hTt.tb.fr f) (fun n hn => (hes n hn).2) (fun r hr x hx => ((ok0 r (hs r hr)).2 x hx).1) (by omega) (fun r hr => by have := (ok0 r (hs r hr)).1; omega))
 have hb2 : l2.length * 64 ≤ 140737488351232 := b2
 obtain ⟨A0, c0, rfl⟩ := rw0.slice
 obtain ⟨A1, c1, rfl, _⟩ := rw1
 obtain ⟨A2, c2, rfl, _⟩ := rw2
 clear rw0 ok0 b0 ok1 b1 ok2 b2
 obtain ⟨N, hN⟩ : ∃ N, l2 ++ [EV.opN 4 1] = N := ⟨_, rfl⟩
 obtain ⟨I, hI⟩ : ∃ I, N ++ [EV.opN 18 1] = I := ⟨_, rfl⟩
 have HN := hideP hN
 have HI := hideP hI
 have HNl := hideP (show N.length = l2.length + 1 by rw [← hN, List.length_append]; rfl)
 have HIl := hideP (show I.length = l2.length + 2 by rw [← hI, List.length_append, HNl.out]; rfl)
 have HNok := hideP (show ∀ n ∈ N, EV.okN n from hN ▸ ok_snoc HOk.out 4 1)
 have HIok := hideP (show ∀ n ∈ I, EV.okN n from hI ▸ ok_snoc HNok.out 18 1)
 clear hN hI
 cases hx : BG.fil l0 l1 l2 with
 | error c =>
  cases hy : BG.fil l0 l1 N with
  | error d =>
   cases hz : BG.fil l0 l1 I with
   | error e =>
    have p0 := BG.fil_ne hx
    have p1 : ((c : Int) != 0) = true := by simp; omega
    have p2 : ((c : Int) == 0) = false := by simp; omega
    have q0 := BG.fil_ne hy
    have q1 : ((d : Int) != 0) = true := by simp; omega
    have q2 : ((d : Int) == 0) = false := by simp; omega
    have r0 := BG.fil_ne hz
    have r1 : ((e : Int) != 0) = true := by simp; omega
    have r2 : ((e : Int) == 0) = false := by simp; omega
    have HX := hideP hx
    have HY := hideP hy
    have HZ := hideP hz
    clear hx hy hz
    go_enter Tryz.func4, Tryz.ntmps4
    have HB1 := hideP (Blk.new w #[] 28)
    have G1 := hideP ((Fr.refl w).alloc (.cells #[] 28))
    go_wp2_with (at_builtin; refine wpList_append_L cdN rfl _ _ 24 28 i0 _ 64 rfl Tryz.underlying24 hi0 hz0 hz1 hz2 rfl (w).heap.size _ 0 [] rfl (own_blk0 HB1.out (Nat.le_refl _)) _ l2 rfl (HE.out.fr G1.out) ?c3 ?c4 ?c5 ?_)
    case c3 => unfold maxLen; skip; omega
    case c4 => skip; omega
    case c5 => exact G1.out.size
    intro v1 w1 own1 gr1
    have G11 := hideP (show Fr (w) w1 from Below.grown G1.out gr1 G1.out.size (own_base (own_blk0 (B := (w).heap.size) (k := 6) HB1.out (Nat.le_refl _))))
    have HO1 := hideP (show w1.ownsRow (w).heap.size 28 6 v1 l2.length (flat cdN l2) from own1)
    clear own1 gr1
    go_wp2_with fail
    refine (nOp_any 4 1 _).mono ?_
    rintro _ w2 ⟨rfl, f2⟩
    have HL1 := hideP (show IsL cdN (w2.alloc (.cells #[.int .i64 4, .int .i64 1, .int .i64 0, .int .i64 0, .string ⟨#[]⟩, .string ⟨#[]⟩] 28)) (.slice (some ⟨w2.heap.size, 0, none⟩) 1 1) [EV.opN 4 1] from lit_many cdN w2 [EV.opN 4 1] 28)
    have g2 := f2.alloc (.cells #[.int .i64 4, .int .i64 1, .int .i64 0, .int .i64 0, .string ⟨#[]⟩, .string ⟨#[]⟩] 28)
    have HP1 := hideP (own_fr HO1.out g2)
    have G12 := hideP (G11.out.trans g2)
    clear f2 g2 HO1
    go_wp2_with (at_builtin; refine wpList_append_L cdN rfl _ _ 24 28 i0 _ 64 rfl Tryz.underlying24 hi0 hz0 hz1 hz2 rfl (w).heap.size _ l2.length _ rfl HP1.out (.slice (some ⟨w2.heap.size, 0, none⟩) 1 1) [EV.opN 4 1] rfl HL1.out ?c3 ?c4 ?c5 ?_)
    case c3 => unfold maxLen; rw [show [EV.opN 4 1].length = 1 from rfl]; skip; omega
    case c4 => rw [show [EV.opN 4 1].length = 1 from rfl]; skip; omega
    case c5 => exact G12.out.size
    intro v3 w3 own3 gr3
    have G13 := hideP (show Fr (w) w3 from Below.grown G12.out gr3 G12.out.size (own_base HP1.out))
    have o3 : w3.ownsRow (w).heap.size 28 6 v3 N.length (flat cdN N) := by rw [← HN.out, List.length_append]; exact own3
    clear own3
    obtain ⟨na, nc, rfl⟩ := own_slice o3
    have Hn := hideP (show IsL cdN w3 (.slice na N.length nc) N from isL_own (E := cdN) o3)
    have F3 := hideP (G13.out)
    replace HE := hideP (HE.out.fr G13.out)
    clear o3 gr3 HP1 HL1 HB1 G1 G11 G12 G13
    go_wp2_with fail
    have k4 := HF.out w3 _ _ l0 l2 F3.out (HR.out.fr F3.out) HE.out (fun r h => h) (Nat.le_refl _) HOk.out (by omega)
    rw [HX.out] at k4
    refine k4.mono ?_
    clear k4
    rintro _ w4 ⟨rfl, f4⟩
    replace Hn := hideP (Hn.out.fr f4)
    replace HE := hideP (HE.out.fr f4)
    have F4 := hideP (F3.out.trans f4)
    clear f4
    go_wp2_with fail
    have k5 := HF.out w4 _ _ l0 N F4.out (HR.out.fr F4.out) Hn.out (fun r h => h) (Nat.le_refl _) HNok.out (by have := HNl.out; omega)
    rw [HY.out] at k5
    refine k5.mono ?_
    clear k5
    rintro _ w5 ⟨rfl, f5⟩
    replace Hn := hideP (Hn.out.fr f5)
    replace HE := hideP (HE.out.fr f5)
    have F5 := hideP (F4.out.trans f5)
    clear f5
    have HB6 := hideP (Blk.new w5 #[] 28)
    have G6 := hideP ((Fr.refl w5).alloc (.cells #[] 28))
    go_wp2_with (at_builtin; refine wpList_append_L cdN rfl _ _ 24 28 i0 _ 64 rfl Tryz.underlying24 hi0 hz0 hz1 hz2 rfl (w5).heap.size _ 0 [] rfl (own_blk0 HB6.out (Nat.le_refl _)) _ N rfl (Hn.out.fr G6.out) ?c3 ?c4 ?c5 ?_)
    case c3 => unfold maxLen; have := HNl.out; omega
    case c4 => have := HNl.out; omega
    case c5 => exact G6.out.size
    intro v6 w6 own6 gr6
    have G61 := hideP (show Fr (w5) w6 from Below.grown G6.out gr6 G6.out.size (own_base (own_blk0 (B := (w5).heap.size) (k := 6) HB6.out (Nat.le_refl _))))
    have HO6 := hideP (show w6.ownsRow (w5).heap.size 28 6 v6 N.length (flat cdN N) from own6)
    clear own6 gr6
    go_wp2_with fail
    refine (nOp_any 18 1 _).mono ?_
    rintro _ w7 ⟨rfl, f7⟩
    have HL6 := hideP (show IsL cdN (w7.alloc (.cells #[.int .i64 18, .int .i64 1, .int .i64 0, .int .i64 0, .string ⟨#[]⟩, .string ⟨#[]⟩] 28)) (.slice (some ⟨w7.heap.size, 0, none⟩) 1 1) [EV.opN 18 1] from lit_many cdN w7 [EV.opN 18 1] 28)
    have g7 := f7.alloc (.cells #[.int .i64 18, .int .i64 1, .int .i64 0, .int .i64 0, .string ⟨#[]⟩, .string ⟨#[]⟩] 28)
    have HP6 := hideP (own_fr HO6.out g7)
    have G62 := hideP (G61.out.trans g7)
    clear f7 g7 HO6
    go_wp2_with (at_builtin; refine wpList_append_L cdN rfl _ _ 24 28 i0 _ 64 rfl Tryz.underlying24 hi0 hz0 hz1 hz2 rfl (w5).heap.size _ N.length _ rfl HP6.out (.slice (some ⟨w7.heap.size, 0, none⟩) 1 1) [EV.opN 18 1] rfl HL6.out ?c3 ?c4 ?c5 ?_)
    case c3 => unfold maxLen; rw [show [EV.opN 18 1].length = 1 from rfl]; have := HNl.out; omega
    case c4 => rw [show [EV.opN 18 1].length = 1 from rfl]; have := HNl.out; omega
    case c5 => exact G62.out.size
    intro v8 w8 own8 gr8
    have G63 := hideP (show Fr (w5) w8 from Below.grown G62.out gr8 G62.out.size (own_base HP6.out))
    have o8 : w8.ownsRow (w5).heap.size 28 6 v8 I.length (flat cdN I) := by rw [← HI.out, List.length_append]; exact own8
    clear own8
    obtain ⟨ia, ic, rfl⟩ := own_slice o8
    have Hi := hideP (show IsL cdN w8 (.slice ia I.length ic) I from isL_own (E := cdN) o8)
    have F8 := hideP (F5.out.trans G63.out)
    replace Hn := hideP (Hn.out.fr G63.out)
    clear o8 gr8 HP6 HL6 HB6 G6 G61 G62 G63
    go_wp2_with fail
    have k9 := HF.out w8 _ _ l0 I F8.out (HR.out.fr F8.out) Hi.out (fun r h => h) (Nat.le_refl _) HIok.out (by have := HIl.out; omega)
    rw [HZ.out] at k9
    refine k9.mono ?_
    clear k9
    rintro _ w9 ⟨rfl, f9⟩
    have F9 := hideP (F8.out.trans f9)
    clear f9
    go_wp2_with fail
    refine (HBg.out _ F9.out).mono ?_
    rintro _ w10 ⟨rfl, f10⟩
    have F10 := hideP (F9.out.trans f10)
    clear f10
    go_wp2_with fail
    go_ret
    exact ⟨rfl, F10.out⟩
   | ok z =>
    have p0 := BG.fil_ne hx
    have p1 : ((c : Int) != 0) = true := by simp; omega
    have p2 : ((c : Int) == 0) = false := by simp; omega
    have q0 := BG.fil_ne hy
    have q1 : ((d : Int) != 0) = true := by simp; omega
    have q2 : ((d : Int) == 0) = false := by simp; omega
    have HX := hideP hx
    have HY := hideP hy
    have HZ := hideP hz
    clear hx hy hz
    go_enter Tryz.func4, Tryz.ntmps4
    have HB1 := hideP (Blk.new w #[] 28)
    have G1 := hideP ((Fr.refl w).alloc (.cells #[] 28))
    go_wp2_with (at_builtin; refine wpList_append_L cdN rfl _ _ 24 28 i0 _ 64 rfl Tryz.underlying24 hi0 hz0 hz1 hz2 rfl (w).heap.size _ 0 [] rfl (own_blk0 HB1.out (Nat.le_refl _)) _ l2 rfl (HE.out.fr G1.out) ?c3 ?c4 ?c5 ?_)
    case c3 => unfold maxLen; skip; omega
    case c4 => skip; omega
    case c5 => exact G1.out.size
    intro v1 w1 own1 gr1
    have G11 := hideP (show Fr (w) w1 from Below.grown G1.out gr1 G1.out.size (own_base (own_blk0 (B := (w).heap.size) (k := 6) HB1.out (Nat.le_refl _))))
    have HO1 := hideP (show w1.ownsRow (w).heap.size 28 6 v1 l2.length (flat cdN l2) from own1)
    clear own1 gr1
    go_wp2_with fail
    refine (nOp_any 4 1 _).mono ?_
    rintro _ w2 ⟨rfl, f2⟩
    have HL1 := hideP (show IsL cdN (w2.alloc (.cells #[.int .i64 4, .int .i64 1, .int .i64 0, .int .i64 0, .string ⟨#[]⟩, .string ⟨#[]⟩] 28)) (.slice (some ⟨w2.heap.size, 0, none⟩) 1 1) [EV.opN 4 1] from lit_many cdN w2 [EV.opN 4 1] 28)
    have g2 := f2.alloc (.cells #[.int .i64 4, .int .i64 1, .int .i64 0, .int .i64 0, .string ⟨#[]⟩, .string ⟨#[]⟩] 28)
    have HP1 := hideP (own_fr HO1.out g2)
    have G12 := hideP (G11.out.trans g2)
    clear f2 g2 HO1
    go_wp2_with (at_builtin; refine wpList_append_L cdN rfl _ _ 24 28 i0 _ 64 rfl Tryz.underlying24 hi0 hz0 hz1 hz2 rfl (w).heap.size _ l2.length _ rfl HP1.out (.slice (some ⟨w2.heap.size, 0, none⟩) 1 1) [EV.opN 4 1] rfl HL1.out ?c3 ?c4 ?c5 ?_)
    case c3 => unfold maxLen; rw [show [EV.opN 4 1].length = 1 from rfl]; skip; omega
    case c4 => rw [show [EV.opN 4 1].length = 1 from rfl]; skip; omega
    case c5 => exact G12.out.size
    intro v3 w3 own3 gr3
    have G13 := hideP (show Fr (w) w3 from Below.grown G12.out gr3 G12.out.size (own_base HP1.out))
    have o3 : w3.ownsRow (w).heap.size 28 6 v3 N.length (flat cdN N) := by rw [← HN.out, List.length_append]; exact own3
    clear own3
    obtain ⟨na, nc, rfl⟩ := own_slice o3
    have Hn := hideP (show IsL cdN w3 (.slice na N.length nc) N from isL_own (E := cdN) o3)
    have F3 := hideP (G13.out)
    replace HE := hideP (HE.out.fr G13.out)
    clear o3 gr3 HP1 HL1 HB1 G1 G11 G12 G13
    go_wp2_with fail
    have k4 := HF.out w3 _ _ l0 l2 F3.out (HR.out.fr F3.out) HE.out (fun r h => h) (Nat.le_refl _) HOk.out (by omega)
    rw [HX.out] at k4
    refine k4.mono ?_
    clear k4
    rintro _ w4 ⟨rfl, f4⟩
    replace Hn := hideP (Hn.out.fr f4)
    replace HE := hideP (HE.out.fr f4)
    have F4 := hideP (F3.out.trans f4)
    clear f4
    go_wp2_with fail
    have k5 := HF.out w4 _ _ l0 N F4.out (HR.out.fr F4.out) Hn.out (fun r h => h) (Nat.le_refl _) HNok.out (by have := HNl.out; omega)
    rw [HY.out] at k5
    refine k5.mono ?_
    clear k5
    rintro _ w5 ⟨rfl, f5⟩
    replace Hn := hideP (Hn.out.fr f5)
    replace HE := hideP (HE.out.fr f5)
    have F5 := hideP (F4.out.trans f5)
    clear f5
    have HB6 := hideP (Blk.new w5 #[] 28)
    have G6 := hideP ((Fr.refl w5).alloc (.cells #[] 28))
    go_wp2_with (at_builtin; refine wpList_append_L cdN rfl _ _ 24 28 i0 _ 64 rfl Tryz.underlying24 hi0 hz0 hz1 hz2 rfl (w5).heap.size _ 0 [] rfl (own_blk0 HB6.out (Nat.le_refl _)) _ N rfl (Hn.out.fr G6.out) ?c3 ?c4 ?c5 ?_)
    case c3 => unfold maxLen; have := HNl.out; omega
    case c4 => have := HNl.out; omega
    case c5 => exact G6.out.size
    intro v6 w6 own6 gr6
    have G61 := hideP (show Fr (w5) w6 from Below.grown G6.out gr6 G6.out.size (own_base (own_blk0 (B := (w5).heap.size) (k := 6) HB6.out (Nat.le_refl _))))
    have HO6 := hideP (show w6.ownsRow (w5).heap.size 28 6 v6 N.length (flat cdN N) from own6)
    clear own6 gr6
    go_wp2_with fail
    refine (nOp_any 18 1 _).mono ?_
    rintro _ w7 ⟨rfl, f7⟩
    have HL6 := hideP (show IsL cdN (w7.alloc (.cells #[.int .i64 18, .int .i64 1, .int .i64 0, .int .i64 0, .string ⟨#[]⟩, .string ⟨#[]⟩] 28)) (.slice (some ⟨w7.heap.size, 0, none⟩) 1 1) [EV.opN 18 1] from lit_many cdN w7 [EV.opN 18 1] 28)
    have g7 := f7.alloc (.cells #[.int .i64 18, .int .i64 1, .int .i64 0, .int .i64 0, .string ⟨#[]⟩, .string ⟨#[]⟩] 28)
    have HP6 := hideP (own_fr HO6.out g7)
    have G62 := hideP (G61.out.trans g7)
    clear f7 g7 HO6
    go_wp2_with (at_builtin; refine wpList_append_L cdN rfl _ _ 24 28 i0 _ 64 rfl Tryz.underlying24 hi0 hz0 hz1 hz2 rfl (w5).heap.size _ N.length _ rfl HP6.out (.slice (some ⟨w7.heap.size, 0, none⟩) 1 1) [EV.opN 18 1] rfl HL6.out ?c3 ?c4 ?c5 ?_)
    case c3 => unfold maxLen; rw [show [EV.opN 18 1].length = 1 from rfl]; have := HNl.out; omega
    case c4 => rw [show [EV.opN 18 1].length = 1 from rfl]; have := HNl.out; omega
    case c5 => exact G62.out.size
    intro v8 w8 own8 gr8
    have G63 := hideP (show Fr (w5) w8 from Below.grown G62.out gr8 G62.out.size (own_base HP6.out))
    have o8 : w8.ownsRow (w5).heap.size 28 6 v8 I.length (flat cdN I) := by rw [← HI.out, List.length_append]; exact own8
    clear own8
    obtain ⟨ia, ic, rfl⟩ := own_slice o8
    have Hi := hideP (show IsL cdN w8 (.slice ia I.length ic) I from isL_own (E := cdN) o8)
    have F8 := hideP (F5.out.trans G63.out)
    replace Hn := hideP (Hn.out.fr G63.out)
    clear o8 gr8 HP6 HL6 HB6 G6 G61 G62 G63
    go_wp2_with fail
    have k9 := HF.out w8 _ _ l0 I F8.out (HR.out.fr F8.out) Hi.out (fun r h => h) (Nat.le_refl _) HIok.out (by have := HIl.out; omega)
    rw [HZ.out] at k9
    refine k9.mono ?_
    clear k9
    rintro _ w9 ⟨⟨u, rfl, hO⟩, f9⟩
    obtain ⟨za, zc, rfl⟩ := hO.slice
    have Hz := hideP hO.rows
    have F9 := hideP (F8.out.trans f9)
    clear f9 hO
    go_wp2_with fail
    refine (HBg.out _ F9.out).mono ?_
    rintro _ w10 ⟨rfl, f10⟩
    replace Hz := hideP (Hz.out.fr f10)
    have F10 := hideP (F9.out.trans f10)
    clear f10
    go_wp2_with fail
    go_ret
    exact ⟨rfl, F10.out⟩
  | ok y =>
   cases hz : BG.fil l0 l1 I with
   | error e =>
    have p0 := BG.fil_ne hx
    have p1 : ((c : Int) != 0) = true := by simp; omega
    have p2 : ((c : Int) == 0) = false := by simp; omega
    have r0 := BG.fil_ne hz
    have r1 : ((e : Int) != 0) = true := by simp; omega
    have r2 : ((e : Int) == 0) = false := by simp; omega
    have HX := hideP hx
    have HY := hideP hy
    have HZ := hideP hz
    clear hx hy hz
    go_enter Tryz.func4, Tryz.ntmps4
    have HB1 := hideP (Blk.new w #[] 28)
    have G1 := hideP ((Fr.refl w).alloc (.cells #[] 28))
    go_wp2_with (at_builtin; refine wpList_append_L cdN rfl _ _ 24 28 i0 _ 64 rfl Tryz.underlying24 hi0 hz0 hz1 hz2 rfl (w).heap.size _ 0 [] rfl (own_blk0 HB1.out (Nat.le_refl _)) _ l2 rfl (HE.out.fr G1.out) ?c3 ?c4 ?c5 ?_)
    case c3 => unfold maxLen; skip; omega
    case c4 => skip; omega
    case c5 => exact G1.out.size
    intro v1 w1 own1 gr1
    have G11 := hideP (show Fr (w) w1 from Below.grown G1.out gr1 G1.out.size (own_base (own_blk0 (B := (w).heap.size) (k := 6) HB1.out (Nat.le_refl _))))
    have HO1 := hideP (show w1.ownsRow (w).heap.size 28 6 v1 l2.length (flat cdN l2) from own1)
    clear own1 gr1
    go_wp2_with fail
    refine (nOp_any 4 1 _).mono ?_
    rintro _ w2 ⟨rfl, f2⟩
    have HL1 := hideP (show IsL cdN (w2.alloc (.cells #[.int .i64 4, .int .i64 1, .int .i64 0, .int .i64 0, .string ⟨#[]⟩, .string ⟨#[]⟩] 28)) (.slice (some ⟨w2.heap.size, 0, none⟩) 1 1) [EV.opN 4 1] from lit_many cdN w2 [EV.opN 4 1] 28)
    have g2 := f2.alloc (.cells #[.int .i64 4, .int .i64 1, .int .i64 0, .int .i64 0, .string ⟨#[]⟩, .string ⟨#[]⟩] 28)
    have HP1 := hideP (own_fr HO1.out g2)
    have G12 := hideP (G11.out.trans g2)
    clear f2 g2 HO1
    go_wp2_with (at_builtin; refine wpList_append_L cdN rfl _ _ 24 28 i0 _ 64 rfl Tryz.underlying24 hi0 hz0 hz1 hz2 rfl (w).heap.size _ l2.length _ rfl HP1.out (.slice (some ⟨w2.heap.size, 0, none⟩) 1 1) [EV.opN 4 1] rfl HL1.out ?c3 ?c4 ?c5 ?_)
    case c3 => unfold maxLen; rw [show [EV.opN 4 1].length = 1 from rfl]; skip; omega
    case c4 => rw [show [EV.opN 4 1].length = 1 from rfl]; skip; omega
    case c5 => exact G12.out.size
    intro v3 w3 own3 gr3
    have G13 := hideP (show Fr (w) w3 from Below.grown G12.out gr3 G12.out.size (own_base HP1.out))
    have o3 : w3.ownsRow (w).heap.size 28 6 v3 N.length (flat cdN N) := by rw [← HN.out, List.length_append]; exact own3
    clear own3
    obtain ⟨na, nc, rfl⟩ := own_slice o3
    have Hn := hideP (show IsL cdN w3 (.slice na N.length nc) N from isL_own (E := cdN) o3)
    have F3 := hideP (G13.out)
    replace HE := hideP (HE.out.fr G13.out)
    clear o3 gr3 HP1 HL1 HB1 G1 G11 G12 G13
    go_wp2_with fail
    have k4 := HF.out w3 _ _ l0 l2 F3.out (HR.out.fr F3.out) HE.out (fun r h => h) (Nat.le_refl _) HOk.out (by omega)
    rw [HX.out] at k4
    refine k4.mono ?_
    clear k4
    rintro _ w4 ⟨rfl, f4⟩
    replace Hn := hideP (Hn.out.fr f4)
    replace HE := hideP (HE.out.fr f4)
    have F4 := hideP (F3.out.trans f4)
    clear f4
    go_wp2_with fail
    have k5 := HF.out w4 _ _ l0 N F4.out (HR.out.fr F4.out) Hn.out (fun r h => h) (Nat.le_refl _) HNok.out (by have := HNl.out; omega)
    rw [HY.out] at k5
    refine k5.mono ?_
    clear k5
    rintro _ w5 ⟨⟨u, rfl, hO⟩, f5⟩
    obtain ⟨ya, yc, rfl⟩ := hO.slice
    have Hy := hideP hO.rows
    replace Hn := hideP (Hn.out.fr f5)
    replace HE := hideP (HE.out.fr f5)
    have F5 := hideP (F4.out.trans f5)
    clear f5 hO
    have HB6 := hideP (Blk.new w5 #[] 28)
    have G6 := hideP ((Fr.refl w5).alloc (.cells #[] 28))
    go_wp2_with (at_builtin; refine wpList_append_L cdN rfl _ _ 24 28 i0 _ 64 rfl Tryz.underlying24 hi0 hz0 hz1 hz2 rfl (w5).heap.size _ 0 [] rfl (own_blk0 HB6.out (Nat.le_refl _)) _ N rfl (Hn.out.fr G6.out) ?c3 ?c4 ?c5 ?_)
    case c3 => unfold maxLen; have := HNl.out; omega
    case c4 => have := HNl.out; omega
    case c5 => exact G6.out.size
    intro v6 w6 own6 gr6
    have G61 := hideP (show Fr (w5) w6 from Below.grown G6.out gr6 G6.out.size (own_base (own_blk0 (B := (w5).heap.size) (k := 6) HB6.out (Nat.le_refl _))))
    have HO6 := hideP (show w6.ownsRow (w5).heap.size 28 6 v6 N.length (flat cdN N) from own6)
    clear own6 gr6
    go_wp2_with fail
    refine (nOp_any 18 1 _).mono ?_
    rintro _ w7 ⟨rfl, f7⟩
    have HL6 := hideP (show IsL cdN (w7.alloc (.cells #[.int .i64 18, .int .i64 1, .int .i64 0, .int .i64 0, .string ⟨#[]⟩, .string ⟨#[]⟩] 28)) (.slice (some ⟨w7.heap.size, 0, none⟩) 1 1) [EV.opN 18 1] from lit_many cdN w7 [EV.opN 18 1] 28)
    have g7 := f7.alloc (.cells #[.int .i64 18, .int .i64 1, .int .i64 0, .int .i64 0, .string ⟨#[]⟩, .string ⟨#[]⟩] 28)
    have HP6 := hideP (own_fr HO6.out g7)
    have G62 := hideP (G61.out.trans g7)
    clear f7 g7 HO6
    go_wp2_with (at_builtin; refine wpList_append_L cdN rfl _ _ 24 28 i0 _ 64 rfl Tryz.underlying24 hi0 hz0 hz1 hz2 rfl (w5).heap.size _ N.length _ rfl HP6.out (.slice (some ⟨w7.heap.size, 0, none⟩) 1 1) [EV.opN 18 1] rfl HL6.out ?c3 ?c4 ?c5 ?_)
    case c3 => unfold maxLen; rw [show [EV.opN 18 1].length = 1 from rfl]; have := HNl.out; omega
    case c4 => rw [show [EV.opN 18 1].length = 1 from rfl]; have := HNl.out; omega
    case c5 => exact G62.out.size
    intro v8 w8 own8 gr8
    have G63 := hideP (show Fr (w5) w8 from Below.grown G62.out gr8 G62.out.size (own_base HP6.out))
    have o8 : w8.ownsRow (w5).heap.size 28 6 v8 I.length (flat cdN I) := by rw [← HI.out, List.length_append]; exact own8
    clear own8
    obtain ⟨ia, ic, rfl⟩ := own_slice o8
    have Hi := hideP (show IsL cdN w8 (.slice ia I.length ic) I from isL_own (E := cdN) o8)
    have F8 := hideP (F5.out.trans G63.out)
    replace Hn := hideP (Hn.out.fr G63.out)
    replace Hy := hideP (Hy.out.fr G63.out)
    clear o8 gr8 HP6 HL6 HB6 G6 G61 G62 G63
    go_wp2_with fail
    have k9 := HF.out w8 _ _ l0 I F8.out (HR.out.fr F8.out) Hi.out (fun r h => h) (Nat.le_refl _) HIok.out (by have := HIl.out; omega)
    rw [HZ.out] at k9
    refine k9.mono ?_
    clear k9
    rintro _ w9 ⟨rfl, f9⟩
    replace Hy := hideP (Hy.out.fr f9)
    have F9 := hideP (F8.out.trans f9)
    clear f9
    go_wp2_with fail
    refine (HBg.out _ F9.out).mono ?_
    rintro _ w10 ⟨rfl, f10⟩
    replace Hy := hideP (Hy.out.fr f10)
    have F10 := hideP (F9.out.trans f10)
    clear f10
    go_wp2_with fail
    go_ret
    exact ⟨rfl, F10.out⟩
   | ok z =>
    have p0 := BG.fil_ne hx
    have p1 : ((c : Int) != 0) = true := by simp; omega
    have p2 : ((c : Int) == 0) = false := by simp; omega
    have HX := hideP hx
    have HY := hideP hy
    have HZ := hideP hz
    clear hx hy hz
    go_enter Tryz.func4, Tryz.ntmps4
    have HB1 := hideP (Blk.new w #[] 28)
    have G1 := hideP ((Fr.refl w).alloc (.cells #[] 28))
    go_wp2_with (at_builtin; refine wpList_append_L cdN rfl _ _ 24 28 i0 _ 64 rfl Tryz.underlying24 hi0 hz0 hz1 hz2 rfl (w).heap.size _ 0 [] rfl (own_blk0 HB1.out (Nat.le_refl _)) _ l2 rfl (HE.out.fr G1.out) ?c3 ?c4 ?c5 ?_)
    case c3 => unfold maxLen; skip; omega
    case c4 => skip; omega
    case c5 => exact G1.out.size
    intro v1 w1 own1 gr1
    have G11 := hideP (show Fr (w) w1 from Below.grown G1.out gr1 G1.out.size (own_base (own_blk0 (B := (w).heap.size) (k := 6) HB1.out (Nat.le_refl _))))
    have HO1 := hideP (show w1.ownsRow (w).heap.size 28 6 v1 l2.length (flat cdN l2) from own1)
    clear own1 gr1
    go_wp2_with fail
    refine (nOp_any 4 1 _).mono ?_
    rintro _ w2 ⟨rfl, f2⟩
    have HL1 := hideP (show IsL cdN (w2.alloc (.cells #[.int .i64 4, .int .i64 1, .int .i64 0, .int .i64 0, .string ⟨#[]⟩, .string ⟨#[]⟩] 28)) (.slice (some ⟨w2.heap.size, 0, none⟩) 1 1) [EV.opN 4 1] from lit_many cdN w2 [EV.opN 4 1] 28)
    have g2 := f2.alloc (.cells #[.int .i64 4, .int .i64 1, .int .i64 0, .int .i64 0, .string ⟨#[]⟩, .string ⟨#[]⟩] 28)
    have HP1 := hideP (own_fr HO1.out g2)
    have G12 := hideP (G11.out.trans g2)
    clear f2 g2 HO1
    go_wp2_with (at_builtin; refine wpList_append_L cdN rfl _ _ 24 28 i0 _ 64 rfl Tryz.underlying24 hi0 hz0 hz1 hz2 rfl (w).heap.size _ l2.length _ rfl HP1.out (.slice (some ⟨w2.heap.size, 0, none⟩) 1 1) [EV.opN 4 1] rfl HL1.out ?c3 ?c4 ?c5 ?_)
    case c3 => unfold maxLen; rw [show [EV.opN 4 1].length = 1 from rfl]; skip; omega
    case c4 => rw [show [EV.opN 4 1].length = 1 from rfl]; skip; omega
    case c5 => exact G12.out.size
    intro v3 w3 own3 gr3
    have G13 := hideP (show Fr (w) w3 from Below.grown G12.out gr3 G12.out.size (own_base HP1.out))
    have o3 : w3.ownsRow (w).heap.size 28 6 v3 N.length (flat cdN N) := by rw [← HN.out, List.length_append]; exact own3
    clear own3
    obtain ⟨na, nc, rfl⟩ := own_slice o3
    have Hn := hideP (show IsL cdN w3 (.slice na N.length nc) N from isL_own (E := cdN) o3)
    have F3 := hideP (G13.out)
    replace HE := hideP (HE.out.fr G13.out)
    clear o3 gr3 HP1 HL1 HB1 G1 G11 G12 G13
    go_wp2_with fail
    have k4 := HF.out w3 _ _ l0 l2 F3.out (HR.out.fr F3.out) HE.out (fun r h => h) (Nat.le_refl _) HOk.out (by omega)
    rw [HX.out] at k4
    refine k4.mono ?_
    clear k4
    rintro _ w4 ⟨rfl, f4⟩
    replace Hn := hideP (Hn.out.fr f4)
    replace HE := hideP (HE.out.fr f4)
    have F4 := hideP (F3.out.trans f4)
    clear f4
    go_wp2_with fail
    have k5 := HF.out w4 _ _ l0 N F4.out (HR.out.fr F4.out) Hn.out (fun r h => h) (Nat.le_refl _) HNok.out (by have := HNl.out; omega)
    rw [HY.out] at k5
    refine k5.mono ?_
    clear k5
    rintro _ w5 ⟨⟨u, rfl, hO⟩, f5⟩
    obtain ⟨ya, yc, rfl⟩ := hO.slice
    have Hy := hideP hO.rows
    replace Hn := hideP (Hn.out.fr f5)
    replace HE := hideP (HE.out.fr f5)
    have F5 := hideP (F4.out.trans f5)
    clear f5 hO
    have HB6 := hideP (Blk.new w5 #[] 28)
    have G6 := hideP ((Fr.refl w5).alloc (.cells #[] 28))
    go_wp2_with (at_builtin; refine wpList_append_L cdN rfl _ _ 24 28 i0 _ 64 rfl Tryz.underlying24 hi0 hz0 hz1 hz2 rfl (w5).heap.size _ 0 [] rfl (own_blk0 HB6.out (Nat.le_refl _)) _ N rfl (Hn.out.fr G6.out) ?c3 ?c4 ?c5 ?_)
    case c3 => unfold maxLen; have := HNl.out; omega
    case c4 => have := HNl.out; omega
    case c5 => exact G6.out.size
    intro v6 w6 own6 gr6
    have G61 := hideP (show Fr (w5) w6 from Below.grown G6.out gr6 G6.out.size (own_base (own_blk0 (B := (w5).heap.size) (k := 6) HB6.out (Nat.le_refl _))))
    have HO6 := hideP (show w6.ownsRow (w5).heap.size 28 6 v6 N.length (flat cdN N) from own6)
    clear own6 gr6
    go_wp2_with fail
    refine (nOp_any 18 1 _).mono ?_
    rintro _ w7 ⟨rfl, f7⟩
    have HL6 := hideP (show IsL cdN (w7.alloc (.cells #[.int .i64 18, .int .i64 1, .int .i64 0, .int .i64 0, .string ⟨#[]⟩, .string ⟨#[]⟩] 28)) (.slice (some ⟨w7.heap.size, 0, none⟩) 1 1) [EV.opN 18 1] from lit_many cdN w7 [EV.opN 18 1] 28)
    have g7 := f7.alloc (.cells #[.int .i64 18, .int .i64 1, .int .i64 0, .int .i64 0, .string ⟨#[]⟩, .string ⟨#[]⟩] 28)
    have HP6 := hideP (own_fr HO6.out g7)
    have G62 := hideP (G61.out.trans g7)
    clear f7 g7 HO6
    go_wp2_with (at_builtin; refine wpList_append_L cdN rfl _ _ 24 28 i0 _ 64 rfl Tryz.underlying24 hi0 hz0 hz1 hz2 rfl (w5).heap.size _ N.length _ rfl HP6.out (.slice (some ⟨w7.heap.size, 0, none⟩) 1 1) [EV.opN 18 1] rfl HL6.out ?c3 ?c4 ?c5 ?_)
    case c3 => unfold maxLen; rw [show [EV.opN 18 1].length = 1 from rfl]; have := HNl.out; omega
    case c4 => rw [show [EV.opN 18 1].length = 1 from rfl]; have := HNl.out; omega
    case c5 => exact G62.out.size
    intro v8 w8 own8 gr8
    have G63 := hideP (show Fr (w5) w8 from Below.grown G62.out gr8 G62.out.size (own_base HP6.out))
    have o8 : w8.ownsRow (w5).heap.size 28 6 v8 I.length (flat cdN I) := by rw [← HI.out, List.length_append]; exact own8
    clear own8
    obtain ⟨ia, ic, rfl⟩ := own_slice o8
    have Hi := hideP (show IsL cdN w8 (.slice ia I.length ic) I from isL_own (E := cdN) o8)
    have F8 := hideP (F5.out.trans G63.out)
    replace Hn := hideP (Hn.out.fr G63.out)
    replace Hy := hideP (Hy.out.fr G63.out)
    clear o8 gr8 HP6 HL6 HB6 G6 G61 G62 G63
    go_wp2_with fail
    have k9 := HF.out w8 _ _ l0 I F8.out (HR.out.fr F8.out) Hi.out (fun r h => h) (Nat.le_refl _) HIok.out (by have := HIl.out; omega)
    rw [HZ.out] at k9
    refine k9.mono ?_
    clear k9
    rintro _ w9 ⟨⟨u, rfl, hO⟩, f9⟩
    obtain ⟨za, zc, rfl⟩ := hO.slice
    have Hz := hideP hO.rows
    replace Hy := hideP (Hy.out.fr f9)
    have F9 := hideP (F8.out.trans f9)
    clear f9 hO
    go_wp2_with fail
    refine (HBg.out _ F9.out).mono ?_
    rintro _ w10 ⟨rfl, f10⟩
    replace Hy := hideP (Hy.out.fr f10)
    replace Hz := hideP (Hz.out.fr f10)
    have F10 := hideP (F9.out.trans f10)
    clear f10
    go_wp2_with fail
    go_ret
    exact ⟨rfl, F10.out⟩
 | ok x =>
  cases hy : BG.fil l0 l1 N with
  | error d =>
   cases hz : BG.fil l0 l1 I with
   | error e =>
    have q0 := BG.fil_ne hy
    have q1 : ((d : Int) != 0) = true := by simp; omega
    have q2 : ((d : Int) == 0) = false := by simp; omega
    have r0 := BG.fil_ne hz
    have r1 : ((e : Int) != 0) = true := by simp; omega
    have r2 : ((e : Int) == 0) = false := by simp; omega
    have HX := hideP hx
    have HY := hideP hy
    have HZ := hideP hz
    clear hx hy hz
    go_enter Tryz.func4, Tryz.ntmps4
    have HB1 := hideP (Blk.new w #[] 28)
    have G1 := hideP ((Fr.refl w).alloc (.cells #[] 28))
    go_wp2_with (at_builtin; refine wpList_append_L cdN rfl _ _ 24 28 i0 _ 64 rfl Tryz.underlying24 hi0 hz0 hz1 hz2 rfl (w).heap.size _ 0 [] rfl (own_blk0 HB1.out (Nat.le_refl _)) _ l2 rfl (HE.out.fr G1.out) ?c3 ?c4 ?c5 ?_)
    case c3 => unfold maxLen; skip; omega
    case c4 => skip; omega
    case c5 => exact G1.out.size
    intro v1 w1 own1 gr1
    have G11 := hideP (show Fr (w) w1 from Below.grown G1.out gr1 G1.out.size (own_base (own_blk0 (B := (w).heap.size) (k := 6) HB1.out (Nat.le_refl _))))
    have HO1 := hideP (show w1.ownsRow (w).heap.size 28 6 v1 l2.length (flat cdN l2) from own1)
    clear own1 gr1
    go_wp2_with fail
    refine (nOp_any 4 1 _).mono ?_
    rintro _ w2 ⟨rfl, f2⟩
    have HL1 := hideP (show IsL cdN (w2.alloc (.cells #[.int .i64 4, .int .i64 1, .int .i64 0, .int .i64 0, .string ⟨#[]⟩, .string ⟨#[]⟩] 28)) (.slice (some ⟨w2.heap.size, 0, none⟩) 1 1) [EV.opN 4 1] from lit_many cdN w2 [EV.opN 4 1] 28)
    have g2 := f2.alloc (.cells #[.int .i64 4, .int .i64 1, .int .i64 0, .int .i64 0, .string ⟨#[]⟩, .string ⟨#[]⟩] 28)
    have HP1 := hideP (own_fr HO1.out g2)
    have G12 := hideP (G11.out.trans g2)
    clear f2 g2 HO1
    go_wp2_with (at_builtin; refine wpList_append_L cdN rfl _ _ 24 28 i0 _ 64 rfl Tryz.underlying24 hi0 hz0 hz1 hz2 rfl (w).heap.size _ l2.length _ rfl HP1.out (.slice (some ⟨w2.heap.size, 0, none⟩) 1 1) [EV.opN 4 1] rfl HL1.out ?c3 ?c4 ?c5 ?_)
    case c3 => unfold maxLen; rw [show [EV.opN 4 1].length = 1 from rfl]; skip; omega
    case c4 => rw [show [EV.opN 4 1].length = 1 from rfl]; skip; omega
    case c5 => exact G12.out.size
    intro v3 w3 own3 gr3
    have G13 := hideP (show Fr (w) w3 from Below.grown G12.out gr3 G12.out.size (own_base HP1.out))
    have o3 : w3.ownsRow (w).heap.size 28 6 v3 N.length (flat cdN N) := by rw [← HN.out, List.length_append]; exact own3
    clear own3
    obtain ⟨na, nc, rfl⟩ := own_slice o3
    have Hn := hideP (show IsL cdN w3 (.slice na N.length nc) N from isL_own (E := cdN) o3)
    have F3 := hideP (G13.out)
    replace HE := hideP (HE.out.fr G13.out)
    clear o3 gr3 HP1 HL1 HB1 G1 G11 G12 G13
    go_wp2_with fail
    have k4 := HF.out w3 _ _ l0 l2 F3.out (HR.out.fr F3.out) HE.out (fun r h => h) (Nat.le_refl _) HOk.out (by omega)
    rw [HX.out] at k4
    refine k4.mono ?_
    clear k4
    rintro _ w4 ⟨⟨u, rfl, hO⟩, f4⟩
    obtain ⟨xa, xc, rfl⟩ := hO.slice
    have Hx := hideP hO.rows
    replace Hn := hideP (Hn.out.fr f4)
    replace HE := hideP (HE.out.fr f4)
    have F4 := hideP (F3.out.trans f4)
    clear f4 hO
    go_wp2_with fail
    have k5 := HF.out w4 _ _ l0 N F4.out (HR.out.fr F4.out) Hn.out (fun r h => h) (Nat.le_refl _) HNok.out (by have := HNl.out; omega)
    rw [HY.out] at k5
    refine k5.mono ?_
    clear k5
    rintro _ w5 ⟨rfl, f5⟩
    replace Hn := hideP (Hn.out.fr f5)
    replace HE := hideP (HE.out.fr f5)
    replace Hx := hideP (Hx.out.fr f5)
    have F5 := hideP (F4.out.trans f5)
    clear f5
    have HB6 := hideP (Blk.new w5 #[] 28)
    have G6 := hideP ((Fr.refl w5).alloc (.cells #[] 28))
    go_wp2_with (at_builtin; refine wpList_append_L cdN rfl _ _ 24 28 i0 _ 64 rfl Tryz.underlying24 hi0 hz0 hz1 hz2 rfl (w5).heap.size _ 0 [] rfl (own_blk0 HB6.out (Nat.le_refl _)) _ N rfl (Hn.out.fr G6.out) ?c3 ?c4 ?c5 ?_)
    case c3 => unfold maxLen; have := HNl.out; omega
    case c4 => have := HNl.out; omega
    case c5 => exact G6.out.size
    intro v6 w6 own6 gr6
    have G61 := hideP (show Fr (w5) w6 from Below.grown G6.out gr6 G6.out.size (own_base (own_blk0 (B := (w5).heap.size) (k := 6) HB6.out (Nat.le_refl _))))
    have HO6 := hideP (show w6.ownsRow (w5).heap.size 28 6 v6 N.length (flat cdN N) from own6)
    clear own6 gr6
    go_wp2_with fail
    refine (nOp_any 18 1 _).mono ?_
    rintro _ w7 ⟨rfl, f7⟩
    have HL6 := hideP (show IsL cdN (w7.alloc (.cells #[.int .i64 18, .int .i64 1, .int .i64 0, .int .i64 0, .string ⟨#[]⟩, .string ⟨#[]⟩] 28)) (.slice (some ⟨w7.heap.size, 0, none⟩) 1 1) [EV.opN 18 1] from lit_many cdN w7 [EV.opN 18 1] 28)
    have g7 := f7.alloc (.cells #[.int .i64 18, .int .i64 1, .int .i64 0, .int .i64 0, .string ⟨#[]⟩, .string ⟨#[]⟩] 28)
    have HP6 := hideP (own_fr HO6.out g7)
    have G62 := hideP (G61.out.trans g7)
    clear f7 g7 HO6
    go_wp2_with (at_builtin; refine wpList_append_L cdN rfl _ _ 24 28 i0 _ 64 rfl Tryz.underlying24 hi0 hz0 hz1 hz2 rfl (w5).heap.size _ N.length _ rfl HP6.out (.slice (some ⟨w7.heap.size, 0, none⟩) 1 1) [EV.opN 18 1] rfl HL6.out ?c3 ?c4 ?c5 ?_)
    case c3 => unfold maxLen; rw [show [EV.opN 18 1].length = 1 from rfl]; have := HNl.out; omega
    case c4 => rw [show [EV.opN 18 1].length = 1 from rfl]; have := HNl.out; omega
    case c5 => exact G62.out.size
    intro v8 w8 own8 gr8
    have G63 := hideP (show Fr (w5) w8 from Below.grown G62.out gr8 G62.out.size (own_base HP6.out))
    have o8 : w8.ownsRow (w5).heap.size 28 6 v8 I.length (flat cdN I) := by rw [← HI.out, List.length_append]; exact own8
    clear own8
    obtain ⟨ia, ic, rfl⟩ := own_slice o8
    have Hi := hideP (show IsL cdN w8 (.slice ia I.length ic) I from isL_own (E := cdN) o8)
    have F8 := hideP (F5.out.trans G63.out)
    replace Hn := hideP (Hn.out.fr G63.out)
    replace Hx := hideP (Hx.out.fr G63.out)
    clear o8 gr8 HP6 HL6 HB6 G6 G61 G62 G63
    go_wp2_with fail
    have k9 := HF.out w8 _ _ l0 I F8.out (HR.out.fr F8.out) Hi.out (fun r h => h) (Nat.le_refl _) HIok.out (by have := HIl.out; omega)
    rw [HZ.out] at k9
    refine k9.mono ?_
    clear k9
    rintro _ w9 ⟨rfl, f9⟩
    replace Hx := hideP (Hx.out.fr f9)
    have F9 := hideP (F8.out.trans f9)
    clear f9
    go_wp2_with fail
    refine (HBg.out _ F9.out).mono ?_
    rintro _ w10 ⟨rfl, f10⟩
    replace Hx := hideP (Hx.out.fr f10)
    have F10 := hideP (F9.out.trans f10)
    clear f10
    go_wp2_with fail
    go_ret
    exact ⟨rfl, F10.out⟩
   | ok z =>
    have q0 := BG.fil_ne hy
    have q1 : ((d : Int) != 0) = true := by simp; omega
    have q2 : ((d : Int) == 0) = false := by simp; omega
    have HX := hideP hx
    have HY := hideP hy
    have HZ := hideP hz
    clear hx hy hz
    go_enter Tryz.func4, Tryz.ntmps4
    have HB1 := hideP (Blk.new w #[] 28)
    have G1 := hideP ((Fr.refl w).alloc (.cells #[] 28))
    go_wp2_with (at_builtin; refine wpList_append_L cdN rfl _ _ 24 28 i0 _ 64 rfl Tryz.underlying24 hi0 hz0 hz1 hz2 rfl (w).heap.size _ 0 [] rfl (own_blk0 HB1.out (Nat.le_refl _)) _ l2 rfl (HE.out.fr G1.out) ?c3 ?c4 ?c5 ?_)
    case c3 => unfold maxLen; skip; omega
    case c4 => skip; omega
    case c5 => exact G1.out.size
    intro v1 w1 own1 gr1
    have G11 := hideP (show Fr (w) w1 from Below.grown G1.out gr1 G1.out.size (own_base (own_blk0 (B := (w).heap.size) (k := 6) HB1.out (Nat.le_refl _))))
    have HO1 := hideP (show w1.ownsRow (w).heap.size 28 6 v1 l2.length (flat cdN l2) from own1)
    clear own1 gr1
    go_wp2_with fail
    refine (nOp_any 4 1 _).mono ?_
    rintro _ w2 ⟨rfl, f2⟩
    have HL1 := hideP (show IsL cdN (w2.alloc (.cells #[.int .i64 4, .int .i64 1, .int .i64 0, .int .i64 0, .string ⟨#[]⟩, .string ⟨#[]⟩] 28)) (.slice (some ⟨w2.heap.size, 0, none⟩) 1 1) [EV.opN 4 1] from lit_many cdN w2 [EV.opN 4 1] 28)
    have g2 := f2.alloc (.cells #[.int .i64 4, .int .i64 1, .int .i64 0, .int .i64 0, .string ⟨#[]⟩, .string ⟨#[]⟩] 28)
    have HP1 := hideP (own_fr HO1.out g2)
    have G12 := hideP (G11.out.trans g2)
    clear f2 g2 HO1
    go_wp2_with (at_builtin; refine wpList_append_L cdN rfl _ _ 24 28 i0 _ 64 rfl Tryz.underlying24 hi0 hz0 hz1 hz2 rfl (w).heap.size _ l2.length _ rfl HP1.out (.slice (some ⟨w2.heap.size, 0, none⟩) 1 1) [EV.opN 4 1] rfl HL1.out ?c3 ?c4 ?c5 ?_)
    case c3 => unfold maxLen; rw [show [EV.opN 4 1].length = 1 from rfl]; skip; omega
    case c4 => rw [show [EV.opN 4 1].length = 1 from rfl]; skip; omega
    case c5 => exact G12.out.size
    intro v3 w3 own3 gr3
    have G13 := hideP (show Fr (w) w3 from Below.grown G12.out gr3 G12.out.size (own_base HP1.out))
    have o3 : w3.ownsRow (w).heap.size 28 6 v3 N.length (flat cdN N) := by rw [← HN.out, List.length_append]; exact own3
    clear own3
    obtain ⟨na, nc, rfl⟩ := own_slice o3
    have Hn := hideP (show IsL cdN w3 (.slice na N.length nc) N from isL_own (E := cdN) o3)
    have F3 := hideP (G13.out)
    replace HE := hideP (HE.out.fr G13.out)
    clear o3 gr3 HP1 HL1 HB1 G1 G11 G12 G13
    go_wp2_with fail
    have k4 := HF.out w3 _ _ l0 l2 F3.out (HR.out.fr F3.out) HE.out (fun r h => h) (Nat.le_refl _) HOk.out (by omega)
    rw [HX.out] at k4
    refine k4.mono ?_
    clear k4
    rintro _ w4 ⟨⟨u, rfl, hO⟩, f4⟩
    obtain ⟨xa, xc, rfl⟩ := hO.slice
    have Hx := hideP hO.rows
    replace Hn := hideP (Hn.out.fr f4)
    replace HE := hideP (HE.out.fr f4)
    have F4 := hideP (F3.out.trans f4)
    clear f4 hO
    go_wp2_with fail
    have k5 := HF.out w4 _ _ l0 N F4.out (HR.out.fr F4.out) Hn.out (fun r h => h) (Nat.le_refl _) HNok.out (by have := HNl.out; omega)
    rw [HY.out] at k5
    refine k5.mono ?_
    clear k5
    rintro _ w5 ⟨rfl, f5⟩
    replace Hn := hideP (Hn.out.fr f5)
    replace HE := hideP (HE.out.fr f5)
    replace Hx := hideP (Hx.out.fr f5)
    have F5 := hideP (F4.out.trans f5)
    clear f5
    have HB6 := hideP (Blk.new w5 #[] 28)
    have G6 := hideP ((Fr.refl w5).alloc (.cells #[] 28))
    go_wp2_with (at_builtin; refine wpList_append_L cdN rfl _ _ 24 28 i0 _ 64 rfl Tryz.underlying24 hi0 hz0 hz1 hz2 rfl (w5).heap.size _ 0 [] rfl (own_blk0 HB6.out (Nat.le_refl _)) _ N rfl (Hn.out.fr G6.out) ?c3 ?c4 ?c5 ?_)
    case c3 => unfold maxLen; have := HNl.out; omega
    case c4 => have := HNl.out; omega
    case c5 => exact G6.out.size
    intro v6 w6 own6 gr6
    have G61 := hideP (show Fr (w5) w6 from Below.grown G6.out gr6 G6.out.size (own_base (own_blk0 (B := (w5).heap.size) (k := 6) HB6.out (Nat.le_refl _))))
    have HO6 := hideP (show w6.ownsRow (w5).heap.size 28 6 v6 N.length (flat cdN N) from own6)
    clear own6 gr6
    go_wp2_with fail
    refine (nOp_any 18 1 _).mono ?_
    rintro _ w7 ⟨rfl, f7⟩
    have HL6 := hideP (show IsL cdN (w7.alloc (.cells #[.int .i64 18, .int .i64 1, .int .i64 0, .int .i64 0, .string ⟨#[]⟩, .string ⟨#[]⟩] 28)) (.slice (some ⟨w7.heap.size, 0, none⟩) 1 1) [EV.opN 18 1] from lit_many cdN w7 [EV.opN 18 1] 28)
    have g7 := f7.alloc (.cells #[.int .i64 18, .int .i64 1, .int .i64 0, .int .i64 0, .string ⟨#[]⟩, .string ⟨#[]⟩] 28)
    have HP6 := hideP (own_fr HO6.out g7)
    have G62 := hideP (G61.out.trans g7)
    clear f7 g7 HO6
    go_wp2_with (at_builtin; refine wpList_append_L cdN rfl _ _ 24 28 i0 _ 64 rfl Tryz.underlying24 hi0 hz0 hz1 hz2 rfl (w5).heap.size _ N.length _ rfl HP6.out (.slice (some ⟨w7.heap.size, 0, none⟩) 1 1) [EV.opN 18 1] rfl HL6.out ?c3 ?c4 ?c5 ?_)
    case c3 => unfold maxLen; rw [show [EV.opN 18 1].length = 1 from rfl]; have := HNl.out; omega
    case c4 => rw [show [EV.opN 18 1].length = 1 from rfl]; have := HNl.out; omega
    case c5 => exact G62.out.size
    intro v8 w8 own8 gr8
    have G63 := hideP (show Fr (w5) w8 from Below.grown G62.out gr8 G62.out.size (own_base HP6.out))
    have o8 : w8.ownsRow (w5).heap.size 28 6 v8 I.length (flat cdN I) := by rw [← HI.out, List.length_append]; exact own8
    clear own8
    obtain ⟨ia, ic, rfl⟩ := own_slice o8
    have Hi := hideP (show IsL cdN w8 (.slice ia I.length ic) I from isL_own (E := cdN) o8)
    have F8 := hideP (F5.out.trans G63.out)
    replace Hn := hideP (Hn.out.fr G63.out)
    replace Hx := hideP (Hx.out.fr G63.out)
    clear o8 gr8 HP6 HL6 HB6 G6 G61 G62 G63
    go_wp2_with fail
    have k9 := HF.out w8 _ _ l0 I F8.out (HR.out.fr F8.out) Hi.out (fun r h => h) (Nat.le_refl _) HIok.out (by have := HIl.out; omega)
    rw [HZ.out] at k9
    refine k9.mono ?_
    clear k9
    rintro _ w9 ⟨⟨u, rfl, hO⟩, f9⟩
    obtain ⟨za, zc, rfl⟩ := hO.slice
    have Hz := hideP hO.rows
    replace Hx := hideP (Hx.out.fr f9)
    have F9 := hideP (F8.out.trans f9)
    clear f9 hO
    go_wp2_with fail
    refine (HBg.out _ F9.out).mono ?_
    rintro _ w10 ⟨rfl, f10⟩
    replace Hx := hideP (Hx.out.fr f10)
    replace Hz := hideP (Hz.out.fr f10)
    have F10 := hideP (F9.out.trans f10)
    clear f10
    go_wp2_with fail
    go_ret
    exact ⟨rfl, F10.out⟩
  | ok y =>
   cases hz : BG.fil l0 l1 I with
   | error e =>
    have r0 := BG.fil_ne hz
    have r1 : ((e : Int) != 0) = true := by simp; omega
    have r2 : ((e : Int) == 0) = false := by simp; omega
    have HX := hideP hx
    have HY := hideP hy
    have HZ := hideP hz
    clear hx hy hz
    go_enter Tryz.func4, Tryz.ntmps4
    have HB1 := hideP (Blk.new w #[] 28)
    have G1 := hideP ((Fr.refl w).alloc (.cells #[] 28))
    go_wp2_with (at_builtin; refine wpList_append_L cdN rfl _ _ 24 28 i0 _ 64 rfl Tryz.underlying24 hi0 hz0 hz1 hz2 rfl (w).heap.size _ 0 [] rfl (own_blk0 HB1.out (Nat.le_refl _)) _ l2 rfl (HE.out.fr G1.out) ?c3 ?c4 ?c5 ?_)
    case c3 => unfold maxLen; skip; omega
    case c4 => skip; omega
    case c5 => exact G1.out.size
    intro v1 w1 own1 gr1
    have G11 := hideP (show Fr (w) w1 from Below.grown G1.out gr1 G1.out.size (own_base (own_blk0 (B := (w).heap.size) (k := 6) HB1.out (Nat.le_refl _))))
    have HO1 := hideP (show w1.ownsRow (w).heap.size 28 6 v1 l2.length (flat cdN l2) from own1)
    clear own1 gr1
    go_wp2_with fail
    refine (nOp_any 4 1 _).mono ?_
    rintro _ w2 ⟨rfl, f2⟩
    have HL1 := hideP (show IsL cdN (w2.alloc (.cells #[.int .i64 4, .int .i64 1, .int .i64 0, .int .i64 0, .string ⟨#[]⟩, .string ⟨#[]⟩] 28)) (.slice (some ⟨w2.heap.size, 0, none⟩) 1 1) [EV.opN 4 1] from lit_many cdN w2 [EV.opN 4 1] 28)
    have g2 := f2.alloc (.cells #[.int .i64 4, .int .i64 1, .int .i64 0, .int .i64 0, .string ⟨#[]⟩, .string ⟨#[]⟩] 28)
    have HP1 := hideP (own_fr HO1.out g2)
    have G12 := hideP (G11.out.trans g2)
    clear f2 g2 HO1
    go_wp2_with (at_builtin; refine wpList_append_L cdN rfl _ _ 24 28 i0 _ 64 rfl Tryz.underlying24 hi0 hz0 hz1 hz2 rfl (w).heap.size _ l2.length _ rfl HP1.out (.slice (some ⟨w2.heap.size, 0, none⟩) 1 1) [EV.opN 4 1] rfl HL1.out ?c3 ?c4 ?c5 ?_)
    case c3 => unfold maxLen; rw [show [EV.opN 4 1].length = 1 from rfl]; skip; omega
    case c4 => rw [show [EV.opN 4 1].length = 1 from rfl]; skip; omega
    case c5 => exact G12.out.size
    intro v3 w3 own3 gr3
    have G13 := hideP (show Fr (w) w3 from Below.grown G12.out gr3 G12.out.size (own_base HP1.out))
    have o3 : w3.ownsRow (w).heap.size 28 6 v3 N.length (flat cdN N) := by rw [← HN.out, List.length_append]; exact own3
    clear own3
    obtain ⟨na, nc, rfl⟩ := own_slice o3
    have Hn := hideP (show IsL cdN w3 (.slice na N.length nc) N from isL_own (E := cdN) o3)
    have F3 := hideP (G13.out)
    replace HE := hideP (HE.out.fr G13.out)
    clear o3 gr3 HP1 HL1 HB1 G1 G11 G12 G13
    go_wp2_with fail
    have k4 := HF.out w3 _ _ l0 l2 F3.out (HR.out.fr F3.out) HE.out (fun r h => h) (Nat.le_refl _) HOk.out (by omega)
    rw [HX.out] at k4
    refine k4.mono ?_
    clear k4
    rintro _ w4 ⟨⟨u, rfl, hO⟩, f4⟩
    obtain ⟨xa, xc, rfl⟩ := hO.slice
    have Hx := hideP hO.rows
    replace Hn := hideP (Hn.out.fr f4)
    replace HE := hideP (HE.out.fr f4)
    have F4 := hideP (F3.out.trans f4)
    clear f4 hO
    go_wp2_with fail
    have k5 := HF.out w4 _ _ l0 N F4.out (HR.out.fr F4.out) Hn.out (fun r h => h) (Nat.le_refl _) HNok.out (by have := HNl.out; omega)
    rw [HY.out] at k5
    refine k5.mono ?_
    clear k5
    rintro _ w5 ⟨⟨u, rfl, hO⟩, f5⟩
    obtain ⟨ya, yc, rfl⟩ := hO.slice
    have Hy := hideP hO.rows
    replace Hn := hideP (Hn.out.fr f5)
    replace HE := hideP (HE.out.fr f5)
    replace Hx := hideP (Hx.out.fr f5)
    have F5 := hideP (F4.out.trans f5)
    clear f5 hO
    have HB6 := hideP (Blk.new w5 #[] 28)
    have G6 := hideP ((Fr.refl w5).alloc (.cells #[] 28))
    go_wp2_with (at_builtin; refine wpList_append_L cdN rfl _ _ 24 28 i0 _ 64 rfl Tryz.underlying24 hi0 hz0 hz1 hz2 rfl (w5).heap.size _ 0 [] rfl (own_blk0 HB6.out (Nat.le_refl _)) _ N rfl (Hn.out.fr G6.out) ?c3 ?c4 ?c5 ?_)
    case c3 => unfold maxLen; have := HNl.out; omega
    case c4 => have := HNl.out; omega
    case c5 => exact G6.out.size
    intro v6 w6 own6 gr6
    have G61 := hideP (show Fr (w5) w6 from Below.grown G6.out gr6 G6.out.size (own_base (own_blk0 (B := (w5).heap.size) (k := 6) HB6.out (Nat.le_refl _))))
    have HO6 := hideP (show w6.ownsRow (w5).heap.size 28 6 v6 N.length (flat cdN N) from own6)
    clear own6 gr6
    go_wp2_with fail
    refine (nOp_any 18 1 _).mono ?_
    rintro _ w7 ⟨rfl, f7⟩
    have HL6 := hideP (show IsL cdN (w7.alloc (.cells #[.int .i64 18, .int .i64 1, .int .i64 0, .int .i64 0, .string ⟨#[]⟩, .string ⟨#[]⟩] 28)) (.slice (some ⟨w7.heap.size, 0, none⟩) 1 1) [EV.opN 18 1] from lit_many cdN w7 [EV.opN 18 1] 28)
    have g7 := f7.alloc (.cells #[.int .i64 18, .int .i64 1, .int .i64 0, .int .i64 0, .string ⟨#[]⟩, .string ⟨#[]⟩] 28)
    have HP6 := hideP (own_fr HO6.out g7)
    have G62 := hideP (G61.out.trans g7)
    clear f7 g7 HO6
    go_wp2_with (at_builtin; refine wpList_append_L cdN rfl _ _ 24 28 i0 _ 64 rfl Tryz.underlying24 hi0 hz0 hz1 hz2 rfl (w5).heap.size _ N.length _ rfl HP6.out (.slice (some ⟨w7.heap.size, 0, none⟩) 1 1) [EV.opN 18 1] rfl HL6.out ?c3 ?c4 ?c5 ?_)
    case c3 => unfold maxLen; rw [show [EV.opN 18 1].length = 1 from rfl]; have := HNl.out; omega
    case c4 => rw [show [EV.opN 18 1].length = 1 from rfl]; have := HNl.out; omega
    case c5 => exact G62.out.size
    intro v8 w8 own8 gr8
    have G63 := hideP (show Fr (w5) w8 from Below.grown G62.out gr8 G62.out.size (own_base HP6.out))
    have o8 : w8.ownsRow (w5).heap.size 28 6 v8 I.length (flat cdN I) := by rw [← HI.out, List.length_append]; exact own8
    clear own8
    obtain ⟨ia, ic, rfl⟩ := own_slice o8
    have Hi := hideP (show IsL cdN w8 (.slice ia I.length ic) I from isL_own (E := cdN) o8)
    have F8 := hideP (F5.out.trans G63.out)
    replace Hn := hideP (Hn.out.fr G63.out)
    replace Hx := hideP (Hx.out.fr G63.out)
    replace Hy := hideP (Hy.out.fr G63.out)
    clear o8 gr8 HP6 HL6 HB6 G6 G61 G62 G63
    go_wp2_with fail
    have k9 := HF.out w8 _ _ l0 I F8.out (HR.out.fr F8.out) Hi.out (fun r h => h) (Nat.le_refl _) HIok.out (by have := HIl.out; omega)
    rw [HZ.out] at k9
    refine k9.mono ?_
    clear k9
    rintro _ w9 ⟨rfl, f9⟩
    replace Hx := hideP (Hx.out.fr f9)
    replace Hy := hideP (Hy.out.fr f9)
    have F9 := hideP (F8.out.trans f9)
    clear f9
    go_wp2_with fail
    refine (HBg.out _ F9.out).mono ?_
    rintro _ w10 ⟨rfl, f10⟩
    replace Hx := hideP (Hx.out.fr f10)
    replace Hy := hideP (Hy.out.fr f10)
    have F10 := hideP (F9.out.trans f10)
    clear f10
    go_wp2_with fail
    go_ret
    exact ⟨rfl, F10.out⟩
   | ok z =>
    have hper := BG.fil_three hx (by rw [HN.out]; exact hy) (by rw [HN.out, HI.out]; exact hz)
    have h40 := BG.chk_all (BG.fil_iff.1 hx).1
    have hlen := hper.length_eq
    rw [List.length_append, List.length_append] at hlen
    have HLe := hideP hlen
    have HPe := hideP hper
    have H40 := hideP h40.1
    have hs : (((x.length : Int) + (y.length : Int) + (z.length : Int)) == (l0.length : Int)) = true := by simp; omega
    have hs2 : (x.length : Int) + (y.length : Int) + (z.length : Int) = (l0.length : Int) := by omega
    have hs3 : (x.length : Int) ≤ 40 := by have := h40.1; omega
    have hs4 : (y.length : Int) ≤ 40 := by have := h40.1; omega
    have hs5 : (z.length : Int) ≤ 40 := by have := h40.1; omega
    obtain ⟨Q, hQ⟩ : ∃ Q, x ++ y = Q := ⟨_, rfl⟩
    obtain ⟨S, hS⟩ : ∃ S, Q ++ z = S := ⟨_, rfl⟩
    rw [hQ, hS] at HPe
    have HQl := hideP (show Q.length = x.length + y.length by rw [← hQ, List.length_append])
    have HQe := hideP hQ
    have HSe := hideP hS
    clear hper hlen h40 hQ hS
    have HX := hideP hx
    have HY := hideP hy
    have HZ := hideP hz
    clear hx hy hz
    go_enter Tryz.func4, Tryz.ntmps4
    have HB1 := hideP (Blk.new w #[] 28)
    have G1 := hideP ((Fr.refl w).alloc (.cells #[] 28))
    go_wp2_with (at_builtin; refine wpList_append_L cdN rfl _ _ 24 28 i0 _ 64 rfl Tryz.underlying24 hi0 hz0 hz1 hz2 rfl (w).heap.size _ 0 [] rfl (own_blk0 HB1.out (Nat.le_refl _)) _ l2 rfl (HE.out.fr G1.out) ?c3 ?c4 ?c5 ?_)
    case c3 => unfold maxLen; skip; omega
    case c4 => skip; omega
    case c5 => exact G1.out.size
    intro v1 w1 own1 gr1
    have G11 := hideP (show Fr (w) w1 from Below.grown G1.out gr1 G1.out.size (own_base (own_blk0 (B := (w).heap.size) (k := 6) HB1.out (Nat.le_refl _))))
    have HO1 := hideP (show w1.ownsRow (w).heap.size 28 6 v1 l2.length (flat cdN l2) from own1)
    clear own1 gr1
    go_wp2_with fail
    refine (nOp_any 4 1 _).mono ?_
    rintro _ w2 ⟨rfl, f2⟩
    have HL1 := hideP (show IsL cdN (w2.alloc (.cells #[.int .i64 4, .int .i64 1, .int .i64 0, .int .i64 0, .string ⟨#[]⟩, .string ⟨#[]⟩] 28)) (.slice (some ⟨w2.heap.size, 0, none⟩) 1 1) [EV.opN 4 1] from lit_many cdN w2 [EV.opN 4 1] 28)
    have g2 := f2.alloc (.cells #[.int .i64 4, .int .i64 1, .int .i64 0, .int .i64 0, .string ⟨#[]⟩, .string ⟨#[]⟩] 28)
    have HP1 := hideP (own_fr HO1.out g2)
    have G12 := hideP (G11.out.trans g2)
    clear f2 g2 HO1
    go_wp2_with (at_builtin; refine wpList_append_L cdN rfl _ _ 24 28 i0 _ 64 rfl Tryz.underlying24 hi0 hz0 hz1 hz2 rfl (w).heap.size _ l2.length _ rfl HP1.out (.slice (some ⟨w2.heap.size, 0, none⟩) 1 1) [EV.opN 4 1] rfl HL1.out ?c3 ?c4 ?c5 ?_)
    case c3 => unfold maxLen; rw [show [EV.opN 4 1].length = 1 from rfl]; skip; omega
    case c4 => rw [show [EV.opN 4 1].length = 1 from rfl]; skip; omega
    case c5 => exact G12.out.size
    intro v3 w3 own3 gr3
    have G13 := hideP (show Fr (w) w3 from Below.grown G12.out gr3 G12.out.size (own_base HP1.out))
    have o3 : w3.ownsRow (w).heap.size 28 6 v3 N.length (flat cdN N) := by rw [← HN.out, List.length_append]; exact own3
    clear own3
    obtain ⟨na, nc, rfl⟩ := own_slice o3
    have Hn := hideP (show IsL cdN w3 (.slice na N.length nc) N from isL_own (E := cdN) o3)
    have F3 := hideP (G13.out)
    replace HE := hideP (HE.out.fr G13.out)
    clear o3 gr3 HP1 HL1 HB1 G1 G11 G12 G13
    go_wp2_with fail
    have k4 := HF.out w3 _ _ l0 l2 F3.out (HR.out.fr F3.out) HE.out (fun r h => h) (Nat.le_refl _) HOk.out (by omega)
    rw [HX.out] at k4
    refine k4.mono ?_
    clear k4
    rintro _ w4 ⟨⟨u, rfl, hO⟩, f4⟩
    obtain ⟨xa, xc, rfl⟩ := hO.slice
    have Hx := hideP hO.rows
    replace Hn := hideP (Hn.out.fr f4)
    replace HE := hideP (HE.out.fr f4)
    have F4 := hideP (F3.out.trans f4)
    clear f4 hO
    go_wp2_with fail
    have k5 := HF.out w4 _ _ l0 N F4.out (HR.out.fr F4.out) Hn.out (fun r h => h) (Nat.le_refl _) HNok.out (by have := HNl.out; omega)
    rw [HY.out] at k5
    refine k5.mono ?_
    clear k5
    rintro _ w5 ⟨⟨u, rfl, hO⟩, f5⟩
    obtain ⟨ya, yc, rfl⟩ := hO.slice
    have Hy := hideP hO.rows
    replace Hn := hideP (Hn.out.fr f5)
    replace HE := hideP (HE.out.fr f5)
    replace Hx := hideP (Hx.out.fr f5)
    have F5 := hideP (F4.out.trans f5)
    clear f5 hO
    have HB6 := hideP (Blk.new w5 #[] 28)
    have G6 := hideP ((Fr.refl w5).alloc (.cells #[] 28))
    go_wp2_with (at_builtin; refine wpList_append_L cdN rfl _ _ 24 28 i0 _ 64 rfl Tryz.underlying24 hi0 hz0 hz1 hz2 rfl (w5).heap.size _ 0 [] rfl (own_blk0 HB6.out (Nat.le_refl _)) _ N rfl (Hn.out.fr G6.out) ?c3 ?c4 ?c5 ?_)
    case c3 => unfold maxLen; have := HNl.out; omega
    case c4 => have := HNl.out; omega
    case c5 => exact G6.out.size
    intro v6 w6 own6 gr6
    have G61 := hideP (show Fr (w5) w6 from Below.grown G6.out gr6 G6.out.size (own_base (own_blk0 (B := (w5).heap.size) (k := 6) HB6.out (Nat.le_refl _))))
    have HO6 := hideP (show w6.ownsRow (w5).heap.size 28 6 v6 N.length (flat cdN N) from own6)
    clear own6 gr6
    go_wp2_with fail
    refine (nOp_any 18 1 _).mono ?_
    rintro _ w7 ⟨rfl, f7⟩
    have HL6 := hideP (show IsL cdN (w7.alloc (.cells #[.int .i64 18, .int .i64 1, .int .i64 0, .int .i64 0, .string ⟨#[]⟩, .string ⟨#[]⟩] 28)) (.slice (some ⟨w7.heap.size, 0, none⟩) 1 1) [EV.opN 18 1] from lit_many cdN w7 [EV.opN 18 1] 28)
    have g7 := f7.alloc (.cells #[.int .i64 18, .int .i64 1, .int .i64 0, .int .i64 0, .string ⟨#[]⟩, .string ⟨#[]⟩] 28)
    have HP6 := hideP (own_fr HO6.out g7)
    have G62 := hideP (G61.out.trans g7)
    clear f7 g7 HO6
    go_wp2_with (at_builtin; refine wpList_append_L cdN rfl _ _ 24 28 i0 _ 64 rfl Tryz.underlying24 hi0 hz0 hz1 hz2 rfl (w5).heap.size _ N.length _ rfl HP6.out (.slice (some ⟨w7.heap.size, 0, none⟩) 1 1) [EV.opN 18 1] rfl HL6.out ?c3 ?c4 ?c5 ?_)
    case c3 => unfold maxLen; rw [show [EV.opN 18 1].length = 1 from rfl]; have := HNl.out; omega
    case c4 => rw [show [EV.opN 18 1].length = 1 from rfl]; have := HNl.out; omega
    case c5 => exact G62.out.size
    intro v8 w8 own8 gr8
    have G63 := hideP (show Fr (w5) w8 from Below.grown G62.out gr8 G62.out.size (own_base HP6.out))
    have o8 : w8.ownsRow (w5).heap.size 28 6 v8 I.length (flat cdN I) := by rw [← HI.out, List.length_append]; exact own8
    clear own8
    obtain ⟨ia, ic, rfl⟩ := own_slice o8
    have Hi := hideP (show IsL cdN w8 (.slice ia I.length ic) I from isL_own (E := cdN) o8)
    have F8 := hideP (F5.out.trans G63.out)
    replace Hn := hideP (Hn.out.fr G63.out)
    replace Hx := hideP (Hx.out.fr G63.out)
    replace Hy := hideP (Hy.out.fr G63.out)
    clear o8 gr8 HP6 HL6 HB6 G6 G61 G62 G63
    go_wp2_with fail
    have k9 := HF.out w8 _ _ l0 I F8.out (HR.out.fr F8.out) Hi.out (fun r h => h) (Nat.le_refl _) HIok.out (by have := HIl.out; omega)
    rw [HZ.out] at k9
    refine k9.mono ?_
    clear k9
    rintro _ w9 ⟨⟨u, rfl, hO⟩, f9⟩
    obtain ⟨za, zc, rfl⟩ := hO.slice
    have Hz := hideP hO.rows
    replace Hx := hideP (Hx.out.fr f9)
    replace Hy := hideP (Hy.out.fr f9)
    have F9 := hideP (F8.out.trans f9)
    clear f9 hO
    go_wp2_with fail
    refine (HBg.out _ F9.out).mono ?_
    rintro _ w10 ⟨rfl, f10⟩
    replace Hx := hideP (Hx.out.fr f10)
    replace Hy := hideP (Hy.out.fr f10)
    replace Hz := hideP (Hz.out.fr f10)
    have F10 := hideP (F9.out.trans f10)
    clear f10
    go_wp2_with fail
    refine (together_any _ _ x y w10 Hx.out Hy.out (by have := H40.out; have := HLe.out; omega)).mono ?_
    rintro _ w11 ⟨⟨u, rfl, hT⟩, f11⟩
    rw [HQe.out] at hT
    obtain ⟨ta, tc, rfl⟩ := hT.slice
    have HT := hideP hT
    replace Hz := hideP (Hz.out.fr f11)
    have F11 := hideP (F10.out.trans f11)
    clear f11 hT
    go_wp2_with fail
    refine (together_any _ _ Q z w11 HT.out Hz.out (by have := HQl.out; have := H40.out; have := HLe.out; omega)).mono ?_
    rintro _ w12 ⟨⟨u, rfl, hT⟩, f12⟩
    rw [HSe.out] at hT
    obtain ⟨sa, sc, rfl⟩ := hT.slice
    have HS := hideP hT
    have F12 := hideP (F11.out.trans f12)
    clear f12 hT
    go_wp2_with fail
    refine (sameBag_perm _ _ l0 S w12 (HR.out.fr F12.out) HS.out (fun r => (oft_perm HPe.out r).symm) HPe.out.length_eq.symm (by have := H40.out; omega) HRn.out (fun r hr => HRn.out r (HPe.out.mem_iff.1 hr))).mono ?_
    rintro _ w13 ⟨rfl, f13⟩
    have F13 := hideP (F12.out.trans f13)
    clear f13
    go_wp2_with fail
    go_ret
    exact ⟨rfl, F13.out⟩

set_option maxRecDepth 100000 in
theorem lifted (os : Go.Os) (started : os.Started) (H : Type) (enc : TypeId × Value → H) :
  ReturnsInHanded {} Tryz.checked os 4 .any (fun w args => (Rows.filterThreeSpec.pre enc Tryz.prog Tryz.f4 [] false w args ∧ laidMetH Tryz.prog Rows.filterThreeRow.laid w) ∧ sizedMet enc Tryz.prog Tryz.f4 (OpenSpec.ofChange Rows.filterThreeSpec) false w args)
   (Rows.filterThreeSpec.post enc Tryz.prog Tryz.f4 false true false false) := by
 refine returnsInHanded_of_change_and (C := Tryz.checked) (X := fun w _ => laidMetH Tryz.prog Rows.filterThreeRow.laid w) (fun _ _ _ hh h => h.of_heap hh) own started (by kernel_rfl) Tryz.func4
  (ChangeSpec.witness_shaped (enc := enc) (C := Tryz.checked) (os := os) (X := fun w _ => laidMetH Tryz.prog Rows.filterThreeRow.laid w) false (World.laidAll Tryz.prog os Rows.filterThreeRow.laid) #[.slice none 0 0, .slice none 0 0, .slice none 0 0] 8 (World.laidAll_os _ _ _)
   (World.shaped_of_ZipB (by kernel_rfl) (by kernel_rfl)) (by kernel_rfl) (by kernel_rfl) (by kernel_rfl)
   (by rw [MakeChecks.laidMetH_plain _ _ _ (by kernel_rfl)]; exact laidMet_laidAll _ (by kernel_rfl) (by kernel_rfl))) ?_
 intro W base args ds gs before hval0 hW hcnd hsz0 hL _
 have hT : Tt W := tabs_of_laid hL
 have hval : ∀ (j : Nat) t v, Tryz.f4.params[j]? = some t → args[j]? = some v → Value.okWide Tryz.prog W .any base t v := hval0
 have hsz : (DataW.weightsEach Tryz.prog (Tryz.f4.params.toList ++ Rows.filterThreeSpec.plain.varTypes Tryz.prog) (ds ++ gs)).all (· ≤ reachBytes) = true := hsz0
 have hW' := hW
 obtain ⟨p, q, hA0, hV, rfl, hfz, hnd⟩ := hW
 have hA : DataW.TrodAll enc Tryz.prog W 0 (fun _ => true) true Tryz.f4.params.toList args.toList ds p := hA0
 rw [Tryz.params4] at hA hval hsz
 obtain ⟨v0, vs0, d0, ds0, p0, q0, hargs, rfl, rfl, h0, r0⟩ := trodAll_cons hA
 obtain ⟨v1, vs1, d1, ds1, p1, q1, rfl, rfl, rfl, h1, r1⟩ := trodAll_cons r0
 obtain ⟨v2, vs2, d2, ds2, p2, q2, rfl, rfl, rfl, h2, r2⟩ := trodAll_cons r1
 obtain ⟨rfl, rfl, rfl⟩ := trodAll_nil r2
 obtain rfl : args = #[v0, v1, v2] := by cases args; simp_all
 obtain ⟨rfl, rfl⟩ := trodVars_none hV
 obtain ⟨l0, rw0, ok0, b0⟩ := open_rws (hval 0 22 v0 rfl rfl) h0 (sized_at hsz (j := 0) rfl rfl)
 obtain ⟨l1, rw1, ok1, b1⟩ := open_cls (hval 1 23 v1 rfl rfl) h1 (sized_at hsz (j := 1) rfl rfl)
 obtain ⟨l2, rw2, ok2, b2⟩ := open_nds (hval 2 24 v2 rfl rfl) h2 (sized_at hsz (j := 2) rfl rfl)
 clear hA0 hval0 hsz0
 refine (walk v0 l0 v1 l1 v2 l2 W hT rw0 ok0 b0 rw1 ok1 b1 rw2 ok2 b2).mono fun e W' ⟨he, bel⟩ => ?_
 subst he
 exact ⟨_, rfl, _, _, _, [], _, [], hW', trodAll_mk1 (shut_bool Tryz.underlying4 _), (trodAll_cons_mk (shut_rws h0 bel) (trodAll_cons_mk (shut_cls h1 bel) (trodAll_cons_mk (shut_nds h2 bel) trodAll_mk0))), rfl, Below.frame bel _, fun h => by cases h⟩
theorem closed : joinedFacts Tryz.prog 4 Tryz.f4 Rows.filterThreeSpec Rows.filterThreeRow = true := by
 unfold joinedFacts
 repeat' (with_reducible refine Bool.and_eq_true_iff.2 ⟨?_, ?_⟩)
 all_goals first
  | with_reducible exact HeadW.mayEnter
  | with_reducible exact laidOut
  | with_reducible exact HeadW.mapsRowed
  | with_reducible exact HeadW.stopsHeard
  | (rw [HeadW.liftsFinal]; as_aux_lemma => kernel_rfl)
  | (rw [HeadW.make]; as_aux_lemma => kernel_rfl)
  | (rw [HeadW.plainKeys]; as_aux_lemma => kernel_rfl)
  | as_aux_lemma => kernel_rfl
theorem over : Rows.filterThreeRow.holds Tryz.pinned (OpenSpec.ofChange Rows.filterThreeSpec) :=
 OpenClaim.holds_of_wide 4 Tryz.f4 rfl rfl rfl rfl rfl rfl rfl ⟨rfl, rfl, rfl, rfl, rfl⟩ rfl rfl rfl rfl rfl (by as_aux_lemma => kernel_rfl) Tryz.func4 closed
  (of_decide_eq_true (by as_aux_lemma => kernel_rfl)) (by unfold Func.isWrapper; first | (rw [if_pos (by decide +kernel)]; kernel_rfl) | (rw [if_neg (by decide +kernel)]; exact ⟨rfl, rfl⟩))
  (fun os started H enc _ => lifted os started H enc)
theorem card : Rows.FilterThreeCardSaid :=
 Claim7.holds_tied_plain_at .later [] [.data, .data, .data, .data, .data, .data, .pinned] true (true, "3d9200482c1a8c9d4c0c2901940aba6e6f6453fca408f5f0e6919f8376bce52c") false
  over (fun _ h => by cases h) (by as_aux_lemma => kernel_rfl) (fun _ h => by cases h) filterThree_row_tie rfl ⟨rfl, rfl⟩ HeadW.main rfl
  (fun f fn hf hfn => by
   obtain rfl : f = 4 := Option.some.inj ((show Tryz.prog.funcNamed "starling/starlinglaw.FilterThree" = some 4 by as_aux_lemma => kernel_rfl).symm.trans hf) |>.symm
   obtain rfl : fn = Tryz.f4 := (Option.some.inj (Tryz.func4.symm.trans hfn)).symm
   exact ⟨HeadW.looks.symm, fun j t ht => by
    rw [Tryz.params4] at ht
    have hm : t ∈ [22, 23, 24] := by simpa using Array.mem_of_getElem? ht
    have hall : ([22, 23, 24].all fun u => !Tryz.prog.wantsStandIn u) = true := by as_aux_lemma => kernel_rfl
    exact (show Tryz.prog.wantsStandIn t = false by simpa using List.all_eq_true.1 hall t hm)⟩)
  (by as_aux_lemma => kernel_rfl)
end Go.Proofs.YtaabandfjdnkjaaGreatDoor.filterThreeProof
namespace Go.Proofs.YtaabandfjdnkjaaGreatDoor
theorem filterThree_holds : Rows.FilterThreeCardSaid := filterThreeProof.card
end Go.Proofs.YtaabandfjdnkjaaGreatDoor
