/-
  What belongs together: BpK, BpS, BpT.
-/
import Derived.Test.YtbcfdhimngoplaaGreatDoorGqD
import Derived.Test.YtbcfdhimngoplaaGreatDoorGqG
import Derived.Test.YtbcfdhimngoplaaGreatDoorGpH
import Derived.Test.YtbcfdhimngoplaaGreatDoorBpA
import Derived.Test.YtbcfdhimngoplaaGreatDoorBpB
namespace Go.Proofs.YtbcfdhimngoplaaGreatDoor
open Go.ChangeShapes Go.WideShapes Go.ChangeAt Go.RowKit
set_option linter.unusedVariables false
set_option linter.unusedSimpArgs false
set_option maxRecDepth 100000
set_option maxHeartbeats 2000000
namespace BG
open VM
theorem klt_cons (k : Ky) (t : List Ky) (a b : List Vl) : klt (k :: t) a b = (colLt k a b || (!colLt k b a && klt t a b)) := rfl
theorem klt_same {k : Ky} {t : List Ky} {a b : List Vl} (h : kv k a = kv k b) : klt (k :: t) a b = klt t a b := by
 rw [klt_cons]
 have h0 : CM.ord (kv k b) (kv k b) = 0 := ord_self _
 have e1 : colLt k a b = false := by unfold colLt; rw [h]; split <;> simp [h0]
 have e2 : colLt k b a = false := by unfold colLt; rw [h]; split <;> simp [h0]
 rw [e1, e2]
 simp
theorem klt_other {k : Ky} {t : List Ky} {a b : List Vl} (h : CM.ord (kv k a) (kv k b) ≠ 0) : klt (k :: t) a b = (decide (CM.ord (kv k a) (kv k b) < 0) != k.desc) := by
 rw [klt_cons]
 have h1 := SM.ord_anti (kv k a) (kv k b)
 unfold colLt
 generalize CM.ord (kv k a) (kv k b) = x at *
 generalize CM.ord (kv k b) (kv k a) = y at *
 obtain rfl : y = -x := by omega
 cases k.desc with
 | true =>
  have e1 : decide (-x < 0) = !decide (x < 0) := by
   by_cases hlt : x < 0
   · rw [decide_eq_true hlt, decide_eq_false (by omega)]; rfl
   · rw [decide_eq_false hlt, decide_eq_true (by omega)]; rfl
  simp only [if_true, e1]
  cases decide (x < 0) <;> simp
 | false =>
  have e1 : decide (-x < 0) = !decide (x < 0) := by
   by_cases hlt : x < 0
   · rw [decide_eq_true hlt, decide_eq_false (by omega)]; rfl
   · rw [decide_eq_false hlt, decide_eq_true (by omega)]; rfl
  simp only [Bool.false_eq_true, if_false, e1]
  cases decide (x < 0) <;> simp
end BG
theorem s7_after {w w' : World} {a b c d e f g : Addr} {u v x y z p q : Value} (fr : Fr w w') (h : w.cell? a = some u ∧ w.cell? b = some v ∧ w.cell? c = some x ∧ w.cell? d = some y ∧ w.cell? e = some z ∧ w.cell? f = some p ∧ w.cell? g = some q) : w'.cell? a = some u ∧ w'.cell? b = some v ∧ w'.cell? c = some x ∧ w'.cell? d = some y ∧ w'.cell? e = some z ∧ w'.cell? f = some p ∧ w'.cell? g = some q := by
 have key : ∀ {a : Addr} {u : Value}, w.cell? a = some u → w'.cell? a = some u := fun h => (Below.cell fr (World.block_lt_of_cell? _ _ h)).trans h
 obtain ⟨h1, h2, h3, h4, h5, h6, h7⟩ := h
 exact ⟨key h1, key h2, key h3, key h4, key h5, key h6, key h7⟩
theorem two_boxes {wr W9 : World} {x y : VM.Vl} {a : Addr} {u : Value} (h : wr.cell? a = some u) (hW : ((wr.alloc (.cells #[.int .i64 x.k, .int .i64 x.n, .string x.s] 56)).alloc (.cells #[.int .i64 y.k, .int .i64 y.n, .string y.s] 56)).drew = W9) :
  Fr wr W9 ∧ (W9.cell? ⟨wr.heap.size, 0, none⟩ = some (.int .i64 x.k) ∧ W9.cell? ⟨wr.heap.size, 1, none⟩ = some (.int .i64 x.n) ∧ W9.cell? ⟨wr.heap.size, 2, none⟩ = some (.string x.s) ∧ W9.cell? ⟨wr.heap.size + 1, 0, none⟩ = some (.int .i64 y.k) ∧ W9.cell? ⟨wr.heap.size + 1, 1, none⟩ = some (.int .i64 y.n) ∧ W9.cell? ⟨wr.heap.size + 1, 2, none⟩ = some (.string y.s) ∧ W9.cell? a = some u) := by
 have f : Fr wr W9 := by rw [← hW]; exact (((Fr.refl wr).alloc _).alloc _).drew
 have b1 : Blk W9 wr.heap.size #[.int .i64 x.k, .int .i64 x.n, .string x.s] 56 := by rw [← hW]; exact ((Blk.new wr _ _).old _).fr (Fr.drew (Fr.refl _))
 have b2 : Blk W9 (wr.heap.size + 1) #[.int .i64 y.k, .int .i64 y.n, .string y.s] 56 := by
  rw [← hW]
  have := Blk.new (wr.alloc (.cells #[.int .i64 x.k, .int .i64 x.n, .string x.s] 56)) #[.int .i64 y.k, .int .i64 y.n, .string y.s] 56
  rw [World.size_alloc] at this
  exact this.fr (Fr.drew (Fr.refl _))
 exact ⟨f, b1.cell 0 rfl, b1.cell 1 rfl, b1.cell 2 rfl, b2.cell 0 rfl, b2.cell 1 rfl, b2.cell 2 rfl, (Below.cell f (World.block_lt_of_cell? _ _ h)).trans h⟩
theorem two_boxes' {wr W9 : World} {x y : VM.Vl} {a : Addr} {u : Value} (h : wr.cell? a = some u) (hW : ((wr.alloc (.cells #[.int .i64 y.k, .int .i64 y.n, .string y.s] 56)).alloc (.cells #[.int .i64 x.k, .int .i64 x.n, .string x.s] 56)).drew = W9) :
  Fr wr W9 ∧ (W9.cell? ⟨wr.heap.size + 1, 0, none⟩ = some (.int .i64 x.k) ∧ W9.cell? ⟨wr.heap.size + 1, 1, none⟩ = some (.int .i64 x.n) ∧ W9.cell? ⟨wr.heap.size + 1, 2, none⟩ = some (.string x.s) ∧ W9.cell? ⟨wr.heap.size, 0, none⟩ = some (.int .i64 y.k) ∧ W9.cell? ⟨wr.heap.size, 1, none⟩ = some (.int .i64 y.n) ∧ W9.cell? ⟨wr.heap.size, 2, none⟩ = some (.string y.s) ∧ W9.cell? a = some u) := by
 obtain ⟨f, h1, h2, h3, h4, h5, h6, h7⟩ := two_boxes (x := y) (y := x) h hW
 exact ⟨f, h4, h5, h6, h1, h2, h3, h7⟩
theorem keyLess_any (va vb kv : Value) (ks : List BG.Ky) (a b : List VM.Vl) (w : World) (hk : IsL cdY w kv ks) (ha : IsL cdV w va a) (hb : IsL cdV w vb b) (hc : ∀ k ∈ ks, 0 ≤ k.col ∧ k.col < (a.length : Int) ∧ k.col < (b.length : Int)) (hsa : ∀ x ∈ a, x.s.size ≤ maxLen) (hsb : ∀ x ∈ b, x.s.size ≤ maxLen) (hl : ks.length ≤ 1000) :
  Calls Tryz.prog 14 #[va, vb, kv] w fun e w' => e = .returned (.bool (BG.klt ks a b)) ∧ Fr w w' := by
 obtain ⟨ka, kc, rfl, hkc, hks⟩ := hk
 obtain ⟨aa, ca, rfl, hac, has⟩ := ha
 obtain ⟨ab, cb, rfl, hbc, hbs⟩ := hb
 have HKs := hideP hks
 have HAs := hideP has
 have HBs := hideP hbs
 have HCo := hideP hc
 have HSa := hideP hsa
 have HSb := hideP hsb
 clear hks has hbs hc hsa hsb
 obtain ⟨Rr, hRr⟩ : ∃ x, BG.klt ks a b = x := ⟨_, rfl⟩
 have HR := hideP hRr
 rw [hRr]
 clear hRr
 go_enter Tryz.func14, Tryz.ntmps14
 go_wp2_with fail
 go_loopw [7, 8, 9] (fun iv _ _ wr => ∃ (i : Nat), iv = .int .i64 i ∧ i ≤ ks.length ∧ BG.klt (ks.drop i) a b = Rr ∧ Fr w wr) (fun iv _ _ _ => ks.length - (intOf iv).toNat)
 case atStart => exact ⟨0, rfl, Nat.zero_le _, HR.out, Fr.refl _⟩
 case round =>
  obtain ⟨i, rfl, hi, hRi, hfr⟩ := hrel
  by_cases hlt : i < ks.length
  case neg =>
   obtain rfl : i = ks.length := by omega
   have HZ := hideP (show Rr = false by rw [← hRi, List.drop_length]; rfl)
   have HF := hideP hfr
   clear hRi hfr
   go_wp2_with fail
   go_ret
   exact ⟨by rw [HZ.out]; rfl, HF.out⟩
  ·
   have hlt' : (i : Int) < (ks.length : Int) := by omega
   obtain ⟨bk, ok, rfl, hbk, hkat⟩ : ∃ b o, ka = some ⟨b, o, none⟩ ∧ b < w.heap.size ∧ At cdY w b o ks := by
    rcases HKs.out with h | h
    · rw [h] at hlt; simp at hlt
    · exact h
   have hcol := HCo.out _ (List.getElem_mem hlt)
   obtain ⟨k0, k1⟩ := (hkat.fr hbk hfr).y2 i hlt
   rw [List.drop_eq_getElem_cons hlt] at hRi
   generalize ks[i] = ky at *
   obtain ⟨col, ds⟩ := ky
   simp only at hcol k0 k1
   obtain ⟨C, rfl⟩ : ∃ C : Nat, col = (C : Int) := ⟨col.toNat, by omega⟩
   have hCa : C < a.length := by omega
   have hCb : C < b.length := by omega
   obtain ⟨ba, oa, rfl, hba, haat⟩ : ∃ b o, aa = some ⟨b, o, none⟩ ∧ b < w.heap.size ∧ At cdV w b o a := by
    rcases HAs.out with h | h
    · rw [h] at hCa; simp at hCa
    · exact h
   obtain ⟨bb, ob, rfl, hbb, hbat⟩ : ∃ b' o, ab = some ⟨b', o, none⟩ ∧ b' < w.heap.size ∧ At cdV w b' o b := by
    rcases HBs.out with h | h
    · rw [h] at hCb; simp at hCb
    · exact h
   obtain ⟨a0, a1, a2⟩ := (haat.fr hba hfr).v3 C hCa
   obtain ⟨b0, b1, b2⟩ := (hbat.fr hbb hfr).v3 C hCb
   have hxs := HSa.out _ (List.getElem_mem hCa)
   have hys := HSb.out _ (List.getElem_mem hCb)
   have ekx : BG.kv ⟨(C : Int), ds⟩ a = a[C] := by
    unfold BG.kv
    simp [List.getD_eq_getElem?_getD, hCa]
   have eky : BG.kv ⟨(C : Int), ds⟩ b = b[C] := by
    unfold BG.kv
    simp [List.getD_eq_getElem?_getD, hCb]
   have hsame := BG.klt_same (k := ⟨(C : Int), ds⟩) (t := ks.drop (i + 1)) (a := a) (b := b)
   have hoth := BG.klt_other (k := ⟨(C : Int), ds⟩) (t := ks.drop (i + 1)) (a := a) (b := b)
   rw [ekx, eky] at hsame hoth
   have hvl := fun W => valueLess_any a[C] b[C] W hxs hys
   have hzero := ord_zero a[C] b[C]
   rw [show (a[C]).val = .agg #[.int .i64 (a[C]).k, .int .i64 (a[C]).n, .string (a[C]).s] from rfl, show (b[C]).val = .agg #[.int .i64 (b[C]).k, .int .i64 (b[C]).n, .string (b[C]).s] from rfl] at hvl
   generalize a[C] = x at *
   generalize b[C] = y at *
   obtain ⟨xk, xn, xs⟩ := x
   obtain ⟨yk, yn, ys⟩ := y
   simp only at a0 a1 a2 b0 b1 b2 hvl hzero
   generalize CM.ord ⟨xk, xn, xs⟩ ⟨yk, yn, ys⟩ = od at *
   have h1a : (C : Int) < (a.length : Int) := by omega
   have h1b : (C : Int) < (b.length : Int) := by omega
   have HSame := hideP hsame
   have HOth := hideP hoth
   have HVl := hideP hvl
   have HZe := hideP hzero
   have HRi := hideP hRi
   have HF := hideP hfr
   have HK1 := hideP k1
   clear hsame hoth hvl hzero hRi hfr ekx eky hxs hys haat hbat hkat hcol
   have hz : Fr wr wr.drew := Fr.drew (Fr.refl wr)
   have HS := hideP (show wr.cell? ⟨bk, ok + i * 2, none⟩ = some (.int .i64 (C : Int)) ∧ wr.cell? ⟨ba, oa + C * 3, none⟩ = some (.int .i64 xk) ∧ wr.cell? ⟨ba, oa + C * 3 + 1, none⟩ = some (.int .i64 xn) ∧ wr.cell? ⟨ba, oa + C * 3 + 2, none⟩ = some (.string xs) ∧ wr.cell? ⟨bb, ob + C * 3, none⟩ = some (.int .i64 yk) ∧ wr.cell? ⟨bb, ob + C * 3 + 1, none⟩ = some (.int .i64 yn) ∧ wr.cell? ⟨bb, ob + C * 3 + 2, none⟩ = some (.string ys) from ⟨k0, a0, a1, a2, b0, b1, b2⟩)
   clear k0 a0 a1 a2 b0 b1 b2
   go_upto_region 4 with fail
   go_region_held3 (fun W => W.cell? ⟨bk, ok + i * 2, none⟩ = some (.int .i64 (C : Int)) ∧ W.cell? ⟨ba, oa + C * 3, none⟩ = some (.int .i64 xk) ∧ W.cell? ⟨ba, oa + C * 3 + 1, none⟩ = some (.int .i64 xn) ∧ W.cell? ⟨ba, oa + C * 3 + 2, none⟩ = some (.string xs) ∧ W.cell? ⟨bb, ob + C * 3, none⟩ = some (.int .i64 yk) ∧ W.cell? ⟨bb, ob + C * 3 + 1, none⟩ = some (.int .i64 yn) ∧ W.cell? ⟨bb, ob + C * 3 + 2, none⟩ = some (.string ys)) (first | exact HS.out | exact s7_after hz HS.out | exact s7_after (hz.alloc _) HS.out | exact s7_after ((hz.alloc _).alloc _) HS.out) (first | fail)
   all_goals (
    first
     | (
       obtain ⟨W9, hW9⟩ : ∃ W9, ((wr.alloc (.cells #[.int .i64 xk, .int .i64 xn, .string xs] 56)).alloc (.cells #[.int .i64 yk, .int .i64 yn, .string ys] 56)).drew = W9 := ⟨_, rfl⟩
       rw [hW9]
       obtain ⟨F9, S9⟩ := two_boxes (x := ⟨xk, xn, xs⟩) (y := ⟨yk, yn, ys⟩) HK1.out hW9
       generalize wr.heap.size + 1 = Y9 at *
       generalize wr.heap.size = X9 at *)
     | (
       obtain ⟨W9, hW9⟩ : ∃ W9, ((wr.alloc (.cells #[.int .i64 yk, .int .i64 yn, .string ys] 56)).alloc (.cells #[.int .i64 xk, .int .i64 xn, .string xs] 56)).drew = W9 := ⟨_, rfl⟩
       rw [hW9]
       obtain ⟨F9, S9⟩ := two_boxes' (x := ⟨xk, xn, xs⟩) (y := ⟨yk, yn, ys⟩) HK1.out hW9
       generalize wr.heap.size + 1 = X9 at *
       generalize wr.heap.size = Y9 at *)
    clear hW9
    replace F9 := hideP (HF.out.trans F9)
    have HS9 := hideP S9
    clear hz HS HK1 HF
    obtain ⟨x0, x1, x2, y0, y1, y2, k1⟩ := S9
    simp only at x0 x1 x2 y0 y1 y2
    by_cases hxy : xk = yk ∧ xn = yn ∧ xs = ys
    ·
     obtain ⟨rfl, rfl, rfl⟩ := hxy
     have HT := hideP (show BG.klt (ks.drop (i + 1)) a b = Rr by rw [← HSame.out rfl, HRi.out])
     go_wp2_with fail
     go_roundw
     case rel => exact ⟨i + 1, by go_num, by omega, HT.out, F9.out⟩
     case measure => simp [intOf]; omega
    ·
     have hod : od ≠ 0 := fun h => hxy (HZe.out.1 h)
     have HT := hideP (show (decide (od < 0) != ds) = Rr by rw [← HOth.out hod, HRi.out])
     have hz : Fr W9 W9 := Fr.refl W9
     by_cases hk : xk = yk
     ·
      subst hk
      by_cases hn' : xn = yn
      ·
       subst hn'
       have hs : ¬ xs = ys := fun h => hxy ⟨rfl, rfl, h⟩
       have hs1 : ¬ xs.toList = ys.toList := fun h => hs (ba_tl h)
       have hs2 : (xs.toList == ys.toList) = false := beq_false_of_ne hs1
       clear hs hxy
       go_wp2_with fail
       clear x0 x1 x2 y0 y1 y2 k1
       go_region_held3 (fun W => W.cell? ⟨X9, 0, none⟩ = some (.int .i64 xk) ∧ W.cell? ⟨X9, 1, none⟩ = some (.int .i64 xn) ∧ W.cell? ⟨X9, 2, none⟩ = some (.string xs) ∧ W.cell? ⟨Y9, 0, none⟩ = some (.int .i64 xk) ∧ W.cell? ⟨Y9, 1, none⟩ = some (.int .i64 xn) ∧ W.cell? ⟨Y9, 2, none⟩ = some (.string ys) ∧ W.cell? ⟨bk, ok + i * 2 + 1, none⟩ = some (.bool ds)) (first | exact HS9.out | exact s7_after hz HS9.out | exact s7_after hf9 HS9.out | exact s7_after (Fr.drew (Fr.refl _)) HS9.out) (first
        | (go_at_call 41; refine (HVl.out _).mono ?_; rintro _ w3 ⟨rfl, f3⟩; have hf9 : Fr W9 w3 := (Fr.drew (Fr.refl W9)).trans f3; clear f3))
       all_goals (
        have F3 := hideP (F9.out.trans hf9)
        clear hf9
        go_wp2_with fail
        go_ret
        exact ⟨by rw [← HT.out]; rfl, F3.out⟩)
      ·
       have hn2 : (xn == yn) = false := beq_false_of_ne hn'
       clear hxy
       go_wp2_with fail
       clear x0 x1 x2 y0 y1 y2 k1
       go_region_held3 (fun W => W.cell? ⟨X9, 0, none⟩ = some (.int .i64 xk) ∧ W.cell? ⟨X9, 1, none⟩ = some (.int .i64 xn) ∧ W.cell? ⟨X9, 2, none⟩ = some (.string xs) ∧ W.cell? ⟨Y9, 0, none⟩ = some (.int .i64 xk) ∧ W.cell? ⟨Y9, 1, none⟩ = some (.int .i64 yn) ∧ W.cell? ⟨Y9, 2, none⟩ = some (.string ys) ∧ W.cell? ⟨bk, ok + i * 2 + 1, none⟩ = some (.bool ds)) (first | exact HS9.out | exact s7_after hz HS9.out | exact s7_after hf9 HS9.out | exact s7_after (Fr.drew (Fr.refl _)) HS9.out) (first
        | (go_at_call 41; refine (HVl.out _).mono ?_; rintro _ w3 ⟨rfl, f3⟩; have hf9 : Fr W9 w3 := (Fr.drew (Fr.refl W9)).trans f3; clear f3))
       all_goals (
        have F3 := hideP (F9.out.trans hf9)
        clear hf9
        go_wp2_with fail
        go_ret
        exact ⟨by rw [← HT.out]; rfl, F3.out⟩)
     ·
      have hk2 : (xk == yk) = false := beq_false_of_ne hk
      clear hxy
      go_wp2_with fail
      clear x0 x1 x2 y0 y1 y2 k1
      go_region_held3 (fun W => W.cell? ⟨X9, 0, none⟩ = some (.int .i64 xk) ∧ W.cell? ⟨X9, 1, none⟩ = some (.int .i64 xn) ∧ W.cell? ⟨X9, 2, none⟩ = some (.string xs) ∧ W.cell? ⟨Y9, 0, none⟩ = some (.int .i64 yk) ∧ W.cell? ⟨Y9, 1, none⟩ = some (.int .i64 yn) ∧ W.cell? ⟨Y9, 2, none⟩ = some (.string ys) ∧ W.cell? ⟨bk, ok + i * 2 + 1, none⟩ = some (.bool ds)) (first | exact HS9.out | exact s7_after hz HS9.out | exact s7_after hf9 HS9.out | exact s7_after (Fr.drew (Fr.refl _)) HS9.out) (first
       | (go_at_call 41; refine (HVl.out _).mono ?_; rintro _ w3 ⟨rfl, f3⟩; have hf9 : Fr W9 w3 := (Fr.drew (Fr.refl W9)).trans f3; clear f3))
      all_goals (
       have F3 := hideP (F9.out.trans hf9)
       clear hf9
       go_wp2_with fail
       go_ret
       exact ⟨by rw [← HT.out]; rfl, F3.out⟩))
end Go.Proofs.YtbcfdhimngoplaaGreatDoor
namespace Go.Proofs.YtbcfdhimngoplaaGreatDoor
open Go.ChangeShapes Go.WideShapes Go.ChangeAt Go.RowKit
set_option linter.unusedVariables false
set_option linter.unusedSimpArgs false
set_option maxRecDepth 100000
set_option maxHeartbeats 2000000
theorem rwidth_any (v : Value) (ls : List (List VM.Vl)) (w : World) (h : IsRR w v ls) : Calls Tryz.prog 51 #[v] w fun e w' => e = .returned (.int .i64 ((BG.wd ls : Nat) : Int)) ∧ Fr w w' := by
 obtain ⟨a, c, rfl⟩ := h.slice
 obtain ⟨qs, hq, _, hc, hcell, hrow⟩ := h.at
 by_cases h0 : ls.length = 0
 ·
  have hl : ls = [] := List.length_eq_zero_iff.1 h0
  have hw : BG.wd ls = 0 := by rw [hl]; rfl
  rw [hw, h0]
  clear hcell hrow
  go_enter Tryz.func51, Tryz.ntmps51
  go_wp2_with fail
  go_ret
  exact ⟨rfl, by first | exact Fr.refl _ | exact (Fr.refl _).alloc _⟩
 ·
  obtain ⟨b, o, rfl, hb, c0⟩ := hcell 0 (by omega)
  obtain ⟨h1, h2⟩ := hrow 0 (by omega) (by omega)
  have hw : BG.wd ls = qs[0].n := by
   rw [h2]
   unfold BG.wd
   cases ls with
   | nil => simp at h0
   | cons r t => rfl
  rw [hw]
  rw [Nat.add_zero] at c0
  obtain ⟨qa, hqa⟩ : ∃ qa, qs[0].a = qa := ⟨_, rfl⟩
  obtain ⟨qn, hqn⟩ : ∃ qn, qs[0].n = qn := ⟨_, rfl⟩
  obtain ⟨qc, hqc⟩ : ∃ qc, qs[0].c = qc := ⟨_, rfl⟩
  rw [hqa, hqn, hqc] at c0
  rw [hqn]
  clear hcell hrow h1 h2 hw hqa hqn hqc h
  have hq9 : 0 < ls.length := by omega
  clear h0 hq
  generalize ls.length = n at *
  have q0 : ((n : Int) == 0) = false := beq_false_of_ne (by omega)
  have q1 : ¬ ((n : Int) = 0) := by omega
  have q2 : (0 : Int) < (n : Int) := by omega
  go_enter Tryz.func51, Tryz.ntmps51
  go_wp2_with fail
  go_ret
  exact ⟨rfl, by first | exact Fr.refl _ | exact (Fr.refl _).alloc _⟩
namespace BG
def srtE (ls : List (List VM.Vl)) (ks : List Ky) : Nat := if chk ls ≠ 0 then chk ls else if 8 < ks.length then 2 else if ks.all (fun k => hasC ls k.col) = false then 3 else 0
theorem srtE_er (ls : List (List VM.Vl)) (ks : List Ky) : erR (srt ls ks) = srtE ls ks := by
 unfold srt srtE
 by_cases h1 : chk ls = 0
 case neg => rw [if_pos h1, if_pos h1]; rfl
 have h1n : ¬ (chk ls ≠ 0) := by simp [h1]
 rw [if_neg h1n, if_neg h1n]
 by_cases h2 : 8 < ks.length
 · rw [if_pos h2, if_pos h2]; rfl
 rw [if_neg h2, if_neg h2]
 by_cases h3 : ks.all (fun k => hasC ls k.col) = false
 · rw [if_pos h3, if_pos h3]; rfl
 · rw [if_neg h3, if_neg h3]; rfl
theorem hasC_some {ls : List (List VM.Vl)} (h : 0 < ls.length) (c : Int) : hasC ls c = !(decide (c < 0) || decide ((wd ls : Int) ≤ c)) := by
 unfold hasC
 have : ¬ ls.length = 0 := by omega
 simp only [this, decide_false, Bool.false_or]
 by_cases h1 : c < 0
 ·
  have : ¬ 0 ≤ c := by omega
  simp [h1, this]
 ·
  have h2 : 0 ≤ c := by omega
  by_cases h3 : (wd ls : Int) ≤ c
  ·
   have : ¬ c < (wd ls : Int) := by omega
   simp [h1, h2, h3, this]
  ·
   have : c < (wd ls : Int) := by omega
   simp [h1, h2, h3, this]
end BG
theorem keysCheck_any (v kv : Value) (ls : List (List VM.Vl)) (ks : List BG.Ky) (w : World) (h : IsRR w v ls) (hk : IsL cdY w kv ks) (hL : ls.length ≤ 9223372036854775806) (hR : ∀ r ∈ ls, r.length ≤ 9223372036854775806) (hK : ks.length ≤ 9223372036854775806) :
  Calls Tryz.prog 30 #[v, kv] w fun e w' => e = .returned (.int .i64 ((BG.srtE ls ks : Nat) : Int)) ∧ Fr w w' := by
 have HK : Hid (BG.srtE ls ks = if BG.chk ls ≠ 0 then BG.chk ls else if 8 < ks.length then 2 else if ks.all (fun k => BG.hasC ls k.col) = false then 3 else 0) := rfl
 have HCk := hideP (rowsCheck_any v ls w h hL hR)
 have HW := hideP (fun W (f : Fr w W) => rwidth_any v ls W (h.fr f))
 have HHs := hideP (fun (h0 : 0 < ls.length) c => BG.hasC_some h0 c)
 have HH0 := hideP (fun (h0 : ls.length = 0) => show ks.all (fun k => BG.hasC ls k.col) = true by
  rw [List.all_eq_true]
  intro k _
  unfold BG.hasC
  simp [h0])
 obtain ⟨a, c, rfl⟩ := h.slice
 obtain ⟨ka, kc, rfl, hkc, hks⟩ := hk
 have HKs := hideP hks
 clear h hR hks
 obtain ⟨R, hRr⟩ : ∃ R, BG.srtE ls ks = R := ⟨_, rfl⟩
 rw [hRr] at HK ⊢
 clear hRr
 by_cases h0 : BG.chk ls = 0
 case neg =>
  replace HK := hideP (HK.out.trans (if_pos h0))
  generalize BG.chk ls = z at *
  have e1 : ((z : Int) == 0) = false := by simp; omega
  have e2 : ¬ ((z : Int) = 0) := by omega
  have HZ := hideP h0
  go_enter Tryz.func30, Tryz.ntmps30
  go_wp2_with fail
  refine HCk.out.mono ?_
  rintro _ w1 ⟨rfl, f1⟩
  have F1 := hideP f1
  clear f1 HCk
  go_wp2_with fail
  go_loopw [5, 6] (fun ev iv wr => ev = .int .i64 (z : Int) ∧ iv = .int .i64 0 ∧ Fr w wr) (fun _ _ _ => 0)
  case atStart => exact ⟨rfl, rfl, F1.out⟩
  case round =>
   obtain ⟨rfl, rfl, hfr⟩ := hrel
   have HF := hideP hfr
   clear hfr
   by_cases hk0 : 0 < ks.length
   ·
    have e3 : (0 : Int) < (ks.length : Int) := by omega
    clear hk0
    go_wp2_with fail
    go_ret
    exact ⟨by rw [HK.out]; rfl, HF.out⟩
   ·
    have e3 : ¬ ((0 : Int) < (ks.length : Int)) := by omega
    clear hk0
    go_wp2_with fail
    go_ret
    exact ⟨by rw [HK.out]; rfl, HF.out⟩
 replace HK := hideP (HK.out.trans (if_neg (by simpa using h0)))
 rw [h0] at HCk
 clear h0
 by_cases h8 : 8 < ks.length
 ·
  replace HK := hideP (HK.out.trans (if_pos h8))
  have h8' : (8 : Int) < (ks.length : Int) := by omega
  have e3 : (0 : Int) < (ks.length : Int) := by omega
  clear h8
  go_enter Tryz.func30, Tryz.ntmps30
  go_wp2_with fail
  refine HCk.out.mono ?_
  rintro _ w1 ⟨rfl, f1⟩
  have F1 := hideP f1
  clear f1 HCk
  go_wp2_with fail
  go_loopw [5, 6] (fun ev iv wr => ev = .int .i64 2 ∧ iv = .int .i64 0 ∧ Fr w wr) (fun _ _ _ => 0)
  case atStart => exact ⟨rfl, rfl, F1.out⟩
  case round =>
   obtain ⟨rfl, rfl, hfr⟩ := hrel
   have HF := hideP hfr
   clear hfr
   go_wp2_with fail
   go_ret
   exact ⟨by rw [HK.out]; rfl, HF.out⟩
 replace HK := hideP (HK.out.trans (if_neg h8))
 have h8' : ¬ (8 : Int) < (ks.length : Int) := by omega
 have hk8 : ks.length ≤ 8 := by omega
 clear h8
 go_enter Tryz.func30, Tryz.ntmps30
 go_wp2_with fail
 refine HCk.out.mono ?_
 rintro _ w1 ⟨rfl, f1⟩
 have F1 := hideP f1
 clear f1 HCk
 go_wp2_with fail
 clear h8'
 go_loopw [5, 6] (fun ev iv wr => ∃ i z : Nat, iv = .int .i64 i ∧ ev = .int .i64 (z : Int) ∧ i ≤ ks.length ∧ (z = 0 ∧ ks.all (fun k => BG.hasC ls k.col) = (ks.drop i).all (fun k => BG.hasC ls k.col) ∨ z = 3 ∧ ks.all (fun k => BG.hasC ls k.col) = false) ∧ Fr w wr) (fun _ iv _ => ks.length - (intOf iv).toNat)
 case atStart => exact ⟨0, 0, rfl, rfl, Nat.zero_le _, .inl ⟨rfl, rfl⟩, F1.out⟩
 case round =>
  obtain ⟨i, z, rfl, rfl, hi, hst, hfr⟩ := hrel
  have HF := hideP hfr
  clear hfr
  rcases hst with ⟨hz0, hal⟩ | ⟨hz3, hal⟩
  case inr =>
   have e1 : ((z : Int) == 0) = false := by simp; omega
   have e2 : ¬ ((z : Int) = 0) := by omega
   have HA := hideP (show R = z by rw [HK.out, if_pos hal, hz3])
   clear hz3 hal
   by_cases hlt : i < ks.length
   ·
    have hlt' : (i : Int) < (ks.length : Int) := by omega
    go_wp2_with fail
    go_ret
    exact ⟨by rw [HA.out]; rfl, HF.out⟩
   ·
    have hlt' : ¬ ((i : Int) < (ks.length : Int)) := by omega
    go_wp2_with fail
    go_ret
    exact ⟨by rw [HA.out]; rfl, HF.out⟩
  have e1 : ((z : Int) == 0) = true := by simp; omega
  have e2 : (z : Int) = 0 := by omega
  have HZ := hideP hz0
  clear hz0
  by_cases hlt : i < ks.length
  case neg =>
   obtain rfl : i = ks.length := by omega
   have HA := hideP (show R = 0 by rw [HK.out, hal, List.drop_length, if_neg (by simp)])
   clear hal e2
   go_wp2_with fail
   go_ret
   exact ⟨by rw [HA.out, HZ.out]; rfl, HF.out⟩
  have hlt' : (i : Int) < (ks.length : Int) := by omega
  by_cases hn : 0 < ls.length
  case neg =>
   have hn' : ¬ ((0 : Int) < (ls.length : Int)) := by omega
   have HA := hideP (show R = 0 by rw [HK.out, HH0.out (by omega), if_neg (by simp)])
   clear hal e2 hn
   go_wp2_with fail
   go_ret
   exact ⟨by rw [HA.out, HZ.out]; rfl, HF.out⟩
  have hn' : (0 : Int) < (ls.length : Int) := by omega
  obtain ⟨bk, ok, rfl, hbk, hkat⟩ : ∃ b o, ka = some ⟨b, o, none⟩ ∧ b < w.heap.size ∧ At cdY w b o ks := by
   rcases HKs.out with h | h
   · rw [h] at hlt; simp at hlt
   · exact h
  obtain ⟨k0, k1⟩ := (hkat.fr hbk HF.out).y2 i hlt
  rw [BG.all_drop hlt, HHs.out hn] at hal
  generalize ks[i] = ky at *
  obtain ⟨col, ds⟩ := ky
  simp only at k0 hal
  obtain ⟨W9, hW9⟩ : ∃ x, BG.wd ls = x := ⟨_, rfl⟩
  rw [hW9] at hal HW
  have HAl := hideP hal
  have HK0 := hideP k0
  have hz := Fr.drew (Fr.refl wr)
  clear hal hW9 k1 hkat e2 hn
  by_cases hc : col < 0
  ·
   have HA := hideP (show ks.all (fun k => BG.hasC ls k.col) = false by rw [HAl.out]; simp [hc])
   go_wp2_with fail
   go_region
   all_goals (
    go_wp2_with fail
    go_roundw
    case rel => exact ⟨i + 1, 3, by go_num, rfl, by omega, .inr ⟨rfl, HA.out⟩, Fr.drew HF.out⟩
    case measure => simp [intOf]; omega)
  have hc2 : (col < 0) = False := by simp; omega
  have HCol := hideP hc
  clear hc
  go_wp2_with fail
  clear k0
  go_region_held3 (fun W => W.cell? ⟨bk, ok + i * 2, none⟩ = some (.int .i64 col)) (first | exact HK0.out | exact (Below.cell hz (World.block_lt_of_cell? _ _ HK0.out)).trans HK0.out | exact (Below.cell hf9 (World.block_lt_of_cell? _ _ HK0.out)).trans HK0.out) (first
   | (go_at_call 51; refine (HW.out _ (HF.out.trans hz)).mono ?_; rintro _ w3 ⟨rfl, f3⟩; have hf9 := hz.trans f3; clear f3))
  all_goals (
   have F9 := hideP (HF.out.trans hf9)
   clear hf9 hz hc2
   by_cases hw : (W9 : Int) ≤ col
   ·
    have HA := hideP (show ks.all (fun k => BG.hasC ls k.col) = false by rw [HAl.out]; simp [hw])
    go_wp2_with fail
    go_roundw
    case rel => exact ⟨i + 1, 3, by go_num, rfl, by omega, .inr ⟨rfl, HA.out⟩, F9.out⟩
    case measure => simp [intOf]; omega
   ·
    have HA := hideP (show ks.all (fun k => BG.hasC ls k.col) = (ks.drop (i + 1)).all (fun k => BG.hasC ls k.col) by rw [HAl.out]; have hc := HCol.out; simp [hw, hc])
    have hw2 : col < (W9 : Int) := by omega
    go_wp2_with fail
    go_roundw
    case rel => exact ⟨i + 1, z, by go_num, rfl, by omega, .inl ⟨HZ.out, HA.out⟩, F9.out⟩
    case measure => simp [intOf]; omega)
end Go.Proofs.YtbcfdhimngoplaaGreatDoor
namespace Go.Proofs.YtbcfdhimngoplaaGreatDoor
open Go.ChangeShapes Go.WideShapes Go.ChangeAt Go.RowKit
set_option linter.unusedVariables false
set_option linter.unusedSimpArgs false
set_option maxRecDepth 100000
set_option maxHeartbeats 2000000
structure PQ (B : Nat) (w0 w : World) (v : Value) (ps : List Pr) : Prop where
 own : w.ownsRow B 31 1 v ps.length (flat cdS (ps.map (·.1)))
 row : ∀ p ∈ ps, IsL cdV w0 p.1.v p.2
theorem PQ.fr {B : Nat} {w0 w w' : World} {v : Value} {ps : List Pr} (h : PQ B w0 w v ps) (f : Fr w w') : PQ B w0 w' v ps := ⟨own_fr h.own f, h.row⟩
theorem flat_S : ∀ (l : List Sq), flat cdS l = l.map fun x => Value.slice x.a x.n x.c
 | [] => rfl
 | x :: t => by rw [flat_cons, flat_S t]; rfl
theorem PQ.pr {B : Nat} {w0 w : World} {v : Value} {ps : List Pr} (h : PQ B w0 w v ps) : PR B w0 w v (ps.map (·.2)) := by
 refine ⟨ps.map (·.1), by rw [List.length_map]; exact h.own, by simp, fun i h1 h2 => ?_⟩
 rw [List.getElem_map, List.getElem_map]
 exact h.row _ (List.getElem_mem _)
theorem own_at1 {B g n c : Nat} {T : TypeId} {xs : List Value} {w : World} (h : w.ownsRow B T 1 (.slice (some ⟨g, 0, none⟩) n c) n xs) : ∃ cur, B ≤ g ∧ w.heap[g]? = some (.cells cur T (0, 0)) ∧ n ≤ c ∧ c ≤ maxLen ∧ cur.size = c * 1 ∧ cur.toList.take (n * 1) = xs := by
 rcases h.2 with ⟨h1, _⟩ | ⟨g', cap, cur, h1, h2, h3, h4, h5, h6, h7⟩
 · cases h1
 ·
  injection h1 with h1 _ h9
  injection h1 with h1
  injection h1 with h1
  subst h1 h9
  exact ⟨cur, h2, h3, h4, h5, h6, h7⟩
theorem own_set1 {B g n c : Nat} {T : TypeId} {xs : List Value} {w : World} (h : w.ownsRow B T 1 (.slice (some ⟨g, 0, none⟩) n c) n xs) (i : Nat) (u : Value) : (w.setCell ⟨g, i, none⟩ u).ownsRow B T 1 (.slice (some ⟨g, 0, none⟩) n c) n (xs.set i u) := by
 obtain ⟨cur, h2, h3, h4, h5, h6, h7⟩ := own_at1 h
 have hb : Blk w g cur T := h3
 refine ⟨by rw [List.length_set]; exact h.1, .inr ⟨g, c, cur.setIfInBounds i u, rfl, h2, hb.set i u, h4, h5, by rw [Array.size_setIfInBounds]; exact h6, ?_⟩⟩
 rw [Array.toList_setIfInBounds, ← h7, List.take_set]
theorem own_cell1 {B g n c : Nat} {T : TypeId} {xs : List Value} {w : World} (h : w.ownsRow B T 1 (.slice (some ⟨g, 0, none⟩) n c) n xs) {i : Nat} {u : Value} (hu : xs[i]? = some u) : w.cell? ⟨g, i, none⟩ = some u ∧ w.frozen? ⟨g, i, none⟩ = false := by
 obtain ⟨cur, h2, h3, h4, h5, h6, h7⟩ := own_at1 h
 have hb : Blk w g cur T := h3
 refine ⟨hb.cell i ?_, hb.frozen i⟩
 rw [← h7, List.getElem?_take] at hu
 split at hu
 · rw [← hu, Array.getElem?_toList]
 · cases hu
theorem PQ.swap {B g n c : Nat} {w0 w : World} {a b : List Pr} {x y : Pr} (h : PQ B w0 w (.slice (some ⟨g, 0, none⟩) n c) (a ++ y :: x :: b)) (hn : n = (a ++ y :: x :: b).length) :
  PQ B w0 ((w.setCell ⟨g, a.length + 1, none⟩ (.slice y.1.a y.1.n y.1.c)).setCell ⟨g, a.length, none⟩ (.slice x.1.a x.1.n x.1.c)) (.slice (some ⟨g, 0, none⟩) n c) (a ++ x :: y :: b) := by
 obtain ⟨h1, h2⟩ := h
 rw [← hn] at h1
 have h3 := own_set1 (own_set1 h1 (a.length + 1) (.slice y.1.a y.1.n y.1.c)) a.length (.slice x.1.a x.1.n x.1.c)
 have e : ((flat cdS ((a ++ y :: x :: b).map (·.1))).set (a.length + 1) (.slice y.1.a y.1.n y.1.c)).set a.length (.slice x.1.a x.1.n x.1.c) = flat cdS ((a ++ x :: y :: b).map (·.1)) := by
  rw [flat_S, flat_S]
  simp only [List.map_append, List.map_cons, List.map_map]
  rw [List.set_append_right _ _ (by simp), List.set_append_right _ _ (by simp)]
  simp
 rw [e] at h3
 refine ⟨?_, fun p hp => h2 p ?_⟩
 ·
  have : n = (a ++ x :: y :: b).length := by rw [hn]; simp
  rw [← this]
  exact h3
 ·
  simp only [List.mem_append, List.mem_cons] at hp ⊢
  rcases hp with h | h | h | h
  · exact .inl h
  · exact .inr (.inr (.inl h))
  · exact .inr (.inl h)
  · exact .inr (.inr (.inr h))
theorem PQ.cell {B g n c : Nat} {w0 w : World} {a b : List Pr} {x : Pr} (h : PQ B w0 w (.slice (some ⟨g, 0, none⟩) n c) (a ++ x :: b)) (hn : n = (a ++ x :: b).length) : w.cell? ⟨g, a.length, none⟩ = some (.slice x.1.a x.1.n x.1.c) ∧ w.frozen? ⟨g, a.length, none⟩ = false := by
 have h1 := h.own
 rw [← hn] at h1
 refine own_cell1 h1 ?_
 rw [flat_S]
 simp
theorem Fr.set2 {w0 w : World} {g i j : Nat} {u v : Value} (f : Fr w0 w) (hg : w0.heap.size ≤ g) : Fr w0 ((w.setCell ⟨g, i, none⟩ u).setCell ⟨g, j, none⟩ v) := Below.setCell (Below.setCell f hg u) hg v
theorem sortOf_any (v kv : Value) (ls : List (List VM.Vl)) (ks : List BG.Ky) (w : World) (h : IsRR w v ls) (hk : IsL cdY w kv ks) (hL : ls.length ≤ 9223372036854775806) (hR : ∀ r ∈ ls, r.length ≤ 9223372036854775806) (hS : ∀ r ∈ ls, ∀ x ∈ r, x.s.size ≤ maxLen) (hK : ks.length ≤ 9223372036854775806) :
  Calls Tryz.prog 11 #[v, kv] w fun e w' => DA w (BG.srt ls ks) e w' ∧ Fr w w' := by
 have HCk := hideP (keysCheck_any v kv ls ks w h hk hL hR hK)
 have HEr := hideP (BG.srtE_er ls ks)
 have HIf := hideP (fun m => BG.srt_iff (ls := ls) (m := m) (ks := ks))
 have HE0 := hideP (BG.srt_er (ls := ls) (ks := ks))
 have HSz := hideP hS
 have HKy := hideP hk
 obtain ⟨a, c, rfl⟩ := h.slice
 obtain ⟨qs, hq, hnn, hc, hcell, hrow⟩ := h.at
 have HCe := hideP hcell
 have HRo := hideP hrow
 obtain ⟨ka, kc, rfl, hkc, hks⟩ := hk
 clear hcell hrow h hR hks hS hnn
 obtain ⟨i0, hi0, hz0, hz1, hz2⟩ := info_parts Tryz.infoVs9
 generalize BG.srt ls ks = R at *
 obtain ⟨z, hz⟩ : ∃ z, BG.srtE ls ks = z := ⟨_, rfl⟩
 rw [hz] at HCk HEr
 clear hz
 by_cases h0 : z = 0
 case neg =>
  have HX := hideP (show DA w R (.returned (.tuple #[.slice none 0 0, .int .i64 (z : Int)])) w by
   cases R with
   | error c =>
    have : c = z := HEr.out
    subst this
    rfl
   | ok l => exact absurd HEr.out.symm h0)
  have HX2 := hideP (fun (W : World) => show DA w R (.returned (.tuple #[.slice none 0 0, .int .i64 (z : Int)])) W by
   cases R with
   | error c =>
    have : c = z := HEr.out
    subst this
    rfl
   | ok l => exact absurd HEr.out.symm h0)
  have e1 : ((z : Int) != 0) = true := by simp; omega
  have e2 : ¬ ((z : Int) = 0) := by omega
  clear h0
  go_enter Tryz.func11, Tryz.ntmps11
  go_wp2_with fail
  refine HCk.out.mono ?_
  rintro _ w1 ⟨rfl, f1⟩
  have F1 := hideP f1
  clear f1 HCk
  go_wp2_with fail
  go_ret2
  exact ⟨HX2.out _, F1.out⟩
 subst h0
 obtain ⟨m, rfl⟩ := HE0.out HEr.out
 obtain ⟨q1, q2, q3, hm⟩ := (HIf.out m).1 rfl
 have h40 := (BG.chk_all q1).1
 have HFit := hideP (show ∀ r ∈ ls, Fit ks r from fun r hr => by
  obtain ⟨h8r, hca, hwd⟩ := (BG.chk_all q1).2 r hr
  refine ⟨fun k hk => ?_, hca⟩
  have h1 := List.all_eq_true.1 q3 k hk
  unfold BG.hasC at h1
  have hne : ¬ ls.length = 0 := by intro e; rw [List.length_eq_zero_iff.1 e] at hr; cases hr
  simp only [hne, decide_false, Bool.false_or, Bool.and_eq_true, decide_eq_true_eq] at h1
  rw [hwd]
  exact h1)
 obtain ⟨P, hP⟩ : ∃ P : List Pr, qs.zip ls = P := ⟨_, rfl⟩
 have HPl := hideP (show P.length = ls.length by rw [← hP, List.length_zip]; omega)
 have HP2 := hideP (show P.map (·.2) = ls by rw [← hP]; exact List.map_snd_zip (by omega))
 have HPa := hideP (fun (i : Nat) (hi : i < P.length) => show ∃ b o, a = some ⟨b, o, none⟩ ∧ b < w.heap.size ∧ w.cell? ⟨b, o + i, none⟩ = some (.slice P[i].1.a P[i].1.n P[i].1.c) ∧ IsL cdV w P[i].1.v P[i].2 by
  subst hP
  rw [List.length_zip] at hi
  rw [List.getElem_zip]
  obtain ⟨b, o, e, hb, c0⟩ := HCe.out i (by omega)
  exact ⟨b, o, e, hb, c0, (HRo.out i (by omega) (by omega)).1⟩)
 have HMs := hideP (show m = (BO.sort (plt ks) P).map (·.2) by
  have := BO.map_sort (lt := BG.klt ks) (fun p : Pr => p.2) P
  rw [HP2.out] at this
  rw [hm]
  exact this.symm)
 have HPm := hideP (show ∀ p ∈ P, p.2 ∈ ls from fun p hp => by rw [← HP2.out]; exact List.mem_map_of_mem hp)
 have HCy := hideP (fun (x y : Pr) (hx : x.2 ∈ ls) (hy : y.2 ∈ ls) (hlx : IsL cdV w x.1.v x.2) (hly : IsL cdV w y.1.v y.2) (W : World) (f : Fr w W) => keyLess_any x.1.v y.1.v _ ks x.2 y.2 W (HKy.out.fr f) (hlx.fr f) (hly.fr f) (fun k hk => ⟨((HFit.out _ hx).1 k hk).1, ((HFit.out _ hx).1 k hk).2, ((HFit.out _ hy).1 k hk).2⟩) (HSz.out _ hx) (HSz.out _ hy) (by omega))
 obtain ⟨nL, hnL⟩ : ∃ n, ls.length = n := ⟨_, rfl⟩
 rw [hnL] at HPl h40 HCk ⊢
 clear q1 q2 q3 hm hP HIf HE0 HEr HCe HRo hq hc hL hK hnL HKy HSz
 go_enter Tryz.func11, Tryz.ntmps11
 go_wp2_with fail
 refine HCk.out.mono ?_
 rintro _ w1 ⟨rfl, f1⟩
 have F1 := hideP f1
 clear f1 HCk
 go_wp2_with fail
 go_loopw [7, 8, 9] (fun ov iv _ wr => ∃ i : Nat, iv = .int .i64 i ∧ i ≤ nL ∧ PQ w.heap.size w wr ov (BO.sort (plt ks) (P.take i)) ∧ Fr w wr) (fun _ iv _ _ => nL - (intOf iv).toNat)
 case atStart => exact ⟨0, rfl, Nat.zero_le _, ⟨World.ownsRow_nil _ _ _ _, fun p hp => by rw [List.take_zero] at hp; cases hp⟩, F1.out⟩
 case round =>
  obtain ⟨i, rfl, hi, hO, hfr⟩ := hrel
  obtain ⟨oa, oc, rfl⟩ := own_slice hO.own
  have hsl : (BO.sort (plt ks) (P.take i)).length = i := by rw [BO.sort_len, List.length_take, HPl.out]; omega
  rw [hsl]
  by_cases hlt : i < nL
  case neg =>
   obtain rfl : i = nL := by omega
   have hlt' : ¬ ((i : Int) < (i : Int)) := by omega
   have e9 : P.take i = P := List.take_of_length_le (by rw [HPl.out]; exact Nat.le_refl _)
   rw [hsl, e9] at hO
   have hpr := hO.pr
   rw [← HMs.out] at hpr
   have HO := hideP hpr
   have HF := hideP hfr
   clear hO hfr hpr hsl e9 F1
   go_wp2_with fail
   go_ret2
   exact ⟨⟨_, rfl, HO.out⟩, HF.out⟩
  have hlt' : (i : Int) < (nL : Int) := by omega
  have hiP : i < P.length := by rw [HPl.out]; exact hlt
  obtain ⟨b, o, rfl, hbb, c0, hrw⟩ := HPa.out i hiP
  have htk : BO.sort (plt ks) (P.take (i + 1)) = BO.ins (plt ks) P[i] (BO.sort (plt ks) (P.take i)) := by rw [List.take_succ_eq_append_getElem hiP, BO.sort_snoc]
  have hso := (BO.sort_of (plt_weak ks) (P.take i)).sorted
  have hxm : (P[i]).2 ∈ ls := HPm.out _ (List.getElem_mem hiP)
  have hSm : ∀ p ∈ BO.sort (plt ks) (P.take i), p.2 ∈ ls := fun p hp => HPm.out p (List.mem_of_mem_take ((BO.sort_perm _).mem_iff.1 hp))
  generalize P[i] = x at *
  generalize BO.sort (plt ks) (P.take i) = S at *
  generalize hS2 : BO.sort (plt ks) (P.take (i + 1)) = S2 at *
  have HS2 := hideP hS2
  have HTk := hideP htk
  have HSo := hideP hso
  have HSm := hideP hSm
  have HXm := hideP hxm
  have HRw := hideP hrw
  have HSl := hideP hsl
  have HO := hideP hO
  have HF := hideP hfr
  rw [hsl] at HO
  have d0 := (Below.cell hfr (World.block_lt_of_cell? _ _ c0)).trans c0
  have fA : Fr wr (wr.alloc (.cells #[.slice x.1.a x.1.n x.1.c] 31)) := (Fr.refl _).alloc _
  have HP1 := hideP (show (wr.alloc (.cells #[.slice x.1.a x.1.n x.1.c] 31)).ownsRow w.heap.size 31 1 (.slice oa i oc) i (flat cdS (S.map (·.1))) by have := own_fr hO.own fA; rw [hsl] at this; exact this)
  have HRow := hideP hO.row
  have FA := hideP (hfr.trans fA)
  have HLit := hideP (lit_one cdS wr x.1 31)
  have hsz : w.heap.size ≤ wr.heap.size := hfr.size
  clear htk hso hSm hS2 hsl hO hfr fA c0 hrw hxm
  go_wp2_with (at_builtin; refine wpList_append_L cdS rfl _ _ 22 31 i0 _ 24 rfl Tryz.underlying22 hi0 hz0 hz1 hz2 rfl w.heap.size _ i _ rfl HP1.out (.slice (some ⟨wr.heap.size, 0, none⟩) 1 1) [x.1] rfl HLit.out ?c3 ?c4 ?c5 ?_)
  case c3 => (unfold maxLen; first | omega | (simp <;> omega))
  case c4 => (first | omega | (simp <;> omega))
  case c5 => (first | omega | (simp <;> omega))
  intro v2 wB own2 gr2
  have FB := hideP (show Fr w wB from Below.grown FA.out gr2 (by simp <;> omega) (own_base HP1.out))
  have hpq : PQ w.heap.size w wB v2 (S ++ [x]) := ⟨by
   have e1 : (S ++ [x]).length = i + 1 := by rw [List.length_append, HSl.out]; rfl
   have e2 : (S ++ [x]).map (·.1) = S.map (·.1) ++ [x.1] := by simp
   rw [e1, e2]
   exact own2, fun p hp => by
   rcases List.mem_append.1 hp with hp | hp
   · exact HRow.out p hp
   ·
    rw [List.mem_singleton] at hp
    subst hp
    exact HRw.out⟩
  obtain ⟨g, vc, rfl, hgB, hic⟩ : ∃ g vc, v2 = .slice (some ⟨g, 0, none⟩) (i + 1) vc ∧ w.heap.size ≤ g ∧ i + 1 ≤ vc := by
   rcases own2.2 with ⟨_, h0⟩ | ⟨g, cap, cur, rfl, hB, _, hnc, _⟩
   · simp at h0
   · exact ⟨g, cap, rfl, hB, hnc⟩
  have HQ := hideP hpq
  have HG := hideP hgB
  clear own2 gr2 hpq hgB hic
  go_wp2_with fail
  have hsl9 : S.length = i := HSl.out
  have hi40 : i ≤ 40 := by omega
  obtain ⟨w0, rfl⟩ : ∃ x, x = wr := ⟨_, rfl⟩
  go_loopw [9] (fun jv W => ∃ (pre suf : List Pr) (Jn : Nat), jv = .int .i64 (Jn : Int) ∧ Jn = pre.length ∧ S = pre ++ suf ∧ (∀ y ∈ suf, plt ks x y = true) ∧ PQ w.heap.size w W (.slice (some ⟨g, 0, none⟩) (i + 1) vc) (pre ++ x :: suf) ∧ Fr w W) (fun jv _ => (intOf jv).toNat)
  case atStart => exact ⟨S, [], i, by first | rfl | go_num, hsl9.symm, by simp, by simp, by simpa using HQ.out, FB.out⟩
  case round =>
   obtain ⟨pre, suf, Jn, rfl, hJn, hSp, hsuf, hq2, hf2⟩ := hrel
   clear hsl9
   have hSl2 : pre.length + suf.length = i := by have := HSl.out; rw [hSp, List.length_append] at this; exact this
   have HSp := hideP hSp
   have HSu := hideP hsuf
   have HQ2 := hideP hq2
   have HF2 := hideP hf2
   have HL2 := hideP hSl2
   rcases List.eq_nil_or_concat pre with rfl | ⟨pre', y, rfl⟩
   ·
    have HIn := hideP (show S2 = x :: suf from by
     rw [HTk.out, hSp]
     exact BO.ins_stop (plt_weak ks) (a := []) (by have := HSo.out; rw [hSp] at this; exact this) hsuf (fun y hy => by cases hy))
    have hJ0 : Jn = 0 := hJn
    subst hJ0
    have hFF : (((0 : Nat) : Int) > 0) = False := by simp
    clear hJn hSp hsuf hq2 hf2 hSl2
    go_upto_region 10 with fail
    first
     | go_region
     | skip
    all_goals (
     go_wp2_with fail
     go_roundw
     case rel => exact ⟨i + 1, by go_num, by omega, by rw [HS2.out, HIn.out]; exact HQ2.out.fr (Fr.drew (Fr.refl _)), Fr.drew HF2.out⟩
     case measure => simp [intOf]; omega)
   rw [List.concat_eq_append] at *
   obtain ⟨M, hM⟩ : ∃ M, pre'.length = M := ⟨_, rfl⟩
   have hJ1 : Jn = M + 1 := by rw [hJn]; simp; omega
   subst hJ1
   have hcut : (pre' ++ [y]) ++ x :: suf = pre' ++ y :: x :: suf := by simp
   have hnl : i + 1 = (pre' ++ y :: x :: suf).length := by rw [← hcut]; simp at hSl2 ⊢; omega
   have hq3 : PQ w.heap.size w wr (.slice (some ⟨g, 0, none⟩) (i + 1) vc) (pre' ++ y :: x :: suf) := by rw [← hcut]; exact hq2
   have hMi : M + 1 ≤ i := by simp at hSl2; omega
   have hcy := (hq3.cell hnl).1
   have hcx := (PQ.cell (a := pre' ++ [y]) (x := x) (b := suf) (by simpa using hq3) (by simpa using hnl)).1
   rw [show (pre' ++ [y]).length = M + 1 by simp; omega] at hcx
   rw [hM] at hcy
   have hym : y ∈ S := by rw [hSp]; simp
   have hck := fun W (f : Fr w W) => HCy.out x y HXm.out (HSm.out y hym) HRw.out (hq3.row y (by simp)) W f
   obtain ⟨bb, hbb⟩ : ∃ b, BG.klt ks x.2 y.2 = b := ⟨_, rfl⟩
   rw [hbb] at hck
   obtain ⟨⟨xa, xn, xc⟩, xl⟩ := x
   obtain ⟨⟨ya, yn, yc⟩, yl⟩ := y
   simp only [Sq.v] at hck hcx hcy
   have HBb := hideP (show plt ks ((⟨xa, xn, xc⟩, xl) : Pr) ((⟨ya, yn, yc⟩, yl) : Pr) = bb from hbb)
   have HCk := hideP hck
   have HS := hideP (show wr.cell? ⟨g, M + 1, none⟩ = some (.slice xa xn xc) ∧ wr.cell? ⟨g, M, none⟩ = some (.slice ya yn yc) from ⟨hcx, hcy⟩)
   have HQ3 := hideP hq3
   have HNl := hideP hnl
   have HMe := hideP hM
   have h1 : (M : Int) + 1 < (i : Int) + 1 := by omega
   have h2 : (M : Int) < (i : Int) + 1 := by omega
   have h3 : (0 : Int) ≤ (M : Int) + 1 := by omega
   have h4 : IntKind.i64.wrap ((M : Int) + 1 - 1) = (M : Int) := by rw [IntKind.wrap_i64]; omega
   have h5 : IntKind.i64.wrap (M : Int) = (M : Int) := by rw [IntKind.wrap_i64]; omega
   have h6 : (((M : Int) + 1) < 0) = False := by simp; omega
   have h7 : (0 : Int) < (M : Int) + 1 := by omega
   have hz := Fr.drew (Fr.refl wr)
   clear hcut hnl hq2 hq3 hcy hcx hck hbb hsuf hSp hf2 hSl2 hym hM hJn
   go_upto_region 10 with fail
   go_region_held3 (fun W => W.cell? ⟨g, M + 1, none⟩ = some (.slice xa xn xc) ∧ W.cell? ⟨g, M, none⟩ = some (.slice ya yn yc)) (first | exact HS.out | exact c2_after hz HS.out | exact c2_after hf9 HS.out) (first
    | (go_at_call 14; refine (HCk.out _ (HF2.out.trans hz)).mono ?_; rintro _ w3 ⟨rfl, f3⟩; have hf9 := hz.trans f3; clear f3))
   all_goals (
    have F9 := hideP (HF2.out.trans hf9)
    have HQ9 := hideP (HQ3.out.fr hf9)
    obtain ⟨cx, cy⟩ := c2_after hf9 HS.out
    clear hf9 hz HS HQ3 HQ2
    cases bb with
    | true =>
     have zx := (PQ.cell (a := pre' ++ [((⟨ya, yn, yc⟩, yl) : Pr)]) (x := ((⟨xa, xn, xc⟩, xl) : Pr)) (b := suf) (by simpa using HQ9.out) (by simpa using HNl.out)).2
     rw [show (pre' ++ [((⟨ya, yn, yc⟩, yl) : Pr)]).length = M + 1 by simp; have := HMe.out; omega] at zx
     have hsw := HQ9.out.swap HNl.out
     have hw1 := own_set1 (n := i + 1) (by have := HQ9.out.own; rw [← HNl.out] at this; exact this) (M + 1) (.slice ya yn yc)
     have hyy : ((flat cdS ((pre' ++ ((⟨ya, yn, yc⟩, yl) : Pr) :: ((⟨xa, xn, xc⟩, xl) : Pr) :: suf).map (·.1))).set (M + 1) (.slice ya yn yc))[M]? = some (.slice ya yn yc) := by
      rw [List.getElem?_set_ne (by omega), flat_S, ← HMe.out]
      simp
     have hc2 := own_cell1 hw1 hyy
     rw [HMe.out] at hsw
     have HSw := hideP (hsw.fr (Fr.drew (Fr.refl _)))
     have HFw := hideP ((F9.out.set2 (i := M + 1) (j := M) (u := .slice ya yn yc) (v := .slice xa xn xc) HG.out).trans (Fr.drew (Fr.refl _)))
     obtain ⟨cy2, zy2⟩ := hc2
     clear hsw hw1 hyy HQ9 F9
     go_wp2_with fail
     go_region
     go_wp2_with fail
     go_roundw
     case rel => exact ⟨pre', ((⟨ya, yn, yc⟩, yl) : Pr) :: suf, M, by go_num, HMe.out.symm, by rw [HSp.out]; simp, fun z hz => by
      rcases List.mem_cons.1 hz with rfl | hz
      · exact HBb.out
      · exact HSu.out z hz, by have h9 := HSw.out; simpa using h9, HFw.out⟩
     case measure => simp [intOf]
    | false =>
     have HIn := hideP (show S2 = (pre' ++ [((⟨ya, yn, yc⟩, yl) : Pr)]) ++ ((⟨xa, xn, xc⟩, xl) : Pr) :: suf from by
      rw [HTk.out, HSp.out]
      refine BO.ins_stop (plt_weak ks) (by have := HSo.out; rw [HSp.out] at this; exact this) HSu.out (fun z hz => ?_)
      rw [List.getLast?_concat] at hz
      cases hz
      exact HBb.out)
     have HQ8 := hideP (show PQ w.heap.size w w3 (.slice (some ⟨g, 0, none⟩) (i + 1) vc) S2 from by rw [HIn.out]; simpa using HQ9.out)
     clear cx cy HQ9
     go_wp2_with fail
     go_roundw
     case rel => exact ⟨i + 1, by go_num, by omega, by rw [HS2.out]; exact HQ8.out, F9.out⟩
     case measure => simp [intOf]; omega)
end Go.Proofs.YtbcfdhimngoplaaGreatDoor
