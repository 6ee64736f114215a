/-
  What the document's own ShownOf and LiteralOf answer.
-/
import Derived.Test.YtjadmefiilkgmaaGreatDoorLtC
import Derived.Test.YtjadmefiilkgmaaGreatDoorLtE
namespace Go.Proofs.YtjadmefiilkgmaaGreatDoor
open Go.ChangeShapes Go.WideShapes Go.ChangeAt Go.RowKit
set_option linter.unusedVariables false
set_option linter.unusedSimpArgs false
set_option maxRecDepth 100000

theorem shownOf_null (s : ByteArray) (n : Int) (w : World) :
    Calls Tryz.prog 20 #[.agg #[.int .i64 0, .int .i64 n, .string s]] w fun e w' => e = .returned (.string ⟨#[78, 85, 76, 76]⟩) ∧ Fr w w' := by
  go_enter Tryz.func20, Tryz.ntmps20
  go_wp2_with fail
  go_ret
  exact ⟨rfl, (Fr.refl _).alloc _⟩
theorem shownOf_int (s : ByteArray) (n : Int) (w : World) (h0 : -9223372036854775808 ≤ n) (h1 : n ≤ 9223372036854775807) :
    Calls Tryz.prog 20 #[.agg #[.int .i64 1, .int .i64 n, .string s]] w fun e w' => e = .returned (.string ⟨(Lib.itoa n).toArray⟩) ∧ Fr w w' := by
  have hc := fun W => intText_any n W h0 h1
  go_enter Tryz.func20, Tryz.ntmps20
  go_wp2_with fail
  refine (hc _).mono ?_
  rintro _ w1 ⟨rfl, f1⟩
  have F1 : Hid _ := f1
  clear f1 hc
  go_wp2_with fail
  go_ret
  exact ⟨rfl, Fr.trans ((Fr.refl w).alloc _) F1.out⟩
theorem shownOf_any (x : VM.Vl) (w : World) (hc : VM.chk x = 0) (h0 : -9223372036854775808 ≤ x.n) (h1 : x.n ≤ 9223372036854775807) :
    Calls Tryz.prog 20 #[x.val] w fun e w' => e = .returned (.string ⟨(shn x).toArray⟩) ∧ Fr w w' := by
  obtain ⟨hk, _, _, hs⟩ := chk_zero hc
  unfold shn
  rw [if_pos hc]
  obtain ⟨k, n, s⟩ := x
  simp only at *
  unfold VM.Vl.val VS.shw
  simp only
  obtain rfl | rfl | rfl | rfl : k = 0 ∨ k = 1 ∨ k = 2 ∨ k = 3 := by omega
  · exact shownOf_null s n w
  · exact shownOf_int s n w h0 h1
  · exact shownOf_text s n w hs
  · exact shownOf_blob s n w hs

theorem lit_nul {l : VS.Bs} (h : l = VS.nul) : VS.lit l = ⟨0, 0, [], 0⟩ := by unfold VS.lit; rw [if_pos h]
theorem lit_txt {l t : VS.Bs} (h : l ≠ VS.nul) (h2 : VS.quo l = some t) : VS.lit l = VS.txt 2 (some t) := by unfold VS.lit; rw [if_neg h, h2]
theorem lit_blb {l t : VS.Bs} (h : l ≠ VS.nul) (h2 : VS.quo l = none) (h3 : VS.hexd l = some t) : VS.lit l = VS.txt 3 (some t) := by unfold VS.lit; rw [if_neg h, h2]; simp only; rw [h3]
theorem lit_int {l : VS.Bs} (h : l ≠ VS.nul) (h2 : VS.quo l = none) (h3 : VS.hexd l = none) : VS.lit l = VS.num (VS.iof (VS.blw l) (VS.cut l)) := by unfold VS.lit; rw [if_neg h, h2]; simp only; rw [h3]

set_option maxHeartbeats 4000000 in
theorem literalOf_any (S : ByteArray) (w : World) (hs : S.size ≤ 140737488355327) :
    Calls Tryz.prog 21 #[.string S] w fun e w' => e = .returned (.tuple #[rdV (VS.lit S.data.toList), .int .i64 (VS.lit S.data.toList).e]) ∧ Fr w w' := by
  obtain ⟨W0, hW0⟩ : ∃ W0, w.alloc (.cells #[.int .i64 0, .int .i64 0, .string ⟨#[]⟩] 23) = W0 := ⟨_, rfl⟩
  have f0 : Fr w W0 := by rw [← hW0]; exact (Fr.refl w).alloc _
  have hb0 : Bx W0 w.heap.size 0 0 ⟨#[]⟩ := by rw [← hW0]; exact Bx.new _ _ _ _
  have HW : Hid _ := hW0
  have cq := fun W => quotedR_any S W hs
  have ch := fun W => hexedR_any S W hs
  clear hW0
  by_cases hn : S.data.toList = VS.nul
  · have HR : Hid _ := lit_nul hn
    obtain rfl : S = ⟨#[78, 85, 76, 76]⟩ := by rw [← dl_eq S, hn]; rfl
    generalize VS.lit _ = r at *
    clear cq ch
    go_enter Tryz.func21, Tryz.ntmps21
    go_wp2_with fail
    refine bodyPost_ret (v := .tuple #[.agg #[.int .i64 0, .int .i64 0, .string ⟨#[]⟩], .int .i64 0]) (by simp [results, Tryz.results21, go_sem]) rfl ?_
    exact ⟨by rw [HR.out]; rfl, (Fr.refl w).alloc _⟩
  have n1 : (S.toList == [78, 85, 76, 76]) = false := beq_false_of_ne (by rw [Lib.toList_data]; exact hn)
  have n2 : ¬ S.toList = [78, 85, 76, 76] := by rw [Lib.toList_data]; exact hn
  cases hq : VS.quo S.data.toList with
  | some t =>
    have HR : Hid _ := lit_txt hn hq
    rw [hq] at cq
    generalize VS.lit S.data.toList = r at *
    have ht : (⟨t.toArray⟩ : ByteArray).size = t.length := by simp [ByteArray.size]
    have cq' : ∀ W, Calls Tryz.prog 49 #[.string S] W fun e w' => e = .returned (.tuple #[.string ⟨t.toArray⟩, .bool true]) ∧ w' = W := cq
    obtain ⟨T, hT⟩ : ∃ T : ByteArray, (⟨t.toArray⟩ : ByteArray) = T := ⟨_, rfl⟩
    rw [hT] at cq' ht
    have HT : Hid _ := hT
    clear hq hn ch cq hT
    by_cases h16 : 16 < t.length
    · have h16' : (16 : Int) < (T.size : Int) := by omega
      have HX : Hid (r = VS.bad 2) := by unfold Hid; rw [HR.out]; exact if_pos h16
      clear HR ht
      go_enter Tryz.func21, Tryz.ntmps21
      go_wp2_with fail
      rw [HW.out]
      refine (cq' _).mono ?_
      rintro _ w1 ⟨rfl, rfl⟩
      have d0 := hb0.c0
      have d1 := hb0.c1
      have d2 := hb0.c2
      have z0 := hb0.z 0
      have z1 := hb0.z 1
      have z2 := hb0.z 2
      have F1 : Hid _ := f0
      clear hb0 f0 cq' HW
      go_wp2_with fail
      refine bodyPost_ret (v := .tuple #[.agg #[.int .i64 0, .int .i64 0, .string ⟨#[]⟩], .int .i64 2]) (by simp [results, Tryz.results21, go_sem, d0, d1, d2]) rfl ?_
      exact ⟨by rw [HX.out]; rfl, fr_set3 F1.out (Nat.le_refl _) _ _ _⟩
    · have h16' : ¬ (16 : Int) < (T.size : Int) := by omega
      have HX : Hid (r = ⟨2, 0, t, 0⟩) := by unfold Hid; rw [HR.out]; exact if_neg h16
      clear HR ht
      go_enter Tryz.func21, Tryz.ntmps21
      go_wp2_with fail
      rw [HW.out]
      refine (cq' _).mono ?_
      rintro _ w1 ⟨rfl, rfl⟩
      have d0 := hb0.c0
      have d1 := hb0.c1
      have d2 := hb0.c2
      have z0 := hb0.z 0
      have z1 := hb0.z 1
      have z2 := hb0.z 2
      have F1 : Hid _ := f0
      clear hb0 f0 cq' HW
      go_wp2_with fail
      refine bodyPost_ret (v := .tuple #[.agg #[.int .i64 2, .int .i64 0, .string T], .int .i64 0]) (by simp [results, Tryz.results21, go_sem, d0, d1, d2]) rfl ?_
      exact ⟨by rw [HX.out, ← HT.out]; rfl, fr_set3 F1.out (Nat.le_refl _) _ _ _⟩
  | none =>
    have cq' : ∀ W, Calls Tryz.prog 49 #[.string S] W fun e w' => e = .returned (.tuple #[.string ⟨#[]⟩, .bool false]) ∧ w' = W := by rw [hq] at cq; exact cq
    clear cq
    cases hx : VS.hexd S.data.toList with
    | some t =>
      have HR : Hid _ := lit_blb hn hq hx
      have ch' : ∀ W, Calls Tryz.prog 50 #[.string S] W fun e w' => e = .returned (.tuple #[.string ⟨t.toArray⟩, .bool true]) ∧ Fr W w' := by rw [hx] at ch; exact ch
      generalize VS.lit S.data.toList = r at *
      have ht : (⟨t.toArray⟩ : ByteArray).size = t.length := by simp [ByteArray.size]
      obtain ⟨T, hT⟩ : ∃ T : ByteArray, (⟨t.toArray⟩ : ByteArray) = T := ⟨_, rfl⟩
      rw [hT] at ch' ht
      have HT : Hid _ := hT
      clear hq hn ch hT hx
      by_cases h16 : 16 < t.length
      · have h16' : (16 : Int) < (T.size : Int) := by omega
        have HX : Hid (r = VS.bad 2) := by unfold Hid; rw [HR.out]; exact if_pos h16
        clear HR ht
        go_enter Tryz.func21, Tryz.ntmps21
        go_wp2_with fail
        rw [HW.out]
        refine (cq' _).mono ?_
        rintro _ w1 ⟨rfl, rfl⟩
        go_wp2_with fail
        refine (ch' _).mono ?_
        rintro _ w2 ⟨rfl, f2⟩
        have hb1 := hb0.fr f2
        have d0 := hb1.c0
        have d1 := hb1.c1
        have d2 := hb1.c2
        have z0 := hb1.z 0
        have z1 := hb1.z 1
        have z2 := hb1.z 2
        have F1 : Hid (Fr w w2) := Fr.trans f0 f2
        clear hb0 hb1 f0 f2 cq' ch' HW
        go_wp2_with fail
        refine bodyPost_ret (v := .tuple #[.agg #[.int .i64 0, .int .i64 0, .string ⟨#[]⟩], .int .i64 2]) (by simp [results, Tryz.results21, go_sem, d0, d1, d2]) rfl ?_
        exact ⟨by rw [HX.out]; rfl, fr_set3 F1.out (Nat.le_refl _) _ _ _⟩
      · have h16' : ¬ (16 : Int) < (T.size : Int) := by omega
        have HX : Hid (r = ⟨3, 0, t, 0⟩) := by unfold Hid; rw [HR.out]; exact if_neg h16
        clear HR ht
        go_enter Tryz.func21, Tryz.ntmps21
        go_wp2_with fail
        rw [HW.out]
        refine (cq' _).mono ?_
        rintro _ w1 ⟨rfl, rfl⟩
        go_wp2_with fail
        refine (ch' _).mono ?_
        rintro _ w2 ⟨rfl, f2⟩
        have hb1 := hb0.fr f2
        have d0 := hb1.c0
        have d1 := hb1.c1
        have d2 := hb1.c2
        have z0 := hb1.z 0
        have z1 := hb1.z 1
        have z2 := hb1.z 2
        have F1 : Hid (Fr w w2) := Fr.trans f0 f2
        clear hb0 hb1 f0 f2 cq' ch' HW
        go_wp2_with fail
        refine bodyPost_ret (v := .tuple #[.agg #[.int .i64 3, .int .i64 0, .string T], .int .i64 0]) (by simp [results, Tryz.results21, go_sem, d0, d1, d2]) rfl ?_
        exact ⟨by rw [HX.out, ← HT.out]; rfl, fr_set3 F1.out (Nat.le_refl _) _ _ _⟩
    | none =>
      have HR : Hid _ := lit_int hn hq hx
      have ch' : ∀ W, Calls Tryz.prog 50 #[.string S] W fun e w' => e = .returned (.tuple #[.string ⟨#[]⟩, .bool false]) ∧ Fr W w' := by rw [hx] at ch; exact ch
      clear hq hx ch
      -- the number
      have way : ∃ (b : Bool) (T : ByteArray) (rn : Int) (re : Nat), VS.lit S.data.toList = VS.num (rn, re) ∧ ((b = true ∧ (∃ h : 0 < S.size, S[0].toNat = 45) ∧ T = S.extract 1 S.size) ∨ (b = false ∧ (S.size = 0 ∨ ∃ h : 0 < S.size, S[0].toNat ≠ 45) ∧ T = S)) ∧ ∀ W, Calls Tryz.prog 51 #[.string T, .bool b] W fun e w' => e = .returned (.tuple #[.int .i64 rn, .int .i64 (re : Nat)]) ∧ Fr W w' := by
        by_cases hp : 0 < S.size
        · have hc := List.drop_eq_getElem_cons (l := S.data.toList) (i := 0) (by rw [dlen]; exact hp)
          rw [List.drop_zero, dget S 0 hp] at hc
          by_cases h45 : S[0].toNat = 45
          · have e1 : VS.blw S.data.toList = true := by rw [hc]; simp [VS.blw, h45]
            have e2 : (S.extract 1 S.size).data.toList = VS.cut S.data.toList := by
              unfold VS.cut
              rw [e1, if_pos rfl]
              have : (S.extract 1 S.size).data.toList = (S.data.toList.drop 1).take (S.size - 1) := by simp
              rw [this, List.take_of_length_le (by rw [List.length_drop, dlen]; exact Nat.le_refl _), List.drop_one]
            refine ⟨true, S.extract 1 S.size, _, _, ?_, Or.inl ⟨rfl, ⟨hp, h45⟩, rfl⟩, fun W => intOfR_any (S.extract 1 S.size) true W (by rw [ByteArray.size_extract]; omega)⟩
            rw [HR.out, e1, e2]
          · have e1 : VS.blw S.data.toList = false := by rw [hc]; simp [VS.blw, h45]
            have e2 : VS.cut S.data.toList = S.data.toList := by unfold VS.cut; rw [e1]; rfl
            refine ⟨false, S, _, _, ?_, Or.inr ⟨rfl, Or.inr ⟨hp, h45⟩, rfl⟩, fun W => intOfR_any S false W hs⟩
            rw [HR.out, e1, e2]
        · have hnil : S.data.toList = [] := List.length_eq_zero_iff.1 (by rw [dlen]; omega)
          refine ⟨false, S, _, _, ?_, Or.inr ⟨rfl, Or.inl (by omega), rfl⟩, fun W => intOfR_any S false W hs⟩
          rw [HR.out, hnil]
          rfl
      obtain ⟨b, T, rn, re, hl, hw, ci⟩ := way
      have HL : Hid _ := hl
      generalize VS.lit S.data.toList = r at *
      clear HR hl hn
      have hre : re = 0 ∨ re ≠ 0 := by omega
      rcases hw with ⟨rfl, ⟨hp, h45⟩, hTS⟩ | ⟨rfl, h0 | ⟨hp, h45⟩, hTS⟩
      all_goals rw [hTS] at ci
      all_goals clear hTS
      · have hp' : (0 : Int) < (S.size : Int) := by omega
        have h45' : (S[0].toNat : Int) = 45 := by omega
        have h1p : (1 : Int) ≤ (S.size : Int) := by omega
        rcases hre with rfl | hre
        · have HX : Hid (r = ⟨1, rn, [], 0⟩) := HL.out
          go_enter Tryz.func21, Tryz.ntmps21
          go_wp2_with fail
          rw [HW.out]
          refine (cq' _).mono ?_
          rintro _ w1 ⟨rfl, rfl⟩
          go_wp2_with fail
          refine (ch' _).mono ?_
          rintro _ w2 ⟨rfl, f2⟩
          go_wp2_with fail
          refine (ci _).mono ?_
          rintro _ w3 ⟨rfl, f3⟩
          have hb1 := (hb0.fr f2).fr f3
          have d0 := hb1.c0
          have d1 := hb1.c1
          have d2 := hb1.c2
          have z0 := hb1.z 0
          have z1 := hb1.z 1
          have z2 := hb1.z 2
          have F1 : Hid (Fr w w3) := Fr.trans (Fr.trans f0 f2) f3
          clear hb0 hb1 f0 f2 f3 cq' ch' ci HW
          go_wp2_with fail
          refine bodyPost_ret (v := .tuple #[.agg #[.int .i64 1, .int .i64 rn, .string ⟨#[]⟩], .int .i64 0]) (by simp [results, Tryz.results21, go_sem, d0, d1, d2]) rfl ?_
          exact ⟨by rw [HX.out]; rfl, fr_set3 F1.out (Nat.le_refl _) _ _ _⟩
        · have HX : Hid (r = VS.bad re) := HL.out.trans (if_neg hre)
          have q1 : ((re : Int) != 0) = true := by simp; omega
          have q2 : ¬ ((re : Int) = 0) := by omega
          clear hre
          go_enter Tryz.func21, Tryz.ntmps21
          go_wp2_with fail
          rw [HW.out]
          refine (cq' _).mono ?_
          rintro _ w1 ⟨rfl, rfl⟩
          go_wp2_with fail
          refine (ch' _).mono ?_
          rintro _ w2 ⟨rfl, f2⟩
          go_wp2_with fail
          refine (ci _).mono ?_
          rintro _ w3 ⟨rfl, f3⟩
          have hb1 := (hb0.fr f2).fr f3
          have d0 := hb1.c0
          have d1 := hb1.c1
          have d2 := hb1.c2
          have z0 := hb1.z 0
          have z1 := hb1.z 1
          have z2 := hb1.z 2
          have F1 : Hid (Fr w w3) := Fr.trans (Fr.trans f0 f2) f3
          clear hb0 hb1 f0 f2 f3 cq' ch' ci HW
          go_wp2_with fail
          refine bodyPost_ret (v := .tuple #[.agg #[.int .i64 0, .int .i64 0, .string ⟨#[]⟩], .int .i64 re]) (by simp [results, Tryz.results21, go_sem, d0, d1, d2]) rfl ?_
          exact ⟨by rw [HX.out]; rfl, fr_set3 F1.out (Nat.le_refl _) _ _ _⟩
      · have h0' : (S.size : Int) = 0 := by omega
        rcases hre with rfl | hre
        · have HX : Hid (r = ⟨1, rn, [], 0⟩) := HL.out
          go_enter Tryz.func21, Tryz.ntmps21
          go_wp2_with fail
          rw [HW.out]
          refine (cq' _).mono ?_
          rintro _ w1 ⟨rfl, rfl⟩
          go_wp2_with fail
          refine (ch' _).mono ?_
          rintro _ w2 ⟨rfl, f2⟩
          go_wp2_with fail
          refine (ci _).mono ?_
          rintro _ w3 ⟨rfl, f3⟩
          have hb1 := (hb0.fr f2).fr f3
          have d0 := hb1.c0
          have d1 := hb1.c1
          have d2 := hb1.c2
          have z0 := hb1.z 0
          have z1 := hb1.z 1
          have z2 := hb1.z 2
          have F1 : Hid (Fr w w3) := Fr.trans (Fr.trans f0 f2) f3
          clear hb0 hb1 f0 f2 f3 cq' ch' ci HW
          go_wp2_with fail
          refine bodyPost_ret (v := .tuple #[.agg #[.int .i64 1, .int .i64 rn, .string ⟨#[]⟩], .int .i64 0]) (by simp [results, Tryz.results21, go_sem, d0, d1, d2]) rfl ?_
          exact ⟨by rw [HX.out]; rfl, fr_set3 F1.out (Nat.le_refl _) _ _ _⟩
        · have HX : Hid (r = VS.bad re) := HL.out.trans (if_neg hre)
          have q1 : ((re : Int) != 0) = true := by simp; omega
          have q2 : ¬ ((re : Int) = 0) := by omega
          clear hre
          go_enter Tryz.func21, Tryz.ntmps21
          go_wp2_with fail
          rw [HW.out]
          refine (cq' _).mono ?_
          rintro _ w1 ⟨rfl, rfl⟩
          go_wp2_with fail
          refine (ch' _).mono ?_
          rintro _ w2 ⟨rfl, f2⟩
          go_wp2_with fail
          refine (ci _).mono ?_
          rintro _ w3 ⟨rfl, f3⟩
          have hb1 := (hb0.fr f2).fr f3
          have d0 := hb1.c0
          have d1 := hb1.c1
          have d2 := hb1.c2
          have z0 := hb1.z 0
          have z1 := hb1.z 1
          have z2 := hb1.z 2
          have F1 : Hid (Fr w w3) := Fr.trans (Fr.trans f0 f2) f3
          clear hb0 hb1 f0 f2 f3 cq' ch' ci HW
          go_wp2_with fail
          refine bodyPost_ret (v := .tuple #[.agg #[.int .i64 0, .int .i64 0, .string ⟨#[]⟩], .int .i64 re]) (by simp [results, Tryz.results21, go_sem, d0, d1, d2]) rfl ?_
          exact ⟨by rw [HX.out]; rfl, fr_set3 F1.out (Nat.le_refl _) _ _ _⟩
      · have hp' : (0 : Int) < (S.size : Int) := by omega
        have h45' : ¬ (S[0].toNat : Int) = 45 := by omega
        have h45b : ((S[0].toNat : Int) == 45) = false := by rw [beq_eq_false_iff_ne]; omega
        rcases hre with rfl | hre
        · have HX : Hid (r = ⟨1, rn, [], 0⟩) := HL.out
          go_enter Tryz.func21, Tryz.ntmps21
          go_wp2_with fail
          rw [HW.out]
          refine (cq' _).mono ?_
          rintro _ w1 ⟨rfl, rfl⟩
          go_wp2_with fail
          refine (ch' _).mono ?_
          rintro _ w2 ⟨rfl, f2⟩
          go_wp2_with fail
          refine (ci _).mono ?_
          rintro _ w3 ⟨rfl, f3⟩
          have hb1 := (hb0.fr f2).fr f3
          have d0 := hb1.c0
          have d1 := hb1.c1
          have d2 := hb1.c2
          have z0 := hb1.z 0
          have z1 := hb1.z 1
          have z2 := hb1.z 2
          have F1 : Hid (Fr w w3) := Fr.trans (Fr.trans f0 f2) f3
          clear hb0 hb1 f0 f2 f3 cq' ch' ci HW
          go_wp2_with fail
          refine bodyPost_ret (v := .tuple #[.agg #[.int .i64 1, .int .i64 rn, .string ⟨#[]⟩], .int .i64 0]) (by simp [results, Tryz.results21, go_sem, d0, d1, d2]) rfl ?_
          exact ⟨by rw [HX.out]; rfl, fr_set3 F1.out (Nat.le_refl _) _ _ _⟩
        · have HX : Hid (r = VS.bad re) := HL.out.trans (if_neg hre)
          have q1 : ((re : Int) != 0) = true := by simp; omega
          have q2 : ¬ ((re : Int) = 0) := by omega
          clear hre
          go_enter Tryz.func21, Tryz.ntmps21
          go_wp2_with fail
          rw [HW.out]
          refine (cq' _).mono ?_
          rintro _ w1 ⟨rfl, rfl⟩
          go_wp2_with fail
          refine (ch' _).mono ?_
          rintro _ w2 ⟨rfl, f2⟩
          go_wp2_with fail
          refine (ci _).mono ?_
          rintro _ w3 ⟨rfl, f3⟩
          have hb1 := (hb0.fr f2).fr f3
          have d0 := hb1.c0
          have d1 := hb1.c1
          have d2 := hb1.c2
          have z0 := hb1.z 0
          have z1 := hb1.z 1
          have z2 := hb1.z 2
          have F1 : Hid (Fr w w3) := Fr.trans (Fr.trans f0 f2) f3
          clear hb0 hb1 f0 f2 f3 cq' ch' ci HW
          go_wp2_with fail
          refine bodyPost_ret (v := .tuple #[.agg #[.int .i64 0, .int .i64 0, .string ⟨#[]⟩], .int .i64 re]) (by simp [results, Tryz.results21, go_sem, d0, d1, d2]) rfl ?_
          exact ⟨by rw [HX.out]; rfl, fr_set3 F1.out (Nat.le_refl _) _ _ _⟩
end Go.Proofs.YtjadmefiilkgmaaGreatDoor
