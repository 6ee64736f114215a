/-
  Of of package value, for every text that is not longer than memory.
-/
import Derived.Test.YtoagobpkenfbkaaGreatDoorOfC
namespace Go.Proofs.YtoagobpkenfbkaaGreatDoor
open Go.ChangeShapes Go.WideShapes Go.ChangeAt Go.RowKit Go.Shelf
set_option linter.unusedVariables false
set_option linter.unusedSimpArgs false

theorem rd_nul {l : VS.Bs} (h : l = VS.nul) : VS.rd l = ⟨0, 0, [], 0⟩ := by unfold VS.rd; rw [if_pos h]
theorem rd_dec {l : VS.Bs} (h : l ≠ VS.nul) (h2 : VS.isDec l = true) : VS.rd l = VS.int l := by unfold VS.rd; rw [if_neg h, if_pos h2]
theorem rd_txt {l t : VS.Bs} (h : l ≠ VS.nul) (h2 : VS.isDec l = false) (h3 : VS.unq l = some t) : VS.rd l = VS.txt 2 (VS.undbl t) := by unfold VS.rd; rw [if_neg h, if_neg (by rw [h2]; decide), h3]
theorem rd_blb {l t : VS.Bs} (h : l ≠ VS.nul) (h2 : VS.isDec l = false) (h3 : VS.unq l = none) (h4 : VS.unq (VS.trx l) = some t) : VS.rd l = VS.txt 3 (VS.unhx t) := by unfold VS.rd; rw [if_neg h, if_neg (by rw [h2]; decide), h3]; simp only; rw [h4]
theorem rd_bad {l : VS.Bs} (h : l ≠ VS.nul) (h2 : VS.isDec l = false) (h3 : VS.unq l = none) (h4 : VS.unq (VS.trx l) = none) : VS.rd l = VS.bad 1 := by unfold VS.rd; rw [if_neg h, if_neg (by rw [h2]; decide), h3]; simp only; rw [h4]
theorem txt_form (k : Int) (o : Option VS.Bs) : ∃ a b c d, VS.txt k o = ⟨a, b, c, d⟩ := ⟨_, _, _, _, rfl⟩

/-- what textOf answers of what was undone -/
theorem textOf_any (k : Int) (o : Option VS.Bs) (w : World) (hk : k = 2 ∨ k = 3) : Calls Tryz.prog 83 #[.int .i64 k, .string ⟨(o.getD []).toArray⟩, .bool o.isSome] w fun e w' => e = .returned (.tuple #[rdV (VS.txt k o), .int .i64 (VS.txt k o).e]) ∧ Fr w w' := by
  cases o with
  | none => exact textOf_none k _ w
  | some u => exact textOf_some k ⟨u.toArray⟩ w hk
/-- what unquoted answers -/
theorem unquoted_some (S : ByteArray) (t : VS.Bs) (w : World) (hs : S.size ≤ 140737488355327) (h : VS.unq S.data.toList = some t) :
    Calls Tryz.prog 81 #[.string S] w fun e w' => e = .returned (.tuple #[.string ⟨t.toArray⟩, .bool true]) ∧ Fr w w' := by
  have c := unquoted_any S w hs
  rw [VS.unq_by] at h
  split at h
  · rename_i hb
    rw [hb, Option.some.inj h] at c
    exact c
  · cases h
theorem unq_len {l t : VS.Bs} (h : VS.unq l = some t) : t.length ≤ l.length := by
  rw [VS.unq_by] at h
  split at h
  · rw [← Option.some.inj h]
    have := trimS_len (Lib.trimPrefix l [39]) [39]
    have := trim_len l [39]
    omega
  · cases h

set_option maxRecDepth 100000 in
set_option maxHeartbeats 2000000 in
theorem of_any (S : ByteArray) (w : World) (hs : S.size ≤ 140737488355327) (hT : Tb w) :
    Calls Tryz.prog 58 #[.string S] w fun e w' => e = .returned (.tuple #[rdV (VS.rd S.data.toList), .int .i64 (VS.rd S.data.toList).e]) ∧ Fr w w' := by
  obtain ⟨W0, hW0⟩ : ∃ W0, w.alloc (.cells #[.int .i64 0, .int .i64 0, .string ⟨#[]⟩] 48) = W0 := ⟨_, rfl⟩
  have f0 : Fr w W0 := by rw [← hW0]; exact (Fr.refl w).alloc _
  have hb0 : Bx W0 w.heap.size 0 0 ⟨#[]⟩ := by rw [← hW0]; exact Bx.new _ _ _ _
  have HW : Hid _ := hW0
  clear hW0
  by_cases hn : S.data.toList = VS.nul
  · have HR : Hid _ := rd_nul hn
    obtain rfl : S = ⟨#[78, 85, 76, 76]⟩ := by rw [← dl_eq S, hn]; rfl
    generalize VS.rd _ = r at *
    go_enter Tryz.func58, Tryz.ntmps58
    go_wp2_with fail
    refine bodyPost_ret (v := .tuple #[.agg #[.int .i64 0, .int .i64 0, .string ⟨#[]⟩], .int .i64 0]) (by simp [results, Tryz.results58, go_sem]) rfl ?_
    exact ⟨by rw [HR.out]; rfl, (Fr.refl w).alloc _⟩
  · have n1 : (S.toList == [78, 85, 76, 76]) = false := beq_false_of_ne (by rw [Lib.toList_data]; exact hn)
    have n2 : ¬ S.toList = [78, 85, 76, 76] := by rw [Lib.toList_data]; exact hn
    have hdc := isDecimal_any S W0 (by omega)
    by_cases hd : VS.isDec S.data.toList = true
    · have HR : Hid _ := rd_dec hn hd
      have hio := fun W hTW => intOf_any S W hs hd hTW
      rw [hd] at hdc
      generalize VS.int S.data.toList = q at HR hio
      obtain ⟨a, b, c, d⟩ := q
      generalize VS.rd _ = r at *
      clear hd hn
      go_enter Tryz.func58, Tryz.ntmps58
      go_wp2_with fail
      rw [HW.out]
      refine hdc.mono ?_
      rintro _ w1 ⟨rfl, f1⟩
      have c2 := hio w1 (hT.fr (f0.trans f1))
      clear hdc hio
      unfold rdV at c2
      go_wp2_with fail
      refine c2.mono ?_
      rintro _ w2 ⟨rfl, f2⟩
      have hb1 := hb0.fr (f1.trans f2)
      have d0 := hb1.c0
      have d1 := hb1.c1
      have d2 := hb1.c2
      have z0 := hb1.z 0
      have z1 := hb1.z 1
      have z2 := hb1.z 2
      have F1 : Hid (Fr w w2) := f0.trans (f1.trans f2)
      clear f1 f2 c2 hb0 f0 HW hb1
      go_wp2_with fail
      refine bodyPost_ret (v := .tuple #[.agg #[.int .i64 a, .int .i64 b, .string ⟨c.toArray⟩], .int .i64 d]) (by simp [results, Tryz.results58, go_sem, d0, d1, d2]) rfl ?_
      exact ⟨by rw [HR.out]; rfl, fr_set3 F1.out (Nat.le_refl _) _ _ _⟩
    · rw [Bool.not_eq_true] at hd
      rw [hd] at hdc
      cases hu : VS.unq S.data.toList with
      | some t =>
        have HR : Hid _ := rd_txt hn hd hu
        have htl := unq_len hu
        rw [dl_size] at htl
        have huq := fun W => unquoted_some S t W hs hu
        have hud := fun W => undoubled_any ⟨t.toArray⟩ W (by rw [mk_size]; omega)
        rw [dl_mk] at hud
        have htx := fun W => textOf_any 2 (VS.undbl t) W (Or.inl rfl)
        generalize VS.txt 2 (VS.undbl t) = q at HR htx
        obtain ⟨a, b, c, d⟩ := q
        generalize VS.rd _ = r at *
        generalize VS.undbl t = o at *
        unfold udV at hud
        generalize (⟨(o.getD []).toArray⟩ : ByteArray) = X at *
        generalize o.isSome = ok at *
        clear hd hn hu
        go_enter Tryz.func58, Tryz.ntmps58
        go_wp2_with fail
        rw [HW.out]
        refine hdc.mono ?_
        rintro _ w1 ⟨rfl, f1⟩
        go_wp2_with fail
        refine (huq _).mono ?_
        rintro _ w2 ⟨rfl, f2⟩
        go_wp2_with fail
        refine (hud _).mono ?_
        rintro _ w3 ⟨rfl, f3⟩
        unfold rdV at htx
        go_wp2_with fail
        refine (htx _).mono ?_
        rintro _ w4 ⟨rfl, f4⟩
        have hb1 := hb0.fr (f1.trans (f2.trans (f3.trans f4)))
        have d0 := hb1.c0
        have d1 := hb1.c1
        have d2 := hb1.c2
        have z0 := hb1.z 0
        have z1 := hb1.z 1
        have z2 := hb1.z 2
        have F1 : Hid (Fr w w4) := f0.trans (f1.trans (f2.trans (f3.trans f4)))
        clear f1 f2 f3 f4 hdc huq hud htx hb0 f0 HW hb1
        go_wp2_with fail
        refine bodyPost_ret (v := .tuple #[.agg #[.int .i64 a, .int .i64 b, .string ⟨c.toArray⟩], .int .i64 d]) (by simp [results, Tryz.results58, go_sem, d0, d1, d2]) rfl ?_
        exact ⟨by rw [HR.out]; rfl, fr_set3 F1.out (Nat.le_refl _) _ _ _⟩
      | none =>
        obtain ⟨X0, hux⟩ : ∃ X0 : ByteArray, ∀ W, Calls Tryz.prog 81 #[.string S] W fun e w' => e = .returned (.tuple #[.string X0, .bool false]) ∧ Fr W w' := by
          have c := fun W => unquoted_any S W hs
          have h := hu
          rw [VS.unq_by] at h
          split at h
          · cases h
          · rename_i hb
            rw [Bool.not_eq_true] at hb
            rw [hb] at c
            exact ⟨_, c⟩
        have htp := fun W => Tryz.strings_TrimPrefix S ⟨#[120]⟩ W
        rw [show (⟨#[120]⟩ : ByteArray).data.toList = [120] from rfl, ← VS.trx_by] at htp
        have hxl : (VS.trx S.data.toList).length ≤ S.size := by rw [VS.trx_by, ← dl_size]; exact trim_len _ _
        obtain ⟨Y, hY⟩ : ∃ Y : ByteArray, (⟨(VS.trx S.data.toList).toArray⟩ : ByteArray) = Y := ⟨_, rfl⟩
        have hYl : Y.data.toList = VS.trx S.data.toList := by rw [← hY]
        have hYs : Y.size ≤ 140737488355327 := by rw [← dl_size, hYl]; omega
        rw [hY] at htp
        cases hv : VS.unq (VS.trx S.data.toList) with
        | some t =>
          have HR : Hid _ := rd_blb hn hd hu hv
          have htl := unq_len hv
          have huq := fun W => unquoted_some Y t W hYs (by rw [hYl]; exact hv)
          have hud := fun W => unhexed_any ⟨t.toArray⟩ W (by rw [mk_size]; omega)
          rw [dl_mk] at hud
          have htx := fun W => textOf_any 3 (VS.unhx t) W (Or.inr rfl)
          generalize VS.txt 3 (VS.unhx t) = q at HR htx
          obtain ⟨a, b, c, d⟩ := q
          generalize VS.rd _ = r at *
          generalize VS.unhx t = o at *
          unfold udV at hud
          generalize (⟨(o.getD []).toArray⟩ : ByteArray) = X at *
          generalize o.isSome = ok at *
          clear hd hn hu hv hY hYl hxl htl
          go_enter Tryz.func58, Tryz.ntmps58
          go_wp2_with fail
          rw [HW.out]
          refine hdc.mono ?_
          rintro _ w1 ⟨rfl, f1⟩
          go_wp2_with fail
          refine (hux _).mono ?_
          rintro _ w2 ⟨rfl, f2⟩
          go_wp2_with fail
          refine (htp _).mono ?_
          rintro _ w2 ⟨rfl, rfl⟩
          go_wp2_with fail
          refine (huq _).mono ?_
          rintro _ w3 ⟨rfl, f3⟩
          go_wp2_with fail
          refine (hud _).mono ?_
          rintro _ w4 ⟨rfl, f4⟩
          unfold rdV at htx
          go_wp2_with fail
          refine (htx _).mono ?_
          rintro _ w5 ⟨rfl, f5⟩
          have hb1 := hb0.fr (f1.trans (f2.trans (f3.trans (f4.trans f5))))
          have d0 := hb1.c0
          have d1 := hb1.c1
          have d2 := hb1.c2
          have z0 := hb1.z 0
          have z1 := hb1.z 1
          have z2 := hb1.z 2
          have F1 : Hid (Fr w w5) := f0.trans (f1.trans (f2.trans (f3.trans (f4.trans f5))))
          clear f1 f2 f3 f4 f5 hdc huq hud htx hb0 f0 HW hb1 hux htp
          go_wp2_with fail
          refine bodyPost_ret (v := .tuple #[.agg #[.int .i64 a, .int .i64 b, .string ⟨c.toArray⟩], .int .i64 d]) (by simp [results, Tryz.results58, go_sem, d0, d1, d2]) rfl ?_
          exact ⟨by rw [HR.out]; rfl, fr_set3 F1.out (Nat.le_refl _) _ _ _⟩
        | none =>
          have HR : Hid _ := rd_bad hn hd hu hv
          obtain ⟨X1, huy⟩ : ∃ X0 : ByteArray, ∀ W, Calls Tryz.prog 81 #[.string Y] W fun e w' => e = .returned (.tuple #[.string X0, .bool false]) ∧ Fr W w' := by
            have c := fun W => unquoted_any Y W hYs
            have h := hv
            rw [← hYl, VS.unq_by] at h
            split at h
            · cases h
            · rename_i hb
              rw [Bool.not_eq_true] at hb
              rw [hb] at c
              exact ⟨_, c⟩
          generalize VS.rd _ = r at *
          clear hd hn hu hv hY hYl hxl
          go_enter Tryz.func58, Tryz.ntmps58
          go_wp2_with fail
          rw [HW.out]
          refine hdc.mono ?_
          rintro _ w1 ⟨rfl, f1⟩
          go_wp2_with fail
          refine (hux _).mono ?_
          rintro _ w2 ⟨rfl, f2⟩
          go_wp2_with fail
          refine (htp _).mono ?_
          rintro _ w2 ⟨rfl, rfl⟩
          go_wp2_with fail
          refine (huy _).mono ?_
          rintro _ w3 ⟨rfl, f3⟩
          have hb1 := hb0.fr (f1.trans (f2.trans f3))
          have d0 := hb1.c0
          have d1 := hb1.c1
          have d2 := hb1.c2
          have z0 := hb1.z 0
          have z1 := hb1.z 1
          have z2 := hb1.z 2
          have F1 : Hid (Fr w w3) := f0.trans (f1.trans (f2.trans f3))
          clear f1 f2 f3 hdc huy hb0 f0 HW hb1 hux htp
          go_wp2_with fail
          refine bodyPost_ret (v := .tuple #[.agg #[.int .i64 0, .int .i64 0, .string ⟨#[]⟩], .int .i64 1]) (by simp [results, Tryz.results58, go_sem, d0, d1, d2]) rfl ?_
          exact ⟨by rw [HR.out]; rfl, fr_set3 F1.out (Nat.le_refl _) _ _ _⟩
end Go.Proofs.YtoagobpkenfbkaaGreatDoor
