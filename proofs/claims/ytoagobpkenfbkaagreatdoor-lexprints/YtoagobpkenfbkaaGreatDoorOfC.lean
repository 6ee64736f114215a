/-
  unhexed of package value.
-/
import Derived.Test.YtoagobpkenfbkaaGreatDoorOfB
namespace Go.Proofs.YtoagobpkenfbkaaGreatDoor
open Go.ChangeShapes Go.WideShapes Go.ChangeAt Go.RowKit Go.Shelf
set_option linter.unusedVariables false
set_option linter.unusedSimpArgs false

theorem drop2 (S : ByteArray) (i : Nat) (h : i + 1 < S.size) : S.data.toList.drop i = S[i] :: S[i + 1] :: S.data.toList.drop (i + 2) := by
  have h1 : i < S.data.toList.length := by rw [dl_size]; omega
  have h2 : i + 1 < S.data.toList.length := by rw [dl_size]; omega
  rw [List.drop_eq_getElem_cons h1, List.drop_eq_getElem_cons h2, Array.getElem_toList, Array.getElem_toList]
  rfl
theorem index_any (b : UInt8) (w : World) : Calls Tryz.prog 101 #[.string ⟨#[48, 49, 50, 51, 52, 53, 54, 55, 56, 57, 97, 98, 99, 100, 101, 102]⟩, .int .u8 (b.toNat : Int)] w fun e w' => e = .returned (.int .i64 (VS.ix b)) ∧ w' = w := by
  have h := Tryz.strings_IndexByte ⟨#[48, 49, 50, 51, 52, 53, 54, 55, 56, 57, 97, 98, 99, 100, 101, 102]⟩ (b.toNat : Int) w
  rw [show (⟨#[48, 49, 50, 51, 52, 53, 54, 55, 56, 57, 97, 98, 99, 100, 101, 102]⟩ : ByteArray).data.toList = VS.hexT from rfl, VS.ix_by] at h
  exact h

set_option maxRecDepth 100000 in
set_option maxHeartbeats 2000000 in
theorem unhexed_any (S : ByteArray) (w : World) (hs : S.size ≤ 140737488355327) :
    Calls Tryz.prog 85 #[.string S] w fun e w' => e = .returned (udV (VS.unhx S.data.toList)) ∧ Fr w w' := by
  obtain ⟨U, hU⟩ : ∃ U, VS.unhx S.data.toList = U := ⟨_, rfl⟩
  rw [hU]
  by_cases hodd : S.size % 2 = 1
  · have HN : Hid (U = none) := by unfold Hid; rw [← hU]; exact VS.unhx_odd _ _ (Nat.le_refl _) (by rw [dl_size]; exact hodd)
    have q1 : (S.size : Int) % 2 = 1 := by omega
    clear hU hodd
    go_enter Tryz.func85, Tryz.ntmps85
    go_wp2_with fail
    go_ret2
    exact ⟨by rw [HN.out]; rfl, Fr.refl _⟩
  · have q1 : (S.size : Int) % 2 = 0 := by omega
    have hev : S.size % 2 = 0 := by omega
    have HB : Hid _ := Bd.fresh w
    have HL : Hid (Below w.heap.size w (w.alloc (.cells #[.pointer none, .slice none 0 0] 63))) := (Fr.refl w).alloc _
    have HU : Hid _ := hU
    clear hU hodd
    go_enter Tryz.func85, Tryz.ntmps85
    go_wp2_with fail
    clear q1
    go_loopw [5] (fun iv wr => ∃ (i : Nat) (out : VS.Bs), iv = .int .i64 i ∧ i ≤ S.size ∧ i % 2 = 0 ∧ out.length ≤ i ∧ Bd w.heap.size w.heap.size out wr ∧ Below w.heap.size w wr ∧ U = (VS.unhx (S.data.toList.drop i)).map (out ++ ·)) (fun iv _ => S.size - (intOf iv).toNat)
    case atStart => exact ⟨0, [], rfl, Nat.zero_le _, rfl, by simp, HB.out, HL.out, by rw [List.drop_zero, HU.out]; simp⟩
    case round =>
      obtain ⟨i, out, rfl, hi, hi2, hol, hbd, hbl, hun⟩ := hrel
      have HD : Hid _ := hbd
      have HBL : Hid _ := hbl
      have hsz := hbl.size
      have HUN : Hid _ := hun
      clear hbd hbl hun HB HL HU
      by_cases hlt : i < S.size
      · have hlt2 : i + 1 < S.size := by omega
        have hltZ : (i : Int) < (S.size : Int) := by omega
        have hltZ2 : (i : Int) + 1 < (S.size : Int) := by omega
        have k1 := fun W => index_any S[i] W
        have k2 := fun W => index_any S[i + 1] W
        rw [drop2 S i hlt2] at HUN
        by_cases ha : VS.ix S[i] < 0
        · have HN : Hid (U = none) := by unfold Hid; rw [HUN.out, VS.unhx_bad _ _ _ (Or.inl ha)]; rfl
          generalize VS.ix S[i] = x at *
          generalize VS.ix S[i + 1] = y at *
          clear HUN
          go_wp2_with fail
          refine (k1 _).mono ?_
          rintro _ w1 ⟨rfl, rfl⟩
          go_wp2_with fail
          refine (k2 _).mono ?_
          rintro _ w1 ⟨rfl, rfl⟩
          clear k1 k2
          go_wp2_with fail
          go_ret2
          exact ⟨by rw [HN.out]; rfl, HBL.out⟩
        · by_cases hb : VS.ix S[i + 1] < 0
          · have HN : Hid (U = none) := by unfold Hid; rw [HUN.out, VS.unhx_bad _ _ _ (Or.inr hb)]; rfl
            generalize VS.ix S[i] = x at *
            generalize VS.ix S[i + 1] = y at *
            have ha0 : 0 ≤ x := by omega
            clear HUN ha
            go_wp2_with fail
            refine (k1 _).mono ?_
            rintro _ w1 ⟨rfl, rfl⟩
            go_wp2_with fail
            refine (k2 _).mono ?_
            rintro _ w1 ⟨rfl, rfl⟩
            clear k1 k2
            go_wp2_with fail
            go_ret2
            exact ⟨by rw [HN.out]; rfl, HBL.out⟩
          · obtain ⟨hg, hx15, hy15⟩ := VS.unhx_good S[i] S[i + 1] (S.data.toList.drop (i + 2)) (by omega) (by omega)
            generalize VS.ix S[i] = x at *
            generalize VS.ix S[i + 1] = y at *
            have ha0 : 0 ≤ x := by omega
            have hb0 : 0 ≤ y := by omega
            obtain ⟨c, hc⟩ : ∃ c : UInt8, UInt8.ofNat (16 * x + y).toNat = c := ⟨_, rfl⟩
            have hcv : (c.toNat : Int) = 16 * x + y := by
              rw [← hc, UInt8.toNat_ofNat']
              omega
            have hwr : IntKind.u8.wrap (16 * x + y) = (c.toNat : Int) := by
              rw [hcv]
              simp only [IntKind.wrap]
              simp [IntKind.min, IntKind.max, IntKind.signed, IntKind.bits]
              omega
            have HN : Hid (U = (VS.unhx (S.data.toList.drop (i + 2))).map (fun z => out ++ [c] ++ z)) := by
              unfold Hid
              rw [HUN.out, hg, hc, Option.map_map]
              congr 1
              funext z
              simp
            have hwb := writeByte_any w.heap.size w.heap.size out c wr HD.out (by omega) hsz
            clear HUN hg hc
            have HCV : Hid _ := hcv
            clear hcv ha hb
            go_wp2_with fail
            refine (k1 _).mono ?_
            rintro _ w1 ⟨rfl, rfl⟩
            go_wp2_with fail
            refine (k2 _).mono ?_
            rintro _ w1 ⟨rfl, rfl⟩
            clear k1 k2
            go_wp2_with fail
            refine hwb.mono ?_
            rintro _ w4 ⟨rfl, hb4, hl4, _⟩
            have HB4 : Hid _ := hb4
            have HL4 : Hid (Below w.heap.size w w4) := HBL.out.trans hl4
            clear hb4 hl4 hwb
            go_wp2_with fail
            go_roundw
            case rel => exact ⟨i + 2, out ++ [c], by simp, by omega, by omega, by rw [List.length_append]; simp; omega, HB4.out, HL4.out, HN.out⟩
            case measure => simp [intOf]; omega
      · have hltZ : ¬ (i : Int) < (S.size : Int) := by omega
        have HN : Hid (U = some out) := by
          unfold Hid
          rw [HUN.out, List.drop_eq_nil_of_le (by rw [dl_size]; omega)]
          show some (out ++ []) = _
          rw [List.append_nil]
        have hst := string_any w.heap.size w.heap.size _ wr HD.out hsz
        clear HUN
        go_wp2_with fail
        refine hst.mono ?_
        rintro _ w3 ⟨rfl, hl3⟩
        have HL3 : Hid (Fr w w3) := HBL.out.trans hl3
        clear hst hl3
        go_wp2_with fail
        go_ret2
        exact ⟨by rw [HN.out]; rfl, HL3.out⟩
end Go.Proofs.YtoagobpkenfbkaaGreatDoor
