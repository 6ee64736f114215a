/-
  What the document's own IntOf answers.
-/
import Derived.Test.YtjadmefiilkgmaaGreatDoorLtB
namespace Go.Proofs.YtjadmefiilkgmaaGreatDoor
open Go.ChangeShapes Go.WideShapes Go.ChangeAt Go.RowKit
set_option linter.unusedVariables false
set_option linter.unusedSimpArgs false
set_option maxRecDepth 100000

theorem vl_nil (acc : Nat) : VS.vl acc [] = acc := rfl
theorem vl_take {l : List UInt8} {i : Nat} (h : i < l.length) : VS.vl 0 (l.take (i + 1)) = VS.vl 0 (l.take i) * 10 + (l[i].toNat - 48) := by
  rw [List.take_succ_eq_append_getElem h, VS.vl_app, VS.vl_cons, vl_nil]
theorem vl_take_le (l : List UInt8) (i : Nat) : VS.vl 0 (l.take i) ≤ VS.vl 0 l := by
  have e := VS.vl_app (l.take i) (l.drop i) 0
  rw [List.take_append_drop] at e
  rw [e]
  exact VS.vl_le _ _
theorem dgs_zero {l : List UInt8} {b : Bool} (h : VS.dgs b l = true) : l.all VS.dig = true ∧ ∀ c r, l = c :: r → c.toNat = 48 → r = [] := by
  obtain ⟨_, h2, h3⟩ := (VS.dgs_iff b l).1 h
  exact ⟨h2, fun c r e hc => (h3 c r e hc).2⟩

set_option maxHeartbeats 2000000 in
theorem intOfR_false (S : ByteArray) (w : World) (hs : S.size ≤ 140737488355327) :
    Calls Tryz.prog 51 #[.string S, .bool false] w fun e w' => e = .returned (.tuple #[.int .i64 (VS.iof false S.data.toList).1, .int .i64 ((VS.iof false S.data.toList).2 : Nat)]) ∧ Fr w w' := by
  have ca := fun W => allDigits_any S W hs
  have cl := fun W => lessDigits_any S ⟨#[57, 50, 50, 51, 51, 55, 50, 48, 51, 54, 56, 53, 52, 55, 55, 53, 56, 48, 55]⟩ W (by unfold maxLen; omega) (by decide)
  have hda := VS.dgs_adg false S.data.toList
  have HI : Hid (VS.iof false S.data.toList = if VS.dgs false S.data.toList = true then (if VS.vl 0 S.data.toList ≤ 9223372036854775807 then ((VS.vl 0 S.data.toList : Int), 0) else (0, 8)) else (0, 1)) := by
    unfold Hid VS.iof
    simp only [if_true, Bool.false_eq_true, if_false]
  generalize VS.iof false S.data.toList = R at *
  cases hA : VS.adg S.data.toList with
  | false =>
    rw [hA] at ca hda
    have HR : Hid (R = (0, 1)) := by unfold Hid; rw [HI.out, hda]; simp
    clear HI hda hA cl
    go_enter Tryz.func51, Tryz.ntmps51
    go_wp2_with fail
    refine (ca _).mono ?_
    rintro _ w1 ⟨rfl, rfl⟩
    go_wp2_with fail
    go_ret2
    exact ⟨by rw [HR.out]; rfl, Fr.refl _⟩
  | true =>
    rw [hA] at ca hda
    clear hA
    · have hdg : VS.dgs false S.data.toList = true := by rw [hda]; rfl
      clear hda
      obtain ⟨hall, hz0⟩ := dgs_zero hdg
      have hls : VS.lsd S.data.toList (⟨#[57, 50, 50, 51, 51, 55, 50, 48, 51, 54, 56, 53, 52, 55, 55, 53, 56, 48, 55]⟩ : ByteArray).data.toList = decide (VS.vl 0 S.data.toList ≤ 9223372036854775807) := by
        have h := VS.lsd_vl VS.m7 rfl (by decide) (by rw [VS.vl_m7]; decide) (by rw [VS.vl_m7]; decide) S.data.toList hall hz0
        rw [VS.vl_m7] at h
        exact h
      rw [hls] at cl
      rw [hdg, if_pos rfl] at HI
      clear hls hz0 hdg
      by_cases hv : VS.vl 0 S.data.toList ≤ 9223372036854775807
      · have hv' : decide (VS.vl 0 S.data.toList ≤ 9223372036854775807) = true := by rw [decide_eq_true_eq]; exact hv
        rw [hv'] at cl
        rw [if_pos hv] at HI
        have HV : Hid _ := hv
        have HALL : Hid _ := hall
        clear hv' hv hall
        go_enter Tryz.func51, Tryz.ntmps51
        go_wp2_with fail
        refine (ca _).mono ?_
        rintro _ w1 ⟨rfl, rfl⟩
        go_wp2_with fail
        refine (cl _).mono ?_
        rintro _ w2 ⟨rfl, f2⟩
        have F2 : Hid _ := f2
        clear f2 ca cl
        go_wp2_with fail
        go_loopw [6, 7] (fun nv iv wr => ∃ i : Nat, iv = .int .i64 i ∧ i ≤ S.size ∧ nv = .int .i64 ((VS.vl 0 (S.data.toList.take i) : Int)) ∧ Fr w1 wr) (fun _ iv _ => S.size - (intOf iv).toNat)
        case atStart => exact ⟨0, rfl, Nat.zero_le _, by first | rfl | simp [vl_nil], F2.out⟩
        case round =>
          obtain ⟨i, rfl, hi, rfl, hfr⟩ := hrel
          have HF : Hid _ := hfr
          clear hfr
          by_cases hlt : i < S.size
          · have hltZ : (i : Int) < (S.size : Int) := by omega
            have hl : i < S.data.toList.length := by rw [dlen]; exact hlt
            have hst := vl_take hl
            rw [dget S i hlt] at hst
            have hle := vl_take_le S.data.toList (i + 1)
            have hv := HV.out
            have hdg : VS.dig S[i] = true := by
              have h := HALL.out
              rw [List.all_eq_true] at h
              have := h _ (List.getElem_mem hl)
              rwa [dget S i hlt] at this
            have hb := VS.dig_iff.1 hdg
            generalize VS.vl 0 (S.data.toList.take i) = q at *
            generalize hQ : VS.vl 0 (S.data.toList.take (i + 1)) = Q at *
            have h256 : S[i].toNat < 256 := S[i].toNat_lt
            have z0 : (48 : Int) ≤ (S[i].toNat : Int) := by omega
            have HQ : Hid ((Q : Int) = (q : Int) * 10 + ((S[i].toNat : Int) - 48)) := by unfold Hid; omega
            have z1 : (q : Int) * 10 ≤ 9223372036854775808 := by omega
            have z2 : (q : Int) * 10 + ((S[i].toNat : Int) - 48) ≤ 9223372036854775807 := by omega
            have w1' : IntKind.i64.wrap ((S[i].toNat : Int) - 48) = (S[i].toNat : Int) - 48 := by simp only [IntKind.wrap]; simp [IntKind.min, IntKind.max, IntKind.signed, IntKind.bits]; omega
            have w2' : IntKind.i64.wrap ((q : Int) * 10) = (q : Int) * 10 := by simp only [IntKind.wrap]; simp [IntKind.min, IntKind.max, IntKind.signed, IntKind.bits]; omega
            have w3' : IntKind.i64.wrap ((q : Int) * 10 + ((S[i].toNat : Int) - 48)) = (q : Int) * 10 + ((S[i].toNat : Int) - 48) := by simp only [IntKind.wrap]; simp [IntKind.min, IntKind.max, IntKind.signed, IntKind.bits]; omega
            clear hst hle hv hdg hb
            go_wp2_with fail
            go_roundw
            case rel => exact ⟨i + 1, by go_num, by omega, by (rw [hQ, HQ.out]) <;> (congr 1; omega), HF.out⟩
            case measure => simp [intOf]; omega
          · obtain rfl : i = S.size := by omega
            have e1 : S.data.toList.take S.size = S.data.toList := List.take_of_length_le (by rw [dlen]; exact Nat.le_refl _)
            have hltZ : ¬ (S.size : Int) < (S.size : Int) := by omega
            rw [e1]
            obtain ⟨q, hq⟩ : ∃ q, VS.vl 0 S.data.toList = q := ⟨_, rfl⟩
            rw [hq] at HI ⊢
            clear e1 hq
            go_wp2_with fail
            go_ret2
            exact ⟨by rw [HI.out]; rfl, HF.out⟩
      · have hv' : decide (VS.vl 0 S.data.toList ≤ 9223372036854775807) = false := by rw [decide_eq_false_iff_not]; exact hv
        rw [hv'] at cl
        rw [if_neg hv] at HI
        clear hv' hv hall
        go_enter Tryz.func51, Tryz.ntmps51
        go_wp2_with fail
        refine (ca _).mono ?_
        rintro _ w1 ⟨rfl, rfl⟩
        go_wp2_with fail
        refine (cl _).mono ?_
        rintro _ w2 ⟨rfl, f2⟩
        have F2 : Hid _ := f2
        clear f2 ca cl
        go_wp2_with fail
        go_ret2
        exact ⟨by rw [HI.out]; rfl, F2.out⟩

set_option maxHeartbeats 2000000 in
theorem intOfR_true (S : ByteArray) (w : World) (hs : S.size ≤ 140737488355327) :
    Calls Tryz.prog 51 #[.string S, .bool true] w fun e w' => e = .returned (.tuple #[.int .i64 (VS.iof true S.data.toList).1, .int .i64 ((VS.iof true S.data.toList).2 : Nat)]) ∧ Fr w w' := by
  have ca := fun W => allDigits_any S W hs
  have cl := fun W => lessDigits_any S ⟨#[57, 50, 50, 51, 51, 55, 50, 48, 51, 54, 56, 53, 52, 55, 55, 53, 56, 48, 56]⟩ W (by unfold maxLen; omega) (by decide)
  have hda := VS.dgs_adg true S.data.toList
  have HI : Hid (VS.iof true S.data.toList = if VS.dgs true S.data.toList = true then (if VS.vl 0 S.data.toList ≤ 9223372036854775808 then (-(VS.vl 0 S.data.toList : Int), 0) else (0, 8)) else (0, 1)) := by
    unfold Hid VS.iof
    simp only [if_true, Bool.false_eq_true, if_false]
  generalize VS.iof true S.data.toList = R at *
  cases hA : VS.adg S.data.toList with
  | false =>
    rw [hA] at ca hda
    have HR : Hid (R = (0, 1)) := by unfold Hid; rw [HI.out, hda]; simp
    clear HI hda hA cl
    go_enter Tryz.func51, Tryz.ntmps51
    go_wp2_with fail
    refine (ca _).mono ?_
    rintro _ w1 ⟨rfl, rfl⟩
    go_wp2_with fail
    go_ret2
    exact ⟨by rw [HR.out]; rfl, Fr.refl _⟩
  | true =>
    rw [hA] at ca hda
    clear hA
    by_cases hz : S.data.toList = [48]
    · have HR : Hid (R = (0, 1)) := by unfold Hid; rw [HI.out, hda, hz]; rfl
      obtain rfl : S = ⟨#[48]⟩ := by rw [← dl_eq S, hz]
      clear HI hda cl hz
      go_enter Tryz.func51, Tryz.ntmps51
      go_wp2_with fail
      refine (ca _).mono ?_
      rintro _ w1 ⟨rfl, rfl⟩
      go_wp2_with fail
      go_ret2
      exact ⟨by rw [HR.out]; rfl, Fr.refl _⟩
    · have n1 : (S.toList == [48]) = false := beq_false_of_ne (by rw [Lib.toList_data]; exact hz)
      have n2 : ¬ S.toList = [48] := by rw [Lib.toList_data]; exact hz
      have hdg : VS.dgs true S.data.toList = true := by rw [hda]; simp [hz]
      clear hz hda
      obtain ⟨hall, hz0⟩ := dgs_zero hdg
      have hls : VS.lsd S.data.toList (⟨#[57, 50, 50, 51, 51, 55, 50, 48, 51, 54, 56, 53, 52, 55, 55, 53, 56, 48, 56]⟩ : ByteArray).data.toList = decide (VS.vl 0 S.data.toList ≤ 9223372036854775808) := by
        have h := VS.lsd_vl VS.m8 rfl (by decide) (by rw [VS.vl_m8]; decide) (by rw [VS.vl_m8]; decide) S.data.toList hall hz0
        rw [VS.vl_m8] at h
        exact h
      rw [hls] at cl
      rw [hdg, if_pos rfl] at HI
      clear hls hz0 hdg
      by_cases hv : VS.vl 0 S.data.toList ≤ 9223372036854775808
      · have hv' : decide (VS.vl 0 S.data.toList ≤ 9223372036854775808) = true := by rw [decide_eq_true_eq]; exact hv
        rw [hv'] at cl
        rw [if_pos hv] at HI
        have HV : Hid _ := hv
        have HALL : Hid _ := hall
        clear hv' hv hall
        go_enter Tryz.func51, Tryz.ntmps51
        go_wp2_with fail
        refine (ca _).mono ?_
        rintro _ w1 ⟨rfl, rfl⟩
        go_wp2_with fail
        refine (cl _).mono ?_
        rintro _ w2 ⟨rfl, f2⟩
        have F2 : Hid _ := f2
        clear f2 ca cl
        go_wp2_with fail
        go_loopw [6, 7] (fun nv iv wr => ∃ i : Nat, iv = .int .i64 i ∧ i ≤ S.size ∧ nv = .int .i64 (-(VS.vl 0 (S.data.toList.take i) : Int)) ∧ Fr w1 wr) (fun _ iv _ => S.size - (intOf iv).toNat)
        case atStart => exact ⟨0, rfl, Nat.zero_le _, by first | rfl | simp [vl_nil], F2.out⟩
        case round =>
          obtain ⟨i, rfl, hi, rfl, hfr⟩ := hrel
          have HF : Hid _ := hfr
          clear hfr
          by_cases hlt : i < S.size
          · have hltZ : (i : Int) < (S.size : Int) := by omega
            have hl : i < S.data.toList.length := by rw [dlen]; exact hlt
            have hst := vl_take hl
            rw [dget S i hlt] at hst
            have hle := vl_take_le S.data.toList (i + 1)
            have hv := HV.out
            have hdg : VS.dig S[i] = true := by
              have h := HALL.out
              rw [List.all_eq_true] at h
              have := h _ (List.getElem_mem hl)
              rwa [dget S i hlt] at this
            have hb := VS.dig_iff.1 hdg
            generalize VS.vl 0 (S.data.toList.take i) = q at *
            generalize hQ : VS.vl 0 (S.data.toList.take (i + 1)) = Q at *
            have h256 : S[i].toNat < 256 := S[i].toNat_lt
            have z0 : (48 : Int) ≤ (S[i].toNat : Int) := by omega
            have HQ : Hid ((Q : Int) = (q : Int) * 10 + ((S[i].toNat : Int) - 48)) := by unfold Hid; omega
            have z1 : (q : Int) * 10 ≤ 9223372036854775808 := by omega
            have z2 : (q : Int) * 10 + ((S[i].toNat : Int) - 48) ≤ 9223372036854775808 := by omega
            have w1' : IntKind.i64.wrap ((S[i].toNat : Int) - 48) = (S[i].toNat : Int) - 48 := by simp only [IntKind.wrap]; simp [IntKind.min, IntKind.max, IntKind.signed, IntKind.bits]; omega
            have w2' : IntKind.i64.wrap (-(q : Int) * 10) = -(q : Int) * 10 := by simp only [IntKind.wrap]; simp [IntKind.min, IntKind.max, IntKind.signed, IntKind.bits]; omega
            have w3' : IntKind.i64.wrap (-(q : Int) * 10 - ((S[i].toNat : Int) - 48)) = -(q : Int) * 10 - ((S[i].toNat : Int) - 48) := by simp only [IntKind.wrap]; simp [IntKind.min, IntKind.max, IntKind.signed, IntKind.bits]; omega
            clear hst hle hv hdg hb
            go_wp2_with fail
            go_roundw
            case rel => exact ⟨i + 1, by go_num, by omega, by (rw [hQ, HQ.out]) <;> (congr 1; omega), HF.out⟩
            case measure => simp [intOf]; omega
          · obtain rfl : i = S.size := by omega
            have e1 : S.data.toList.take S.size = S.data.toList := List.take_of_length_le (by rw [dlen]; exact Nat.le_refl _)
            have hltZ : ¬ (S.size : Int) < (S.size : Int) := by omega
            rw [e1]
            obtain ⟨q, hq⟩ : ∃ q, VS.vl 0 S.data.toList = q := ⟨_, rfl⟩
            rw [hq] at HI ⊢
            clear e1 hq
            go_wp2_with fail
            go_ret2
            exact ⟨by rw [HI.out]; rfl, HF.out⟩
      · have hv' : decide (VS.vl 0 S.data.toList ≤ 9223372036854775808) = false := by rw [decide_eq_false_iff_not]; exact hv
        rw [hv'] at cl
        rw [if_neg hv] at HI
        clear hv' hv hall
        go_enter Tryz.func51, Tryz.ntmps51
        go_wp2_with fail
        refine (ca _).mono ?_
        rintro _ w1 ⟨rfl, rfl⟩
        go_wp2_with fail
        refine (cl _).mono ?_
        rintro _ w2 ⟨rfl, f2⟩
        have F2 : Hid _ := f2
        clear f2 ca cl
        go_wp2_with fail
        go_ret2
        exact ⟨by rw [HI.out]; rfl, F2.out⟩

theorem intOfR_any (S : ByteArray) (b : Bool) (w : World) (hs : S.size ≤ 140737488355327) :
    Calls Tryz.prog 51 #[.string S, .bool b] w fun e w' => e = .returned (.tuple #[.int .i64 (VS.iof b S.data.toList).1, .int .i64 ((VS.iof b S.data.toList).2 : Nat)]) ∧ Fr w w' := by
  cases b
  · exact intOfR_false S w hs
  · exact intOfR_true S w hs
end Go.Proofs.YtjadmefiilkgmaaGreatDoor
