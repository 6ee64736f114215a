/-
  What the document's own hexed answers.
-/
import Derived.Test.YtjadmefiilkgmaaGreatDoorLtD
namespace Go.Proofs.YtjadmefiilkgmaaGreatDoor
open Go.ChangeShapes Go.WideShapes Go.ChangeAt Go.RowKit
set_option linter.unusedVariables false
set_option linter.unusedSimpArgs false
set_option maxRecDepth 100000

theorem hex_get {S : ByteArray} {t : VS.Bs} (h : S.data.toList = 120 :: 39 :: (t ++ [39])) : S.size = t.length + 3 ∧ ∀ i (hi : i < t.length) (hj : i + 2 < S.size), S[i + 2] = t[i] := by
  have hz : S.size = t.length + 3 := by rw [← dlen, h]; simp
  refine ⟨hz, fun i hi hj => ?_⟩
  rw [← dget S (i + 2) hj]
  simp only [h, List.getElem_cons_succ]
  exact List.getElem_append_left hi
theorem hex_not (S : ByteArray) (h : S.size < 3 ∨ S.size % 2 = 0 ∨ (∃ h0 : 0 < S.size, S[0].toNat ≠ 120) ∨ (∃ h1 : 1 < S.size, S[1].toNat ≠ 39) ∨ (3 ≤ S.size ∧ ∃ h1 : S.size - 1 < S.size, S[S.size - 1].toNat ≠ 39)) : VS.hexd S.data.toList = none := by
  obtain ⟨l, hl⟩ : ∃ l, S.data.toList = l := ⟨_, rfl⟩
  rw [hl]
  cases l with
  | nil => rfl
  | cons b r =>
    unfold VS.hexd
    simp only
    by_cases hb : b.toNat = 120
    · rw [if_pos hb]
      cases hu : VS.unq r with
      | none => rfl
      | some t =>
        have e := VS.unq_some hu
        have hb' : b = 120 := UInt8.toNat_inj.1 hb
        rw [e, hb'] at hl
        obtain ⟨hz, _⟩ := hex_get hl
        show VS.unhx t = none
        rcases h with h | h | ⟨h0, h⟩ | ⟨h1, h⟩ | ⟨_, h1, h⟩
        · omega
        · exact VS.unhx_odd t.length t (Nat.le_refl _) (by omega)
        · exfalso; apply h
          rw [← dget S 0 h0]
          simp only [hl]
          rfl
        · exfalso; apply h
          rw [← dget S 1 h1]
          simp only [hl]
          rfl
        · exfalso; apply h
          rw [← dget S (S.size - 1) h1]
          have : S.size - 1 = t.length + 1 + 1 := by omega
          simp only [hl, this, List.getElem_cons_succ]
          simp
    · rw [if_neg hb]
theorem hex_ends (S : ByteArray) (h3 : 3 ≤ S.size) (h0 : S[0].toNat = 120) (h1 : S[1].toNat = 39) (h2 : S[S.size - 1].toNat = 39) : ∃ t, S.data.toList = 120 :: 39 :: (t ++ [39]) := by
  have hT : (S.extract 1 S.size).data.toList = S.data.toList.drop 1 := by
    have : (S.extract 1 S.size).data.toList = (S.data.toList.drop 1).take (S.size - 1) := by simp
    rw [this, List.take_of_length_le]
    rw [List.length_drop, dlen]
    exact Nat.le_refl _
  have hz : (S.extract 1 S.size).size = S.size - 1 := by rw [ByteArray.size_extract]; omega
  have hg : ∀ i (hi : i < (S.extract 1 S.size).size) (hj : i + 1 < S.size), (S.extract 1 S.size)[i] = S[i + 1] := by
    intro i hi hj
    rw [← dget _ i hi, ← dget S (i + 1) hj]
    simp only [hT, List.getElem_drop]
    congr 1
    omega
  obtain ⟨t, ht⟩ := unq_ends (S.extract 1 S.size) (by omega) (by rw [hg 0 (by omega) (by omega)]; exact h1) (by
    rw [hg _ (by omega) (by omega)]
    have : (S.extract 1 S.size).size - 1 + 1 = S.size - 1 := by omega
    simp only [this]
    exact h2)
  refine ⟨t, ?_⟩
  rw [hT] at ht
  have := List.drop_eq_getElem_cons (l := S.data.toList) (i := 0) (by rw [dlen]; omega)
  rw [List.drop_zero] at this
  rw [this, ht, dget S 0 (by omega)]
  congr 1
  exact UInt8.toNat_inj.1 h0

set_option maxHeartbeats 1500000 in
theorem hexedR_any (S : ByteArray) (w : World) (hs : S.size ≤ 140737488355327) :
    Calls Tryz.prog 50 #[.string S] w fun e w' => e = .returned (two (VS.hexd S.data.toList)) ∧ Fr w w' := by
  obtain ⟨Q, hQ⟩ : ∃ Q, VS.hexd S.data.toList = Q := ⟨_, rfl⟩
  rw [hQ]
  by_cases h3 : S.size < 3
  · have HR : Hid (Q = none) := by unfold Hid; rw [← hQ]; exact hex_not S (Or.inl h3)
    have h3' : (S.size : Int) < 3 := by omega
    clear hQ
    go_enter Tryz.func50, Tryz.ntmps50
    go_wp2_with fail
    go_ret2
    exact ⟨by rw [HR.out]; rfl, Fr.refl _⟩
  have h3' : ¬ (S.size : Int) < 3 := by omega
  have h3n : (3 : Int) ≤ (S.size : Int) := by omega
  by_cases he : S.size % 2 = 0
  · have HR : Hid (Q = none) := by unfold Hid; rw [← hQ]; exact hex_not S (Or.inr (Or.inl he))
    have he' : (S.size : Int).tmod 2 = 0 := by rw [Int.tmod_eq_emod_of_nonneg (by omega)]; omega
    have he'' : (S.size : Int) % 2 = 0 := by omega
    clear hQ
    go_enter Tryz.func50, Tryz.ntmps50
    go_wp2_with fail
    go_ret2
    exact ⟨by rw [HR.out]; rfl, Fr.refl _⟩
  have he' : (S.size : Int).tmod 2 = 1 := by rw [Int.tmod_eq_emod_of_nonneg (by omega)]; omega
  have he'' : (S.size : Int) % 2 = 1 := by omega
  have hp : 0 < S.size := by omega
  have hp' : (0 : Int) < (S.size : Int) := by omega
  have hp1 : 1 < S.size := by omega
  have hp1' : (1 : Int) < (S.size : Int) := by omega
  by_cases h0 : S[0].toNat = 120
  · have h0' : (S[0].toNat : Int) = 120 := by omega
    by_cases h1 : S[1].toNat = 39
    · have h1' : (S[1].toNat : Int) = 39 := by omega
      have hpl : S.size - 1 < S.size := by omega
      have wl : IntKind.i64.wrap ((S.size : Int) - 1) = ((S.size - 1 : Nat) : Int) := by simp only [IntKind.wrap]; simp [IntKind.min, IntKind.max, IntKind.signed, IntKind.bits]; omega
      have wp : (0 : Int) ≤ ((S.size - 1 : Nat) : Int) := by omega
      have wq : ((S.size - 1 : Nat) : Int) < (S.size : Int) := by omega
      by_cases h2 : S[S.size - 1].toNat = 39
      · have h2' : (S[S.size - 1].toNat : Int) = 39 := by omega
        obtain ⟨t, ht⟩ := hex_ends S (by omega) h0 h1 h2
        obtain ⟨hz, hg⟩ := hex_get ht
        have hQ2 : VS.unhx t = Q := by
          rw [← hQ]
          unfold VS.hexd
          rw [ht]
          symm
          show (if (120 : UInt8).toNat = 120 then (VS.unq (39 :: (t ++ [39]))).bind VS.unhx else none) = _
          rw [if_pos (show (120 : UInt8).toNat = 120 from rfl), VS.unq_mk 39 rfl]
          rfl
        have HZ : Hid _ := hz
        have HG : Hid _ := hg
        have HQ2 : Hid _ := hQ2
        have HE : Hid (t.length % 2 = 0) := by unfold Hid; omega
        have hx := fun b W => hexOf_any b W
        clear hQ hQ2 hg hz ht
        go_enter Tryz.func50, Tryz.ntmps50
        go_wp2_with fail
        go_loopw [5, 6] (fun ov iv wr => ∃ (k : Nat) (O : ByteArray), iv = .int .i64 k ∧ ov = .string O ∧ 2 ≤ k ∧ k ≤ t.length + 2 ∧ k % 2 = 0 ∧ Q = (VS.unhx (t.drop (k - 2))).map (O.data.toList ++ ·) ∧ O.size ≤ k ∧ Fr w wr) (fun _ iv _ => t.length + 3 - (intOf iv).toNat)
        case atStart => exact ⟨2, ⟨#[]⟩, rfl, rfl, Nat.le_refl _, by omega, rfl, by rw [← HQ2.out]; simp, by decide, Fr.refl _⟩
        case round =>
          obtain ⟨k, O, rfl, rfl, hk2, hk, hke, hq, hO, hfr⟩ := hrel
          have hz := HZ.out
          have hE := HE.out
          have HF : Hid _ := hfr
          clear hfr
          by_cases hlt : k < t.length + 2
          · have hltZ : (k : Int) < ((S.size - 1 : Nat) : Int) := by omega
            have hkS : k < S.size := by omega
            have hkZ : (k : Int) < (S.size : Int) := by omega
            have hk1S : k + 1 < S.size := by omega
            have hk1Z : (k : Int) + 1 < (S.size : Int) := by omega
            have hp1 : (0 : Int) ≤ (k : Int) + 1 := by omega
            have wk1 : IntKind.i64.wrap ((k : Int) + 1) = (k : Int) + 1 := wrapI _ ⟨by omega, by omega⟩
            have hg1 := HG.out (k - 2) (by omega) (by omega)
            have hg2 := HG.out (k - 1) (by omega) (by omega)
            have e1 : k - 2 + 2 = k := by omega
            have e2 : k - 1 + 2 = k + 1 := by omega
            simp only [e1] at hg1
            simp only [e2] at hg2
            have hdr : t.drop (k - 2) = S[k] :: S[k + 1] :: t.drop k := by
              rw [List.drop_eq_getElem_cons (by omega), ← hg1, List.drop_eq_getElem_cons (by omega)]
              have e3 : k - 2 + 1 = k - 1 := by omega
              simp only [e3, ← hg2]
              rw [show k - 1 + 1 = k by omega]
            rw [hdr] at hq
            have hgood := VS.unhx_good S[k] S[k + 1] (t.drop k)
            have hbad := VS.unhx_bad S[k] S[k + 1] (t.drop k)
            clear hg1 hg2 e1 e2 hdr HG
            by_cases hneg : VS.ix S[k] < 0 ∨ VS.ix S[k + 1] < 0
            · rw [hbad hneg] at hq
              have HX : Hid (Q = none) := hq
              clear hq hgood hbad HQ2 HZ
              have hway : VS.ix S[k] < 0 ∨ (0 ≤ VS.ix S[k] ∧ VS.ix S[k + 1] < 0) := by omega
              clear hneg
              rcases hway with hn | ⟨hn, hm⟩
              all_goals
                go_wp2_with fail
                go_region_held3 (fun _ => True) (first | exact trivial | assumption) (first | (go_at_call 72; refine (hx _ _).mono ?_; rintro e w5 ⟨rfl, hfx⟩))
                all_goals
                  go_wp2_with fail
                  go_ret2
                  exact ⟨by rw [HX.out]; rfl, Fr.trans HF.out (Fr.trans (drewN_fr _ 1) (Fr.trans (by assumption) (by assumption)))⟩
            · have ha : 0 ≤ VS.ix S[k] := by omega
              have hb : 0 ≤ VS.ix S[k + 1] := by omega
              obtain ⟨hg, ha15, hb15⟩ := hgood ha hb
              rw [hg, map_pre] at hq
              have HX : Hid (Q = (VS.unhx (t.drop (k + 2 - 2))).map ((O ++ ⟨#[UInt8.ofNat (VS.ix S[k] * 16 + VS.ix S[k + 1]).toNat]⟩).data.toList ++ ·)) := by
                unfold Hid
                rw [dataApp, show k + 2 - 2 = k by omega, show VS.ix S[k] * 16 + VS.ix S[k + 1] = 16 * VS.ix S[k] + VS.ix S[k + 1] by omega]
                exact hq
              have HS : Hid ((O ++ ⟨#[UInt8.ofNat (VS.ix S[k] * 16 + VS.ix S[k + 1]).toNat]⟩).size ≤ k + 2) := by
                unfold Hid
                rw [ByteArray.size_append, show (⟨#[UInt8.ofNat (VS.ix S[k] * 16 + VS.ix S[k + 1]).toNat]⟩ : ByteArray).size = 1 from rfl]
                omega
              have hsz : O.size + 1 ≤ 9223372036854775807 := by omega
              have na : ¬ VS.ix S[k] < 0 := by omega
              have nb : ¬ VS.ix S[k + 1] < 0 := by omega
              have w1 : IntKind.i64.wrap (VS.ix S[k] * 16) = VS.ix S[k] * 16 := wrapI _ ⟨by omega, by omega⟩
              have w2 : IntKind.i64.wrap (VS.ix S[k] * 16 + VS.ix S[k + 1]) = VS.ix S[k] * 16 + VS.ix S[k + 1] := wrapI _ ⟨by omega, by omega⟩
              have co := fun W => oneByte_int (VS.ix S[k] * 16 + VS.ix S[k + 1]) W (by omega) (by omega)
              clear hq hg hgood hbad HQ2 HZ hneg hz
              go_wp2_with fail
              go_region_held3 (fun _ => True) (first | exact trivial | assumption) (first | (go_at_call 72; refine (hx _ _).mono ?_; rintro e w5 ⟨rfl, hfx⟩))
              all_goals
                go_wp2_with fail
                refine (co _).mono ?_
                rintro _ w7 ⟨rfl, f7⟩
                go_wp2_with fail
                go_roundw
                case rel => exact ⟨k + 2, _, by go_num, rfl, by omega, by omega, by omega, HX.out, HS.out, Fr.trans HF.out (Fr.trans (drewN_fr _ 1) (Fr.trans (Fr.trans (by assumption) (by assumption)) f7))⟩
                case measure => simp [intOf]; omega
          · have hltZ : ¬ (k : Int) < ((S.size - 1 : Nat) : Int) := by omega
            have hltY : ((S.size - 1 : Nat) : Int) ≤ (k : Int) := by omega
            have hdr : t.drop (k - 2) = [] := List.drop_of_length_le (by omega)
            have HX : Hid (Q = some O.data.toList) := by
              unfold Hid
              rw [hq, hdr]
              simp [VS.unhx]
            clear hq hdr HZ HG HQ2 hz hx
            go_wp2_with fail
            go_ret2
            exact ⟨by rw [HX.out]; unfold two; rw [show (⟨(((some O.data.toList : Option VS.Bs).getD [])).toArray⟩ : ByteArray) = O from dl_eq O]; rfl, HF.out⟩
      · have HR : Hid (Q = none) := by unfold Hid; rw [← hQ]; exact hex_not S (Or.inr (Or.inr (Or.inr (Or.inr ⟨by omega, hpl, h2⟩))))
        have h2b : ((S[S.size - 1].toNat : Int) != 39) = true := by simp; omega
        have h2' : ¬ (S[S.size - 1].toNat : Int) = 39 := by omega
        clear hQ
        go_enter Tryz.func50, Tryz.ntmps50
        go_wp2_with fail
        go_ret2
        exact ⟨by rw [HR.out]; rfl, Fr.refl _⟩
    · have HR : Hid (Q = none) := by unfold Hid; rw [← hQ]; exact hex_not S (Or.inr (Or.inr (Or.inr (Or.inl ⟨hp1, h1⟩))))
      have h1b : ((S[1].toNat : Int) != 39) = true := by simp; omega
      have h1' : ¬ (S[1].toNat : Int) = 39 := by omega
      clear hQ
      go_enter Tryz.func50, Tryz.ntmps50
      go_wp2_with fail
      go_ret2
      exact ⟨by rw [HR.out]; rfl, Fr.refl _⟩
  · have HR : Hid (Q = none) := by unfold Hid; rw [← hQ]; exact hex_not S (Or.inr (Or.inr (Or.inl ⟨hp, h0⟩)))
    have h0b : ((S[0].toNat : Int) != 120) = true := by simp; omega
    have h0' : ¬ (S[0].toNat : Int) = 120 := by omega
    clear hQ
    go_enter Tryz.func50, Tryz.ntmps50
    go_wp2_with fail
    go_ret2
    exact ⟨by rw [HR.out]; rfl, Fr.refl _⟩
end Go.Proofs.YtjadmefiilkgmaaGreatDoor
