/-
  What the document's own keyOf answers of a Null, a Text or a Blob.
-/
import Derived.Test.YtpalikdnpchdeaaRefVb
import Derived.Test.YtpalikdnpchdeaaKMath
namespace Go.Proofs.Ytpalikdnpchdeaa
open Go.ChangeShapes Go.WideShapes Go.ChangeAt Go.RowKit
set_option linter.unusedVariables false
set_option linter.unusedSimpArgs false
set_option maxRecDepth 100000

set_option maxHeartbeats 1000000 in
theorem keyOf_null (n : Int) (s : ByteArray) (w : World) :
    Calls Try.prog 48 #[.agg #[.int .i64 0, .int .i64 n, .string s]] w fun e w' => e = .returned (.string ⟨(KM.kb ⟨0, n, s⟩).toArray⟩) ∧ Fr w w' := by
  have hob := fun W => oneByte_any 5 W (by omega)
  go_enter Try.func48, Try.ntmps48
  go_wp2_with (go_at_call 35; refine (hob _).mono ?_)
  rintro _ w1 ⟨rfl, hf1⟩
  go_wp2_with fail
  go_ret
  exact ⟨rfl, Fr.trans ((Fr.refl w).alloc _) hf1⟩

theorem esc_step (s : ByteArray) (i : Nat) (h : i < s.size) : KM.esc (s.data.toList.drop i) = if s[i].toNat = 0 then 0 :: 255 :: KM.esc (s.data.toList.drop (i + 1)) else s[i] :: KM.esc (s.data.toList.drop (i + 1)) := by
  have e : s.data.toList.drop i = s[i] :: s.data.toList.drop (i + 1) := by
    rw [List.drop_eq_getElem_cons (by simpa using h)]
    rfl
  rw [e]
  rfl
theorem one_ext (s : ByteArray) (i : Nat) (h : i < s.size) : (s.extract i (i + 1)).data.toList = [s[i]] ∧ (s.extract i (i + 1)).size = 1 := by
  have e : s.data.toList.drop i = s[i] :: s.data.toList.drop (i + 1) := by
    rw [List.drop_eq_getElem_cons (by simpa using h)]
    rfl
  constructor
  · have : (s.extract i (i + 1)).data.toList = (s.data.toList.drop i).take 1 := by simp
    rw [this, e]
    simp
  · rw [ByteArray.size_extract]; omega

set_option maxHeartbeats 2000000 in
theorem keyOf_text (k n : Int) (s : ByteArray) (w : World) (hk : k = 2 ∨ k = 3) (hs : s.size ≤ 16) :
    Calls Try.prog 48 #[.agg #[.int .i64 k, .int .i64 n, .string s]] w fun e w' => e = .returned (.string ⟨(KM.kb ⟨k, n, s⟩).toArray⟩) ∧ Fr w w' := by
  obtain ⟨hb, hhb⟩ : ∃ hb : UInt8, hb = UInt8.ofNat (16 * k).toNat := ⟨_, rfl⟩
  have HKB : Hid (KM.kb ⟨k, n, s⟩ = hb :: KM.esc s.data.toList) := by
    unfold Hid KM.kb
    simp only
    rcases hk with rfl | rfl
    · rw [hhb]; rfl
    · rw [hhb]; rfl
  have hob := fun W => oneByte_int (16 * k) W (by omega) (by omega)
  obtain ⟨ob, hobd⟩ : ∃ ob : ByteArray, ob = ⟨[hb].toArray⟩ := ⟨_, rfl⟩
  rw [← hhb, ← hobd] at hob
  have hos : ob.size = 1 := by rw [hobd]; rfl
  have HOL : Hid (ob.data.toList = [hb]) := by unfold Hid; rw [hobd]
  have k0 : (k == 0) = false := by rw [beq_eq_false_iff_ne]; omega
  have k1 : (k == 1) = false := by rw [beq_eq_false_iff_ne]; omega
  have kl : k ≤ 3 := by omega
  have kg : 2 ≤ k := by omega
  have o255 := fun W => oneByte_any 255 W (by omega)
  have o0 := fun W => oneByte_any 0 W (by omega)
  have o1 := fun W => oneByte_any 1 W (by omega)
  clear hk hhb hobd
  go_enter Try.func48, Try.ntmps48
  go_wp2_with (go_at_call 35; refine (hob _).mono ?_)
  rintro _ w1 ⟨rfl, hf1⟩
  have d2 : w1.cell? ⟨w.heap.size, 2, none⟩ = some (.string s) := cell_fr hf1 (by simp [go_sem])
  have HF1 : Hid (Fr w w1) := Fr.trans ((Fr.refl w).alloc _) hf1
  have D2 : Hid _ := d2
  clear hf1 hob d2
  go_wp2_with fail
  go_loopw [7, 8] (fun sv iv wr => ∃ (i : Nat) (acc : ByteArray), iv = .int .i64 i ∧ sv = .string acc ∧ i ≤ s.size ∧ acc.data.toList ++ KM.esc (s.data.toList.drop i) = KM.kb ⟨k, n, s⟩ ∧ acc.size ≤ 1 + 2 * i ∧ Fr w1 wr) (fun _ iv _ => s.size - (intOf iv).toNat)
  case atStart => exact ⟨0, _, rfl, rfl, Nat.zero_le _, by rw [HOL.out, HKB.out]; rfl, by omega, Fr.refl _⟩
  case round =>
    obtain ⟨i, acc, rfl, rfl, hi, hacc, hal, hfr⟩ := hrel
    have d2 := cell_fr hfr D2.out
    have HFR : Hid _ := hfr
    clear hfr
    by_cases hlt : i < s.size
    · have hst := esc_step s i hlt
      obtain ⟨hel, hes⟩ := one_ext s i hlt
      have HEL : Hid _ := hel
      have hlt' : (i : Int) < (s.size : Int) := by omega
      have hz1 : acc.size + (s.extract i (i + 1)).size ≤ 9223372036854775807 := by omega
      have hz2 : (acc ++ s.extract i (i + 1)).size = acc.size + 1 := by rw [ByteArray.size_append]; omega
      rw [hst] at hacc
      have HAC : Hid _ := hacc
      clear hst hel hacc
      by_cases hb0 : s[i].toNat = 0
      · obtain ⟨fb, hfb⟩ : ∃ fb : ByteArray, fb = ⟨[UInt8.ofNat 255].toArray⟩ := ⟨_, rfl⟩
        rw [← hfb] at o255
        have hfs : fb.size = 1 := by rw [hfb]; rfl
        have HFL : Hid (fb.data.toList = [255]) := by unfold Hid; rw [hfb]; rfl
        have hz3 : (acc ++ s.extract i (i + 1)).size + fb.size ≤ 9223372036854775807 := by omega
        have HZ4 : Hid ((acc ++ s.extract i (i + 1) ++ fb).size ≤ 1 + 2 * (i + 1)) := by unfold Hid; rw [ByteArray.size_append]; omega
        have h0 : s[i] = 0 := UInt8.toNat_inj.1 (by rw [hb0]; rfl)
        have HA2 : Hid ((acc ++ s.extract i (i + 1) ++ fb).data.toList ++ KM.esc (s.data.toList.drop (i + 1)) = KM.kb ⟨k, n, s⟩) := by
          unfold Hid
          have := HAC.out
          rw [if_pos hb0] at this
          rw [data_append, data_append, HEL.out, HFL.out, h0, ← this]
          simp
        have hb1 : ((s[i].toNat : Int) == 0) = true := by rw [beq_iff_eq]; omega
        have hb2 : (s[i].toNat : Int) = 0 := by omega
        clear HAC hfb h0
        generalize hao : acc ++ s.extract i (i + 1) = ao at *
        go_wp2_with (go_at_call 35; refine (o255 _).mono ?_)
        rintro _ w2 ⟨rfl, hf2⟩
        have HF2 : Hid (Fr w1 w2) := Fr.trans HFR.out hf2
        clear hf2 d2
        go_wp2_with fail
        go_roundw
        case rel => exact ⟨i + 1, _, by go_num, rfl, by omega, HA2.out, HZ4.out, HF2.out⟩
        case measure => simp [intOf]; omega
      · have HA2 : Hid ((acc ++ s.extract i (i + 1)).data.toList ++ KM.esc (s.data.toList.drop (i + 1)) = KM.kb ⟨k, n, s⟩) := by
          unfold Hid
          have := HAC.out
          rw [if_neg hb0] at this
          rw [data_append, HEL.out, ← this]
          simp
        have hb1 : ((s[i].toNat : Int) == 0) = false := by rw [beq_eq_false_iff_ne]; omega
        clear HAC
        go_wp2_with fail
        go_roundw
        case rel => exact ⟨i + 1, _, by go_num, rfl, by omega, HA2.out, by omega, HFR.out⟩
        case measure => simp [intOf]; omega
    · obtain rfl : i = s.size := by omega
      have hnil : s.data.toList.drop s.size = [] := List.drop_of_length_le (by rw [Array.length_toList]; exact Nat.le_refl _)
      rw [hnil] at hacc
      obtain ⟨zb, hzb⟩ : ∃ zb : ByteArray, zb = ⟨[UInt8.ofNat 0].toArray⟩ := ⟨_, rfl⟩
      obtain ⟨eb, heb⟩ : ∃ eb : ByteArray, eb = ⟨[UInt8.ofNat 1].toArray⟩ := ⟨_, rfl⟩
      rw [← hzb] at o0
      rw [← heb] at o1
      have hzs : zb.size = 1 := by rw [hzb]; rfl
      have hes : eb.size = 1 := by rw [heb]; rfl
      have hz1 : acc.size + zb.size ≤ 9223372036854775807 := by omega
      have hz2 : (acc ++ zb).size = acc.size + 1 := by rw [ByteArray.size_append]; omega
      have hz3 : (acc ++ zb).size + eb.size ≤ 9223372036854775807 := by omega
      have HE : Hid (acc ++ zb ++ eb = ⟨(KM.kb ⟨k, n, s⟩).toArray⟩) := by
        unfold Hid
        apply ByteArray.ext
        apply Array.ext'
        rw [data_append, data_append, hzb, heb, ← hacc]
        simp [KM.esc]
      clear hnil hacc hzb heb
      go_wp2_with (go_at_call 35; refine (o0 _).mono ?_)
      rintro _ w2 ⟨rfl, hf2⟩
      have HF2 : Hid (Fr w1 w2) := Fr.trans HFR.out hf2
      clear hf2 o0
      go_wp2_with (go_at_call 35; refine (o1 _).mono ?_)
      rintro _ w3 ⟨rfl, hf3⟩
      have HF3 : Hid (Fr w1 w3) := Fr.trans HF2.out hf3
      clear hf3 o1
      go_wp2_with fail
      go_ret
      exact ⟨ret_ba HE.out, Fr.trans HF1.out HF3.out⟩
end Go.Proofs.Ytpalikdnpchdeaa
