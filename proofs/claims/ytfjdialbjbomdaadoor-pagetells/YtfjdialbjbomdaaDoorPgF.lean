/-
  strings.Trim with a nought: nothing is left just if there was nothing but noughts.
-/
import Derived.Test.YtfjdialbjbomdaaDoorPgE
namespace Go.Proofs.YtfjdialbjbomdaaDoor
open Go.ChangeShapes Go.WideShapes Go.ChangeAt Go.RowKit
set_option linter.unusedVariables false
set_option linter.unusedSimpArgs false

/-- something else than a nought stands there -/
def Nz (l : List UInt8) : Prop := ∃ b ∈ l, b ≠ 0
theorem get_mem (s : ByteArray) (i : Nat) (h : i < s.size) : s.data.toList[i]? = some s[i] := by
  rw [List.getElem?_eq_getElem (by rw [dl_len]; exact h)]
  rfl
theorem ext_list (s : ByteArray) (a b : Nat) : (s.extract a b).data.toList = (s.data.toList.take b).drop a := by
  rw [ByteArray.data_extract, Array.toList_extract, List.extract_eq_take_drop, List.drop_take]
theorem byte_zero (b : UInt8) : ((b.toNat : Int) == 0) = decide (b = 0) := by
  by_cases h : b = 0
  · subst h; rfl
  · have : b.toNat ≠ 0 := fun c => h (UInt8.toNat_inj.1 c)
    simp [h]; omega

set_option maxRecDepth 100000 in
set_option maxHeartbeats 1000000 in
theorem trimRight_any (s : ByteArray) (w : World) (hs : s.size ≤ 9223372036854775807) :
    Calls Tryd.prog 28 #[.string s, .int .u8 0] w fun e w' => ∃ X : ByteArray, e = .returned (.string X) ∧ X.size ≤ s.size ∧ (¬ Nz s.data.toList → X = ⟨#[]⟩) ∧ (Nz s.data.toList → Nz X.data.toList) ∧ w' = w := by
  go_enter Tryd.func28, Tryd.ntmps28
  go_wp2_with fail
  go_loopw [0] (fun v wr => ∃ T : ByteArray, v = .string T ∧ T.size ≤ s.size ∧ (Nz s.data.toList → Nz T.data.toList) ∧ (Nz T.data.toList → Nz s.data.toList) ∧ wr = w) (fun v _ => match v with | .string T => T.size | _ => 0)
  case atStart => exact ⟨s, rfl, Nat.le_refl _, id, id, rfl⟩
  case round =>
    obtain ⟨T, rfl, hT, h1, h2, rfl⟩ := hrel
    match hn : T.size with
    | 0 =>
      have hz : T = ⟨#[]⟩ := by
        cases T with | mk a => have : a.size = 0 := hn; congr 1; exact Array.eq_empty_of_size_eq_zero this
      have HZ : Hid (¬ Nz s.data.toList) := fun c => by
        obtain ⟨b, hb, _⟩ := h1 c
        rw [hz] at hb
        cases hb
      clear hz
      go_wp2_with fail
      go_ret
      refine ⟨T, rfl, by omega, fun _ => ?_, fun c => absurd c HZ.out, rfl⟩
      cases T with | mk a => have : a.size = 0 := hn; congr 1; exact Array.eq_empty_of_size_eq_zero this
    | n + 1 =>
      have hlast := get_mem T n (by omega)
      have hx : n < T.size := by omega
      by_cases hb : T[n] = 0
      · have hq := byte_zero T[n]
        rw [hb] at hq
        have HN : Hid ((Nz T.data.toList → Nz (T.extract 0 n).data.toList) ∧ (Nz (T.extract 0 n).data.toList → Nz T.data.toList)) := by
          have e : T.data.toList = (T.extract 0 n).data.toList ++ [0] := by
            rw [ext_list, List.drop_zero]
            conv => lhs; rw [← List.take_length (l := T.data.toList), dl_len, hn, List.take_add_one, hlast, hb]
            rfl
          constructor
          · rintro ⟨b, hb1, hb2⟩
            rw [e, List.mem_append, List.mem_singleton] at hb1
            rcases hb1 with hb1 | rfl
            · exact ⟨b, hb1, hb2⟩
            · exact absurd rfl hb2
          · rintro ⟨b, hb1, hb2⟩
            exact ⟨b, by rw [e]; exact List.mem_append_left _ hb1, hb2⟩
        have H1 : Hid _ := h1
        have H2 : Hid _ := h2
        have HT : Hid _ := hT
        have HSZ : Hid ((T.extract 0 n).size = n) := by unfold Hid; rw [ByteArray.size_extract]; omega
        clear hlast h1 h2
        go_wp2_with fail
        go_roundw
        case rel => exact ⟨T.extract 0 n, rfl, by have := HSZ.out; omega, fun c => HN.out.1 (H1.out c), fun c => H2.out (HN.out.2 c), by first | rfl | trivial⟩
        case measure => have := HSZ.out; simp only [HSZ.out]; omega
      · have hq := byte_zero T[n]
        rw [decide_eq_false hb] at hq
        have HM : Hid (Nz T.data.toList) := ⟨T[n], List.mem_of_getElem? hlast, hb⟩
        have H2 : Hid _ := h2
        clear hlast h1 h2
        go_wp2_with fail
        go_ret
        exact ⟨T, rfl, by omega, fun c => absurd (H2.out HM.out) c, fun _ => HM.out, rfl⟩

set_option maxRecDepth 100000 in
set_option maxHeartbeats 1000000 in
theorem trimLeft_any (s : ByteArray) (w : World) (hs : s.size ≤ 9223372036854775807) :
    Calls Tryd.prog 27 #[.string s, .int .u8 0] w fun e w' => ∃ X : ByteArray, e = .returned (.string X) ∧ (¬ Nz s.data.toList → X = ⟨#[]⟩) ∧ (Nz s.data.toList → X.size ≠ 0) ∧ w' = w := by
  go_enter Tryd.func27, Tryd.ntmps27
  go_wp2_with fail
  go_loopw [0] (fun v wr => ∃ T : ByteArray, v = .string T ∧ T.size ≤ s.size ∧ (Nz s.data.toList → Nz T.data.toList) ∧ (Nz T.data.toList → Nz s.data.toList) ∧ wr = w) (fun v _ => match v with | .string T => T.size | _ => 0)
  case atStart => exact ⟨s, rfl, Nat.le_refl _, id, id, rfl⟩
  case round =>
    obtain ⟨T, rfl, hT, h1, h2, rfl⟩ := hrel
    match hn : T.size with
    | 0 =>
      have hz : T = ⟨#[]⟩ := by
        cases T with | mk a => have : a.size = 0 := hn; congr 1; exact Array.eq_empty_of_size_eq_zero this
      have HZ : Hid (¬ Nz s.data.toList) := fun c => by
        obtain ⟨b, hb, _⟩ := h1 c
        rw [hz] at hb
        cases hb
      clear hz
      go_wp2_with fail
      go_ret
      refine ⟨T, rfl, fun _ => ?_, fun c => absurd c HZ.out, rfl⟩
      cases T with | mk a => have : a.size = 0 := hn; congr 1; exact Array.eq_empty_of_size_eq_zero this
    | n + 1 =>
      have hlast := get_mem T 0 (by omega)
      have hx : 0 < T.size := by omega
      by_cases hb : T[0] = 0
      · have hq := byte_zero T[0]
        rw [hb] at hq
        have HN : Hid ((Nz T.data.toList → Nz (T.extract 1 (n + 1)).data.toList) ∧ (Nz (T.extract 1 (n + 1)).data.toList → Nz T.data.toList)) := by
          have e : T.data.toList = [0] ++ (T.extract 1 (n + 1)).data.toList := by
            rw [ext_list, List.take_of_length_le (by rw [dl_len]; omega)]
            cases hl : T.data.toList with
            | nil => rw [hl] at hlast; cases hlast
            | cons a r =>
              rw [hl, hb] at hlast
              simp at hlast
              rw [hlast]
              rfl
          constructor
          · rintro ⟨b, hb1, hb2⟩
            rw [e, List.mem_append, List.mem_singleton] at hb1
            rcases hb1 with rfl | hb1
            · exact absurd rfl hb2
            · exact ⟨b, hb1, hb2⟩
          · rintro ⟨b, hb1, hb2⟩
            exact ⟨b, by rw [e]; exact List.mem_append_right _ hb1, hb2⟩
        have H1 : Hid _ := h1
        have H2 : Hid _ := h2
        have HT : Hid _ := hT
        have HSZ : Hid ((T.extract 1 (n + 1)).size = n) := by unfold Hid; rw [ByteArray.size_extract]; omega
        clear hlast h1 h2
        go_wp2_with fail
        go_roundw
        case rel => exact ⟨T.extract 1 (n + 1), rfl, by have := HSZ.out; omega, fun c => HN.out.1 (H1.out c), fun c => H2.out (HN.out.2 c), by first | rfl | trivial⟩
        case measure => have := HSZ.out; simp only [HSZ.out]; omega
      · have hq := byte_zero T[0]
        rw [decide_eq_false hb] at hq
        have HM : Hid (Nz T.data.toList) := ⟨T[0], List.mem_of_getElem? hlast, hb⟩
        have H2 : Hid _ := h2
        clear hlast h1 h2
        go_wp2_with fail
        go_ret
        exact ⟨T, rfl, fun c => absurd (H2.out HM.out) c, fun _ => by omega, rfl⟩

set_option maxRecDepth 100000 in
set_option maxHeartbeats 1000000 in
theorem trim_any (s : ByteArray) (w : World) (hs : s.size ≤ 9223372036854775807) :
    Calls Tryd.prog 22 #[.string s, .string ⟨#[0]⟩] w fun e w' => ∃ X : ByteArray, e = .returned (.string X) ∧ (¬ Nz s.data.toList → X = ⟨#[]⟩) ∧ (Nz s.data.toList → X.size ≠ 0) ∧ Fr w w' := by
  by_cases h0 : s = ⟨#[]⟩
  · subst h0
    go_enter Tryd.func22, Tryd.ntmps22
    go_wp2_with fail
    go_ret
    exact ⟨_, rfl, fun _ => rfl, (fun ⟨b, hb, _⟩ => by cases hb), Fr.refl _⟩
  · have hne : s.data.toList ≠ [] := fun c => h0 (by rw [← dl_eq s, c])
    have n2 : ¬ s.toList = [] := by rw [ByteArray.toList_eq]; exact hne
    have n3 : s.toList.isEmpty = false := by
      rw [ByteArray.toList_eq]
      cases hl : s.data.toList with
      | nil => exact absurd hl hne
      | cons a r => rfl
    clear hne h0
    go_enter Tryd.func22, Tryd.ntmps22
    go_wp2_with fail
    go_region_with (first
      | (go_at_call 28; refine (trimRight_any _ _ hs).mono ?_; rintro e w1 ⟨X, rfl, hx0, hx1, hx2, rfl⟩)
      | (go_at_call 27; refine (trimLeft_any _ _ (Nat.le_trans (by assumption) hs)).mono ?_; rintro e w2 ⟨Y, rfl, hy1, hy2, rfl⟩))
    all_goals
      go_wp2_with fail
      go_ret
      refine ⟨_, rfl, fun c => hy1 ?_, fun c => hy2 (hx2 c), (Fr.refl _).drew⟩
      rw [hx1 c]
      rintro ⟨b, hb, _⟩
      cases hb
end Go.Proofs.YtfjdialbjbomdaaDoor
