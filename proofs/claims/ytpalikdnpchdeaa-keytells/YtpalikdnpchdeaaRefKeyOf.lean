/-
  What the document's own KeyOf answers of a row that is right.
-/
import Derived.Test.YtpalikdnpchdeaaRefKeyI
namespace Go.Proofs.Ytpalikdnpchdeaa
open Go.ChangeShapes Go.WideShapes Go.ChangeAt Go.RowKit
set_option linter.unusedVariables false
set_option linter.unusedSimpArgs false
set_option maxRecDepth 100000

theorem keyOf_any (k n : Int) (s : ByteArray) (w : World) (h : VM.chk ⟨k, n, s⟩ = 0) (h0 : -9223372036854775808 ≤ n) (h1 : n ≤ 9223372036854775807) :
    Calls Try.prog 48 #[.agg #[.int .i64 k, .int .i64 n, .string s]] w fun e w' => e = .returned (.string ⟨(KM.kb ⟨k, n, s⟩).toArray⟩) ∧ Fr w w' := by
  obtain ⟨a, b, _, _, hs⟩ := WM.chk_ok h
  have hk : k = 0 ∨ k = 1 ∨ k = 2 ∨ k = 3 := by simp only at a b; omega
  rcases hk with rfl | rfl | hk
  · exact keyOf_null n s w
  · exact keyOf_int n s w h0 h1
  · exact keyOf_text k n s w hk hs

set_option maxHeartbeats 2000000 in
theorem rowKeyOf_any (v : Value) (l : List VM.Vl) (w : World) (hr : IsRow w v l) (hw : Wide l) (hc : VM.chkRow l = 0) :
    Calls Try.prog 21 #[v] w fun e w' => e = .returned (.string ⟨(KM.row l).toArray⟩) ∧ Fr w w' := by
  obtain ⟨h8, hall⟩ := WM.chkRow_ok hc
  obtain ⟨a, cap, rfl, hcs⟩ := hr
  have HC : Hid _ := hcs
  have HW : Hid _ := hw
  have HALL : Hid _ := hall
  clear hcs hw hall hc
  go_enter Try.func21, Try.ntmps21
  go_wp2_with fail
  go_loopw [3, 4] (fun sv iv wr => ∃ (i : Nat) (acc : ByteArray), iv = .int .i64 i ∧ sv = .string acc ∧ i ≤ l.length ∧ acc.data.toList ++ (l.drop i).flatMap KM.kb = KM.row l ∧ acc.size ≤ 35 * i ∧ Fr w wr) (fun _ iv _ => l.length - (intOf iv).toNat)
  case atStart => exact ⟨0, ⟨#[]⟩, rfl, rfl, Nat.zero_le _, rfl, Nat.le_refl _, Fr.refl _⟩
  case round =>
    obtain ⟨i, acc, rfl, rfl, hi, hacc, hal, hfr⟩ := hrel
    by_cases hlt : i < l.length
    · obtain ⟨b, o, rfl, hb, hc⟩ : ∃ b o, a = some ⟨b, o, none⟩ ∧ b < w.heap.size ∧ CellsAt w b o l := by
        rcases HC.out with h | h
        · subst h; simp at hlt
        · exact h
      obtain ⟨c0, c1, c2⟩ := (hc.fr hb hfr) i hlt
      have hchk := HALL.out l[i] (List.getElem_mem hlt)
      have hwid := HW.out l[i] (List.getElem_mem hlt)
      have hkl := KM.kb_len (x := l[i]) (WM.chk_ok hchk).2.2.2.2
      have hdr : acc.data.toList ++ (l.drop i).flatMap KM.kb = (acc.data.toList ++ KM.kb l[i]) ++ (l.drop (i + 1)).flatMap KM.kb := by
        rw [List.drop_eq_getElem_cons hlt, List.flatMap_cons, List.append_assoc]
      rw [hdr] at hacc
      have hko := fun W => keyOf_any l[i].k l[i].n l[i].s W hchk hwid.1 hwid.2
      generalize l[i] = x at c0 c1 c2 hchk hwid hkl hacc hko
      obtain ⟨k, n, s⟩ := x
      simp only at c0 c1 c2 hko
      have hks : (⟨(KM.kb ⟨k, n, s⟩).toArray⟩ : ByteArray).size = (KM.kb ⟨k, n, s⟩).length := by simp [ByteArray.size]
      have HKL : Hid ((⟨(KM.kb ⟨k, n, s⟩).toArray⟩ : ByteArray).data.toList = KM.kb ⟨k, n, s⟩) := by unfold Hid; simp
      generalize (⟨(KM.kb ⟨k, n, s⟩).toArray⟩ : ByteArray) = kbs at *
      have hq : acc.size + kbs.size ≤ 9223372036854775807 := by omega
      have HZ : Hid ((acc ++ kbs).size ≤ 35 * (i + 1)) := by unfold Hid; rw [ByteArray.size_append]; omega
      have HA : Hid ((acc ++ kbs).data.toList ++ (l.drop (i + 1)).flatMap KM.kb = KM.row l) := by unfold Hid; rw [data_append, HKL.out]; exact hacc
      have HFR : Hid _ := hfr
      clear hdr hc hacc hchk hfr hwid
      go_wp2_with (go_at_call 48; refine (hko _).mono ?_)
      rintro _ w2 ⟨rfl, hf2⟩
      have HF2 : Hid (Fr w w2) := Fr.trans HFR.out hf2
      clear hf2 hko c0 c1 c2
      go_wp2_with fail
      go_roundw
      case rel => exact ⟨i + 1, _, by go_num, rfl, by omega, HA.out, HZ.out, HF2.out⟩
      case measure => simp [intOf]; omega
    · obtain rfl : i = l.length := by omega
      rw [List.drop_length] at hacc
      have HE : Hid (acc = ⟨(KM.row l).toArray⟩) := by
        unfold Hid
        apply ByteArray.ext
        simp at hacc
        rw [← hacc]
      have HFR : Hid _ := hfr
      clear hacc hfr HC HW HALL
      go_wp2_with fail
      go_ret
      exact ⟨ret_ba HE.out, HFR.out⟩
end Go.Proofs.Ytpalikdnpchdeaa
