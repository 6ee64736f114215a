/-
  What the document's own CheckRow and RowBytes answer.
-/
import Derived.Test.YthpcdhnaibpjnaaRefVal
import Derived.Test.YthpcdhnaibpjnaaRefNumOf
import Derived.Test.YthpcdhnaibpjnaaRecWrite
namespace Go.Proofs.Ythpcdhnaibpjnaa
open Go.ChangeShapes Go.WideShapes Go.ChangeAt Go.RowKit
set_option linter.unusedVariables false
set_option linter.unusedSimpArgs false
set_option maxRecDepth 100000

theorem cell_fr {w w' : World} {g j : Nat} {x : Value} (f : Fr w w') (h : w.cell? ⟨g, j, none⟩ = some x) : w'.cell? ⟨g, j, none⟩ = some x :=
  (Below.cell f (World.block_lt_of_cell? _ _ h)).trans h

set_option maxHeartbeats 1000000 in
theorem refCheckRow_any (v : Value) (l : List VM.Vl) (w : World) (hr : IsRow w v l) (hbig : l.length ≤ 9223372036854775807) :
    Calls Try.prog 25 #[v] w fun e w' => e = .returned (.int .i64 (VM.chkRow l)) ∧ Fr w w' := by
  have hca := rcheckAll_any v l w hr hbig
  obtain ⟨a, cap, rfl, hcs⟩ := hr
  have HR : Hid (VM.chkRow l = if 8 < l.length then 2 else VM.chkAll l) := rfl
  generalize VM.chkRow l = r at *
  generalize VM.chkAll l = c at *
  clear hcs
  by_cases h8 : 8 < l.length
  · have h8' : (8 : Int) < (l.length : Int) := by omega
    have HE : Hid _ := HR.out.trans (if_pos h8)
    clear HR h8
    go_enter Try.func25, Try.ntmps25
    go_wp2_with fail
    go_ret
    exact ⟨ret_int (by rw [HE.out]; rfl), Fr.refl _⟩
  · have h8' : (l.length : Int) ≤ 8 := by omega
    have HE : Hid _ := HR.out.trans (if_neg h8)
    clear HR h8
    go_enter Try.func25, Try.ntmps25
    go_wp2_with (go_at_call 46; refine hca.mono ?_)
    rintro _ w1 ⟨rfl, hf1⟩
    go_wp2_with fail
    go_ret
    exact ⟨ret_int (by rw [HE.out]), hf1⟩

theorem enc_size (n : Nat) : (⟨(NM.enc n).toArray⟩ : ByteArray).size = (NM.enc n).length := by simp [ByteArray.size]
theorem zig_eq (n : Int) : (zigN n).toNat = WM.zig n := rfl

set_option maxHeartbeats 2000000 in
theorem rowBytes_any (v : Value) (l : List VM.Vl) (w : World) (hr : IsRow w v l) (hw : Wide l) (hc : VM.chkRow l = 0) :
    Calls Try.prog 28 #[v] w fun e w' => e = .returned (.string ⟨(WM.row l).toArray⟩) ∧ Fr w w' := by
  obtain ⟨h8, hall⟩ := WM.chkRow_ok hc
  obtain ⟨a, cap, rfl, hcs⟩ := hr
  have HC : Hid _ := hcs
  have hnb := fun W => numBytes_any l.length W (by omega)
  have he10 : (NM.enc l.length).length ≤ 10 := NM.enc_ten (by omega)
  have HW : Hid _ := hw
  have HALL : Hid _ := hall
  clear hcs hw hall hc
  go_enter Try.func28, Try.ntmps28
  go_wp2_with (go_at_call 26; refine (hnb _).mono ?_)
  rintro _ w1 ⟨rfl, hf1⟩
  have HF1 : Hid _ := hf1
  clear hnb hf1
  go_wp2_with fail
  go_loopw [3, 4] (fun sv iv wr => ∃ (i : Nat) (acc : ByteArray), iv = .int .i64 i ∧ sv = .string acc ∧ i ≤ l.length ∧ acc.data.toList ++ (l.drop i).flatMap WM.vb = WM.row l ∧ acc.size ≤ 10 + 31 * i ∧ Fr w wr) (fun _ iv _ => l.length - (intOf iv).toNat)
  case atStart => exact ⟨0, _, rfl, rfl, Nat.zero_le _, rfl, by rw [enc_size]; omega, HF1.out⟩
  case round =>
    obtain ⟨i, acc, rfl, rfl, hi, hacc, hal, hfr⟩ := hrel
    by_cases hlt : i < l.length
    · obtain ⟨b, o, rfl, hb, hc⟩ : ∃ b o, a = some ⟨b, o, none⟩ ∧ b < w.heap.size ∧ CellsAt w b o l := by
        rcases HC.out with h | h
        · subst h; simp at hlt
        · exact h
      obtain ⟨c0, c1, c2⟩ := (hc.fr hb hfr) i hlt
      have hchk := HALL.out l[i] (List.getElem_mem hlt)
      have hwid := HW.out l[i] (List.getElem_mem hlt)
      have hbl := WM.body_len hchk hwid
      have hcp := WM.chk_ok hchk
      have hdr : acc.data.toList ++ (l.drop i).flatMap WM.vb = (acc.data.toList ++ [UInt8.ofNat l[i].k.toNat]) ++ WM.body l[i] ++ (l.drop (i + 1)).flatMap WM.vb := by
        rw [List.drop_eq_getElem_cons hlt, List.flatMap_cons, WM.vb]
        simp
      rw [hdr] at hacc
      generalize hx : l[i] = x at c0 c1 c2 hchk hwid hbl hcp hacc
      obtain ⟨k, n, s⟩ := x
      simp only at c0 c1 c2 hwid hcp hacc
      have HA : Hid _ := hacc
      have HFR : Hid _ := hfr
      clear hx hdr hc hacc hchk
      obtain ⟨k0, k3, kn, ks, s16⟩ := hcp
      have hob := fun W => oneByte_int k W k0 (by omega)
      obtain ⟨ob, hobd⟩ : ∃ ob : ByteArray, ob = ⟨[UInt8.ofNat k.toNat].toArray⟩ := ⟨_, rfl⟩
      rw [← hobd] at hob
      have hos : ob.size = 1 := by rw [hobd]; rfl
      have hol : ob.data.toList = [UInt8.ofNat k.toNat] := by rw [hobd]
      have HOL : Hid _ := hol
      have hz1 : acc.size + ob.size ≤ 9223372036854775807 := by omega
      have hk : k = 0 ∨ k = 1 ∨ k = 2 ∨ k = 3 := by omega
      clear hobd hol kn ks
      go_wp2_with (go_at_call 47; refine (hob _).mono ?_)
      rintro _ w2 ⟨rfl, hf2⟩
      have HF2 : Hid (Fr w w2) := Fr.trans HFR.out hf2
      have d0 := cell_fr hf2 c0
      have d1 := cell_fr hf2 c1
      have d2 := cell_fr hf2 c2
      clear c0 c1 c2 hf2 hfr HFR hob
      have hsz : (acc ++ ob).size = acc.size + 1 := by rw [ByteArray.size_append]; omega
      have HAO : Hid ((acc ++ ob).data.toList = acc.data.toList ++ [UInt8.ofNat k.toNat]) := by unfold Hid; rw [data_append, HOL.out]
      rcases hk with rfl | rfl | hk
      · have HB : Hid (WM.body ⟨0, n, s⟩ = []) := rfl
        go_wp2_with fail
        go_roundw
        case rel => exact ⟨i + 1, _, by go_num, rfl, by omega, by rw [HAO.out, ← HA.out, HB.out]; simp, by omega, HF2.out⟩
        case measure => simp [intOf]; omega
      · have hzr := zig_range hwid.1 hwid.2
        have hzg := fun W => zigOf_any n W hwid.1 hwid.2
        have hnb := fun W => numBytes_int (zigN n) W hzr.1 hzr.2
        have HB : Hid (WM.body ⟨1, n, s⟩ = NM.enc (zigN n).toNat) := rfl
        have hz10 : (NM.enc (zigN n).toNat).length ≤ 10 := NM.enc_ten (by omega)
        have hzs := enc_size (zigN n).toNat
        have HZL : Hid ((⟨(NM.enc (zigN n).toNat).toArray⟩ : ByteArray).data.toList = NM.enc (zigN n).toNat) := by unfold Hid; simp
        generalize hzb : (⟨(NM.enc (zigN n).toNat).toArray⟩ : ByteArray) = zb at *
        have hz2 : (acc ++ ob).size + zb.size ≤ 9223372036854775807 := by omega
        have HZS : Hid ((acc ++ ob ++ zb).size ≤ 10 + 31 * (i + 1)) := by unfold Hid; rw [ByteArray.size_append]; omega
        generalize zigN n = zn at *
        clear hzb
        go_wp2_with (go_at_call 27; refine (hzg _).mono ?_)
        rintro _ w3 ⟨rfl, rfl⟩
        clear hzg
        go_wp2_with (go_at_call 26; refine (hnb _).mono ?_)
        rintro _ w4 ⟨rfl, hf4⟩
        have HF4 : Hid (Fr w w4) := Fr.trans HF2.out hf4
        have e0 := cell_fr hf4 d0
        clear hf4 hnb HF2 d0 d1 d2
        go_wp2_with fail
        go_roundw
        case rel => exact ⟨i + 1, _, by go_num, rfl, by omega, by rw [data_append, HAO.out, HZL.out, ← HA.out, HB.out], HZS.out, HF4.out⟩
        case measure => simp [intOf]; omega
      · have hnb := fun W => numBytes_any s.size W (by omega)
        have HB : Hid (WM.body ⟨k, n, s⟩ = NM.enc s.size ++ s.data.toList) := by
          unfold Hid WM.body
          rw [if_neg (by simp only; omega), if_pos hk]
        have hz10 : (NM.enc s.size).length ≤ 10 := NM.enc_ten (by omega)
        have hzs := enc_size s.size
        have HZL : Hid ((⟨(NM.enc s.size).toArray⟩ : ByteArray).data.toList = NM.enc s.size) := by unfold Hid; simp
        generalize hzb : (⟨(NM.enc s.size).toArray⟩ : ByteArray) = zb at *
        have hz2 : zb.size + s.size ≤ 9223372036854775807 := by omega
        have hz3 : (zb ++ s).size = zb.size + s.size := ByteArray.size_append
        have hz4 : (acc ++ ob).size + (zb ++ s).size ≤ 9223372036854775807 := by omega
        have HZS : Hid ((acc ++ ob ++ (zb ++ s)).size ≤ 10 + 31 * (i + 1)) := by unfold Hid; rw [ByteArray.size_append]; omega
        have hk1 : (k == 1) = false := by simp; omega
        have hk2 : 2 ≤ k := by omega
        have hz5 : (zb ++ s).size ≤ 9223372036854775807 := by omega
        have hz6 : (acc ++ ob ++ (zb ++ s)).size ≤ 9223372036854775807 := by rw [ByteArray.size_append]; omega
        have hz7 : (acc ++ ob).size + (zb.size + s.size) ≤ 9223372036854775807 := by omega
        clear hzb hk hz3
        generalize hao : acc ++ ob = ao at *
        have hnx : ∀ (x : Int) W, x = (s.size : Int) → Calls Try.prog 26 #[.int .u64 x] W fun e w' => e = .returned (.string zb) ∧ Fr W w' := fun x W h => by rw [h]; exact hnb W
        clear hnb
        go_wp2_with fail
        have d2' : w2.drew.cell? ⟨b, o + i * 3 + 2, none⟩ = some (.string s) := d2
        go_region_with (go_at_call 26; refine (hnx _ _ (by first | rfl | (rw [IntKind.wrap_u64]; omega) | (simp; omega))).mono ?_; rintro _ w3 ⟨rfl, hf3⟩; have d3 := cell_fr hf3 d2')
        all_goals (
          have HF3 : Hid (Fr w w3) := Fr.trans (Fr.drew HF2.out) hf3
          clear hf3 d0 d1 d2 d2' d3 HF2
          go_wp2_with fail
          go_roundw
          case rel => exact ⟨i + 1, _, by go_num, rfl, by omega, by rw [data_append, data_append, HAO.out, HZL.out, ← HA.out, HB.out], HZS.out, HF3.out⟩
          case measure => simp [intOf]; omega)
    · obtain rfl : i = l.length := by omega
      rw [List.drop_length] at hacc
      have HE : Hid (acc = ⟨(WM.row l).toArray⟩) := by
        unfold Hid
        apply ByteArray.ext
        simp at hacc
        rw [← hacc]
      have HFR : Hid _ := hfr
      clear hacc hfr HC HW HALL
      go_wp2_with fail
      go_ret
      exact ⟨ret_ba HE.out, HFR.out⟩
end Go.Proofs.Ythpcdhnaibpjnaa
