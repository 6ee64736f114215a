/-
  What the document's own EntriesBytes answers of right entries.
-/
import Derived.Test.YthpcdhnaibpjnaaRefE
namespace Go.Proofs.Ythpcdhnaibpjnaa
open Go.ChangeShapes Go.WideShapes Go.ChangeAt Go.RowKit
set_option linter.unusedVariables false
set_option linter.unusedSimpArgs false
set_option maxRecDepth 100000

/-- entries of which each one's row is right -/
def Right (l : List LF.En) : Prop := ∀ e ∈ l, VM.chkRow e.2 = 0 ∧ LF.wideE e

set_option maxHeartbeats 1000000 in
theorem entriesBytes_any (v : Value) (l : List LF.En) (w : World) (hv : IsEn w v l) (h40 : l.length ≤ 40) (hr : Right l) :
    Calls Try.prog 11 #[v] w fun e w' => e = .returned (.string ⟨(LF.bytes l).toArray⟩) ∧ Fr w w' := by
  obtain ⟨a, cap, rfl, hcs⟩ := hv
  have HC := hideP hcs
  have HR := hideP hr
  have hnb := fun W => numBytes_any l.length W (by omega)
  have he10 : (NM.enc l.length).length ≤ 10 := NM.enc_ten (by omega)
  have h40' : (l.length : Int) ≤ 40 := by omega
  clear hcs hr
  go_enter Try.func11, Try.ntmps11
  go_wp2_with fail
  refine (hnb _).mono ?_
  rintro _ w1 ⟨rfl, hf1⟩
  have HF1 := hideP hf1
  clear hnb hf1
  go_wp2_with fail
  go_loopw [3, 4] (fun sv iv wr => ∃ (i : Nat) (acc : ByteArray), iv = .int .i64 i ∧ sv = .string acc ∧ i ≤ l.length ∧ acc.data.toList ++ (l.drop i).flatMap LF.eb = LF.bytes l ∧ acc.size ≤ 10 + 155 * i ∧ Fr w wr) (fun _ iv _ => l.length - (intOf iv).toNat)
  case atStart => exact ⟨0, _, rfl, rfl, Nat.zero_le _, rfl, by rw [enc_size]; omega, HF1.out⟩
  case round =>
    obtain ⟨i, acc, rfl, rfl, hi, hacc, hal, hfr⟩ := hrel
    by_cases hlt : i < l.length
    · obtain ⟨b, o, rfl, hb, hc⟩ : ∃ b o, a = some ⟨b, o, none⟩ ∧ b < w.heap.size ∧ EnAt w b o l := by
        rcases HC.out with h | h
        · subst h; simp at hlt
        · exact h
      obtain ⟨c0', rv, c1', hrow⟩ := hc i hlt
      have c0 := (Below.cell hfr hb).trans c0'
      have c1 := (Below.cell hfr hb).trans c1'
      obtain ⟨hck, hwd⟩ := HR.out l[i] (List.getElem_mem hlt)
      have hdr : acc.data.toList ++ (l.drop i).flatMap LF.eb = (acc.data.toList ++ LF.eb l[i]) ++ (l.drop (i + 1)).flatMap LF.eb := by
        rw [List.drop_eq_getElem_cons hlt, List.flatMap_cons, List.append_assoc]
      rw [hdr] at hacc
      generalize l[i] = x at *
      obtain ⟨id, r⟩ := x
      simp only at c0 c1 hrow hck
      obtain ⟨hid, hwr⟩ := hwd
      simp only at hid hwr
      have hzr := zig_range hid.1 hid.2
      have hzg := fun W => zigOf_any id W hid.1 hid.2
      have hnz := fun W => numBytes_int (zigN id) W hzr.1 hzr.2
      rw [zig_zigN] at hnz
      have hrb := fun W (f : Fr w W) => rowBytes_any rv r W (hrow.fr f) hwr hck
      have hl1 : (NM.enc (WM.zig id)).length ≤ 10 := NM.enc_ten (LF.zig_lt (e := (id, r)) ⟨hid, hwr⟩)
      have hl2 := LF.row_len hck hwr
      have hs1 : (⟨(NM.enc (WM.zig id)).toArray⟩ : ByteArray).size = (NM.enc (WM.zig id)).length := mk_size _
      have hs2 : (⟨(WM.row r).toArray⟩ : ByteArray).size = (WM.row r).length := mk_size _
      have hbb : (⟨(NM.enc (WM.zig id)).toArray⟩ : ByteArray) ++ ⟨(WM.row r).toArray⟩ = ⟨(LF.eb (id, r)).toArray⟩ := ba_app _ _
      have HB : Hid ((⟨(NM.enc (WM.zig id)).toArray⟩ ++ ⟨(WM.row r).toArray⟩ : ByteArray).data.toList = LF.eb (id, r)) := by unfold Hid; rw [hbb]
      generalize (⟨(NM.enc (WM.zig id)).toArray⟩ : ByteArray) = S1 at *
      generalize (⟨(WM.row r).toArray⟩ : ByteArray) = S2 at *
      generalize zigN id = zn at *
      have z1 : S1.size + S2.size ≤ 9223372036854775807 := by omega
      have z2 : (S1 ++ S2).size = S1.size + S2.size := ByteArray.size_append
      have z3 : acc.size + (S1.size + S2.size) ≤ 9223372036854775807 := by omega
      have z4 : acc.size + (S1 ++ S2).size ≤ 9223372036854775807 := by omega
      have HZ : Hid ((acc ++ (S1 ++ S2)).size ≤ 10 + 155 * (i + 1)) := by unfold Hid; rw [ByteArray.size_append]; omega
      have HA := hideP hacc
      have HFR := hideP hfr
      have hlt' : (i : Int) < (l.length : Int) := by omega
      obtain ⟨ar, capr, rfl, _⟩ := hrow
      have hbw : b < wr.heap.size := Nat.lt_of_lt_of_le hb hfr.size
      have c1d : wr.drew.cell? ⟨b, o + i * 2 + 1, none⟩ = some (.slice ar r.length capr) := c1
      have HC1 := hideP c1
      clear hc hacc hck hdr c0' c1' hbb hs1 hs2 hl1 hl2 z2 hfr
      go_wp2_with fail
      go_region_with (first
        | (go_at_call 27; refine (hzg _).mono ?_; rintro _ w2 ⟨rfl, rfl⟩)
        | (go_at_call 26; refine (hnz _).mono ?_; rintro _ w3 ⟨rfl, f3⟩; have F3 : Hid (Fr w w3) := (by first | exact Fr.trans HFR.out f3 | exact Fr.trans (Fr.drew HFR.out) f3); have d1 : w3.cell? ⟨b, o + i * 2 + 1, none⟩ = some (.slice ar r.length capr) := (Below.cell (by first | exact f3 | exact Fr.trans (Fr.drew (Fr.refl _)) f3) hbw).trans HC1.out; clear f3)
        | (go_at_call 28; refine (hrb _ F3.out).mono ?_; rintro _ w4 ⟨rfl, f4⟩; have F4 : Hid (Fr w w4) := Fr.trans F3.out f4; clear f4))
      all_goals
        go_wp2_with fail
        go_roundw
        case rel => exact ⟨i + 1, _, by go_num, rfl, by omega, by rw [data_append, HB.out]; exact HA.out, HZ.out, F4.out⟩
        case measure => simp [intOf]; omega
    · obtain rfl : i = l.length := by omega
      rw [List.drop_length] at hacc
      have HE : Hid (acc = ⟨(LF.bytes l).toArray⟩) := by
        unfold Hid
        apply ByteArray.ext
        simp at hacc
        rw [← hacc]
      have HFR := hideP hfr
      clear hacc hfr HC HR
      go_wp2_with fail
      go_ret
      exact ⟨ret_ba HE.out, HFR.out⟩
end Go.Proofs.Ythpcdhnaibpjnaa
