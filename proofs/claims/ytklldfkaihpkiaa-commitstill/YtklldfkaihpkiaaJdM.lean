/-
  The document's Settled, for all pages and writes.
-/
import Derived.Test.YtklldfkaihpkiaaJdK
namespace Go.Proofs.Ytklldfkaihpkiaa
open Go.ChangeShapes Go.WideShapes Go.ChangeAt Go.RowKit
set_option linter.unusedVariables false
set_option linter.unusedSimpArgs false
set_option maxRecDepth 100000

namespace JN
/-- the pages as the document reckons them, all thirty-two -/
def sett (l : List B) (wt : List W) (m : Nat) : List B := (List.range 32).map fun (i : Nat) => lastP (i : Int) (pageAt l (i : Int)) wt m
theorem sett_len (l : List B) (wt : List W) (m : Nat) : (sett l wt m).length = 32 := by simp [sett]
theorem sett_get (l : List B) (wt : List W) (m i : Nat) (h : i < (sett l wt m).length) : (sett l wt m)[i] = lastP (i : Int) (pageAt l (i : Int)) wt m := by simp [sett]
end JN
theorem upTo_le (l : List JN.B) : ∀ i n, n ≤ i → JN.upTo i n l ≤ i + l.length := by
  induction l with
  | nil => intro i n h; simpa [JN.upTo] using h
  | cons p r ih =>
    intro i n h
    rw [JN.upTo, List.length_cons]
    have := ih (i + 1) (if 0 < p.size then i + 1 else n) (by split <;> omega)
    omega
set_option maxHeartbeats 4000000 in
theorem settled_any (p q : Value) (l : List JN.B) (wt : List JN.W) (m : Nat) (w : World) (h : IsL cdP w p l) (h2 : IsL cdW w q wt) (hm : m < 18446744073709551616) (hbig : wt.length ≤ 9223372036854775806) :
    Calls Try.prog 42 #[p, q, .int .u64 m] w fun e w' => ∃ v, e = .returned v ∧ IsL cdP w' v (JN.trim (JN.sett l wt m)) ∧ Fr w w' := by
  have c := fun (i : Int) W (f : Fr w W) => lastOf_any p q l wt m i W (h.fr f) (h2.fr f) hm hbig
  have hlen := JN.sett_len l wt m
  have hget := JN.sett_get l wt m
  obtain ⟨full, hfu⟩ : ∃ full, JN.sett l wt m = full := ⟨_, rfl⟩
  rw [hfu] at hlen hget ⊢
  have c2 : ∀ (i : Nat) (hi : i < full.length) W (f : Fr w W), Calls Try.prog 53 #[p, q, .int .u64 m, .int .i64 i] W fun e w' => e = .returned (.string full[i]) ∧ w' = W := by
    intro i hi W f
    rw [hget i hi]
    exact c i W f
  have hup := JN.upTo_pages full
  have hule := upTo_le full 0 0 (Nat.le_refl _)
  obtain ⟨a1, n1, d1, rfl⟩ := h.slice
  obtain ⟨a2, n2, d2, rfl⟩ := h2.slice
  obtain ⟨i0, hif, hz0, hz1, hz2⟩ := info_parts Try.infoS
  have HC := hideP c2
  have HL := hideP hlen
  have HU := hideP hup
  have HE := hideP hule
  clear c c2 hget hfu h h2 hlen hup hule
  go_enter Try.func42, Try.ntmps42
  go_wp2_with fail
  go_loopw [7, 8, 9, 10] (fun ov nv iv _ wr => ∃ i n : Nat, iv = .int .i64 i ∧ nv = .int .i64 n ∧ i ≤ 32 ∧ n ≤ i ∧ JN.upTo 0 0 full = JN.upTo i n (full.drop i) ∧ wr.ownsRow w.heap.size 9 1 ov i (flat cdP (full.take i)) ∧ Fr w wr) (fun _ _ iv _ _ => 32 - (intOf iv).toNat)
  case atStart => exact ⟨0, 0, rfl, rfl, Nat.zero_le _, Nat.le_refl _, rfl, World.ownsRow_nil _ _ _ _, Fr.refl w⟩
  case round =>
    obtain ⟨i, n, rfl, rfl, hi, hn, hall, hown, hfr⟩ := hrel
    obtain ⟨av, cv, rfl⟩ := own_slice hown
    by_cases hlt : i < 32
    · have hltZ : (i : Int) < 32 := by omega
      have hif2 : i < full.length := by rw [HL.out]; exact hlt
      have hc := HC.out i hif2 wr hfr
      rw [List.drop_eq_getElem_cons hif2, JN.upTo] at hall
      have htk : full.take (i + 1) = full.take i ++ [full[i]] := (List.take_succ_eq_append_getElem hif2)
      generalize full[i] = gi at hc hall htk
      have HA := hideP hall
      have HT := hideP htk
      have HO := hideP hown
      have HFr := hideP hfr
      clear hall htk hown hfr hif2
      go_wp2_with fail
      refine hc.mono ?_
      rintro _ wr ⟨rfl, rfl⟩
      clear hc
      go_wp2_with (at_builtin; refine wpList_append_own _ rfl _ _ 22 rfl w.heap.size 9 i0 (.string ⟨#[]⟩) 1 16 Try.underlying22 hif hz0 hz1 hz2 rfl (by decide) _ _ _ rfl (own_fr HO.out ((Fr.refl wr).alloc _)) ⟨wr.heap.size, 0, none⟩ 1 1 [.string gi] rfl ?qc1 ?qc2 ?qc3 ?qc4 ?qc5 ?qc6 ?_)
      case qc1 => rfl
      case qc2 =>
        intro jj u hj
        rw [Addr.add_lit, Nat.zero_add]
        exact (Blk.new wr #[.string gi] 9).cell jj (u := u) (by simpa using hj)
      case qc3 => intro u hu; simp at hu; rcases hu with rfl; rfl
      case qc4 => unfold maxLen; omega
      case qc5 => omega
      case qc6 => have := HFr.out.size; simp; omega
      intro v2 w6 hown2 hgrow hnil
      have f6 : Fr w w6 := Below.grown (HFr.out.alloc _) hgrow (by have := HFr.out.size; simp; omega) (own_base HO.out)
      have HO6 : Hid (w6.ownsRow w.heap.size 9 1 v2 (i + 1) (flat cdP (full.take (i + 1)))) := by
        unfold Hid
        rw [HT.out, flat_app]; exact hown2
      have HF6 := hideP f6
      clear hown2 hgrow hnil f6
      by_cases hp : 0 < gi.size
      · rw [if_pos hp] at HA
        have hpZ : (0 : Int) < (gi.size : Int) := by omega
        go_wp2_with fail
        go_roundw
        case rel => exact ⟨i + 1, i + 1, by go_num, by go_num, by omega, Nat.le_refl _, HA.out, HO6.out, HF6.out⟩
        case measure => simp [intOf]; omega
      · rw [if_neg hp] at HA
        have hp0 : gi.size = 0 := by omega
        clear hp
        go_wp2_with fail
        go_roundw
        case rel => exact ⟨i + 1, n, by go_num, rfl, by omega, by omega, HA.out, HO6.out, HF6.out⟩
        case measure => simp [intOf]; omega
    · have hi' : i = 32 := by omega
      subst hi'
      have hnn : n = JN.upTo 0 0 full := by
        rw [hall, List.drop_eq_nil_of_le (by rw [HL.out]; omega)]
        rfl
      have hL : IsL cdP wr (.slice av 32 cv) full := by
        have e : full.take 32 = full := List.take_of_length_le (by rw [HL.out]; omega)
        rw [e] at hown
        have := isL_own (E := cdP) (l := full) (by rw [HL.out]; exact hown)
        exact this
      have hcap := hL.cap.2
      rw [HL.out] at hcap
      have hL2 := hL.upto n (by rw [HL.out]; omega)
      rw [hnn, HU.out, ← hnn] at hL2
      have hb1 : (n : Int) ≤ (cv : Int) := by omega
      have hb2 : n ≤ cv := by omega
      have hb3 : (0 : Int) ≤ (n : Int) := by omega
      have HL2 := hideP hL2
      have HFr := hideP hfr
      clear hL hL2 hnn hall hown hfr hcap
      go_wp2_with fail
      go_ret
      exact ⟨_, rfl, HL2.out, HFr.out⟩
end Go.Proofs.Ytklldfkaihpkiaa
