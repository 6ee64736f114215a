/-
  SameTexts, and what must be in any case (likeBegun).
-/
import Derived.Test.YtgjgmaadogkjfaaDoorEscape
namespace Go.Proofs.YtgjgmaadogkjfaaDoor
open Go.ChangeShapes Go.WideShapes Go.ChangeAt Go.RowKit Go.Shelf
set_option linter.unusedVariables false

theorem sv_ne {x y : LK.Bs} (h : x ≠ y) : ((⟨x.toArray⟩ : ByteArray).toList == (⟨y.toArray⟩ : ByteArray).toList) = false := by
  refine beq_false_of_ne fun e => h ?_
  rw [Lib.toList_data, Lib.toList_data] at e
  simpa using e
theorem eq_step {l m : List LK.Bs} {i : Nat} {x y : LK.Bs} (hx : l[i]? = some x) (hy : m[i]? = some y) : (l.drop i == m.drop i) = (x == y && l.drop (i + 1) == m.drop (i + 1)) := by
  rw [LK.drop_at hx, LK.drop_at hy]; rfl

set_option maxRecDepth 100000 in
set_option maxHeartbeats 2000000 in
theorem sameTexts_any (u v : Value) (l m : List LK.Bs) (w : World) (hu : IsTx w u l) (hv : IsTx w v m) (hl : l.length ≤ 9223372036854775807) (hm : m.length ≤ 9223372036854775807) :
    Calls Tryd.prog 20 #[u, v] w fun e w' => e = .returned (.bool (l == m)) ∧ Fr w w' := by
  obtain ⟨a, cap, rfl, hcap, hcu⟩ := hu
  obtain ⟨a2, cap2, rfl, hcap2, hcv⟩ := hv
  have HU : Hid _ := hcu
  have HV : Hid _ := hcv
  clear hcu hcv
  by_cases hlm : l.length = m.length
  · have hz : ((l.length : Int) != (m.length : Int)) = false := by simp [hlm]
    have hz2 : (l.length : Int) = (m.length : Int) := by omega
    have HLM : Hid _ := hlm
    clear hlm
    go_enter Tryd.func20, Tryd.ntmps20
    go_wp2
    go_loopw [5] (fun iv wr => ∃ i : Nat, iv = .int .i64 i ∧ i ≤ l.length ∧ (l == m) = (l.drop i == m.drop i) ∧ Fr w wr) (fun iv _ => l.length - (intOf iv).toNat)
    case atStart => exact ⟨0, rfl, Nat.zero_le _, by simp, Fr.refl _⟩
    case round =>
      obtain ⟨i, rfl, hi, hall, hfr⟩ := hrel
      have HA : Hid _ := hall
      have HF : Hid _ := hfr
      clear hall
      by_cases hlt : i < l.length
      · have hltZ : (i : Int) < (m.length : Int) := by have := HLM.out; omega
        have hltN : i < m.length := by have := HLM.out; omega
        obtain ⟨x, hx⟩ : ∃ x, l[i]? = some x := ⟨l[i], List.getElem?_eq_getElem hlt⟩
        obtain ⟨y, hy⟩ : ∃ y, m[i]? = some y := ⟨m[i], List.getElem?_eq_getElem hltN⟩
        obtain ⟨b, rfl, hb, hc⟩ : ∃ b, a = some ⟨b, 0, none⟩ ∧ b < w.heap.size ∧ ∀ i x, l[i]? = some x → w.cell? ⟨b, i, none⟩ = some (sv x) := by
          rcases HU.out with h | h
          · rw [h] at hlt; simp at hlt
          · exact h
        obtain ⟨b2, rfl, hb2, hc2⟩ : ∃ b, a2 = some ⟨b, 0, none⟩ ∧ b < w.heap.size ∧ ∀ i x, m[i]? = some x → w.cell? ⟨b, i, none⟩ = some (sv x) := by
          rcases HV.out with h | h
          · rw [h] at hltN; simp at hltN
          · exact h
        have c0 := (Below.cell hfr (p := ⟨b, i, none⟩) hb).trans (hc i x hx)
        have c1 := (Below.cell hfr (p := ⟨b2, i, none⟩) hb2).trans (hc2 i y hy)
        have hst := eq_step hx hy
        have HST : Hid _ := hst
        clear hc hc2 hfr hx hy hst
        unfold sv at c0 c1
        by_cases hxy : x = y
        · subst hxy
          have hm1 : l.length - (i + 1) < l.length - i := by omega
          go_wp2
          go_quiet (fail)
          go_wp2
          go_roundw
          case rel => exact ⟨i + 1, by simp, hlt, by rw [HA.out, HST.out]; simp, Fr.drewN HF.out _⟩
          case measure => simpa [intOf] using hm1
        · have hne := sv_ne hxy
          have hb3 : (x == y) = false := by simp [hxy]
          have HN : Hid ((l == m) = false) := by unfold Hid; rw [HA.out, HST.out, hb3]; rfl
          clear HA HST hb3
          generalize (⟨x.toArray⟩ : ByteArray) = sx at c0 hne
          generalize (⟨y.toArray⟩ : ByteArray) = sy at c1 hne
          go_wp2
          go_quiet (fail)
          go_wp2
          go_ret
          exact ⟨by rw [HN.out]; rfl, Fr.drewN HF.out _⟩
      · have hltZ : ¬ (i : Int) < (m.length : Int) := by have := HLM.out; omega
        have HN : Hid ((l == m) = true) := by
          unfold Hid
          rw [HA.out, List.drop_eq_nil_of_le (by omega), List.drop_eq_nil_of_le (by have := HLM.out; omega)]
          rfl
        clear HA hfr
        go_wp2
        go_ret
        exact ⟨by rw [HN.out]; rfl, HF.out⟩
  · have hz : ((l.length : Int) != (m.length : Int)) = true := by simp; omega
    have hz2 : ¬ (l.length : Int) = (m.length : Int) := by omega
    have HN : Hid ((l == m) = false) := beq_false_of_ne fun e => hlm (by rw [e])
    go_enter Tryd.func20, Tryd.ntmps20
    go_wp2
    go_ret
    exact ⟨by rw [HN.out]; rfl, Fr.refl _⟩
end Go.Proofs.YtgjgmaadogkjfaaDoor
