/-
  Parts of rows, what is known of right rows.
-/
import Derived.Test.YtoepifbpchpfkaaGreatDoorBgF
namespace Go.Proofs.YtoepifbpchpfkaaGreatDoor
open Go.ChangeShapes Go.WideShapes Go.ChangeAt Go.RowKit
set_option linter.unusedVariables false
set_option linter.unusedSimpArgs false
set_option maxRecDepth 100000
set_option maxHeartbeats 2000000
theorem isL_cut {α : Type} {E : Cd α} {W : World} {b o n c : Nat} {l : List α} (hl : n = l.length) (hb : b < W.heap.size) (hat : At E W b o l) (f s : Nat) (hs : f + s ≤ n) (hc : n ≤ c) (A : Option Addr) (hA : s = 0 ∨ A = some ⟨b, o + f * E.k, none⟩) : IsL E W (.slice A s (c - f)) ((l.drop f).take s) := by
  subst hl
  have hlen : ((l.drop f).take s).length = s := by rw [List.length_take, List.length_drop]; omega
  refine ⟨A, c - f, by rw [hlen], by rw [hlen]; omega, ?_⟩
  rcases hA with rfl | rfl
  · left; simp
  · right
    refine ⟨b, o + f * E.k, rfl, hb, fun j u hj => ?_⟩
    have e : flat E l = flat E (l.take f) ++ (flat E ((l.drop f).take s) ++ flat E ((l.drop f).drop s)) := by rw [← flat_app, ← flat_app, List.take_append_drop, List.take_append_drop]
    have hf : (flat E (l.take f)).length = f * E.k := by rw [flat_len, List.length_take, Nat.min_eq_left (by omega)]
    have hjl : j < (flat E ((l.drop f).take s)).length := (List.getElem?_eq_some_iff.1 hj).1
    have h2 : (flat E l)[f * E.k + j]? = some u := by
      rw [e, List.getElem?_append_right (by omega), hf, show f * E.k + j - f * E.k = j by omega, List.getElem?_append_left hjl]
      exact hj
    have := hat _ _ h2
    rwa [← Nat.add_assoc] at this
theorem OwnRR.low {B B' : Nat} {w : World} {v : Value} {ls : List (List VM.Vl)} (h : OwnRR B w v ls) (hB : B' ≤ B) : OwnRR B' w v ls := by
  obtain ⟨G, arr, qs, e, hG, hb, hq, hc, ho⟩ := h
  exact ⟨G, arr, qs, e, Nat.le_trans hB hG, hb, hq, hc, fun j h1 h2 => own_low (ho j h1 h2) hB⟩
/-- a part of rows -/
theorem isRR_cut {W : World} {a : Option Addr} {n c : Nat} {ls : List (List VM.Vl)} (h : IsRR W (.slice a n c) ls) (f s : Nat) (hs : f + s ≤ n) (A : Option Addr) (hA : ∀ b o, a = some ⟨b, o, none⟩ → s = 0 ∨ A = some ⟨b, o + f, none⟩) : IsRR W (.slice A s (c - f)) ((ls.drop f).take s) := by
  obtain ⟨qs, ⟨a', c', e, hc, hcs⟩, h2, h3⟩ := h
  cases e
  refine ⟨(qs.drop f).take s, ?_, by simp [h2], fun i h4 h5 => ?_⟩
  · rcases hcs with h | ⟨b, o, rfl, hb, hat⟩
    · subst h
      have : s = 0 := by simp at hs; omega
      subst this
      exact ⟨A, c - f, by simp, by simp, .inl (by simp)⟩
    · refine isL_cut (E := cdS) rfl hb hat f s hs hc A ?_
      rcases hA b o rfl with h | h
      · exact .inl h
      · right
        rw [h]
        have e : f * cdS.k = f := by show f * 1 = f; omega
        rw [e]
  · have l1 : f + i < qs.length := by simp at h4; omega
    have l2 : f + i < ls.length := by rw [← h2]; exact l1
    have e1 : ((qs.drop f).take s)[i] = qs[f + i] := by simp
    have e2 : ((ls.drop f).take s)[i] = ls[f + i] := by simp
    rw [e1, e2]
    exact h3 _ l1 l2
theorem BG.rsE_all (wd : Nat) : ∀ (ls : List (List VM.Vl)), BG.rsE wd ls = 0 → ∀ r ∈ ls, r.length ≤ 8 ∧ VM.chkAll r = 0 ∧ r.length = wd
  | [], _, r, hr => by simp at hr
  | x :: t, h, r, hr => by
    unfold BG.rsE at h
    split at h
    · rename_i h0
      rcases List.mem_cons.1 hr with rfl | hr
      · unfold BG.rE at h0
        split at h0
        · cases h0
        split at h0
        · cases h0
        · rename_i h1 h2
          exact ⟨by omega, h0, by simpa using h2⟩
      · exact BG.rsE_all wd t h r hr
    · rename_i h0; exact absurd h h0
theorem BG.chk_all {ls : List (List VM.Vl)} (h : BG.chk ls = 0) : ls.length ≤ 40 ∧ ∀ r ∈ ls, r.length ≤ 8 ∧ VM.chkAll r = 0 ∧ r.length = BG.wd ls := by
  unfold BG.chk at h
  split at h
  · cases h
  · exact ⟨by omega, BG.rsE_all _ ls h⟩
theorem min_k (x : Int) (n : Nat) (h0 : 0 ≤ x) : ∃ K : Nat, K ≤ n ∧ min x (n : Int) = (K : Int) ∧ K = min x.toNat n := ⟨min x.toNat n, by omega, by omega, rfl⟩
end Go.Proofs.YtoepifbpchpfkaaGreatDoor
