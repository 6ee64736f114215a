/-
  Rows that came in, in a row of the call's own; what the document's DistinctOf and LimitOf answer.
-/
import Derived.Test.YtbcfdhimngoplaaGreatDoorGqG
import Derived.Test.YtbcfdhimngoplaaGreatDoorGqF
import Derived.Test.YtbcfdhimngoplaaGreatDoorBpO
namespace Go.Proofs.YtbcfdhimngoplaaGreatDoor
open Go.ChangeShapes Go.WideShapes Go.ChangeAt Go.RowKit
set_option linter.unusedVariables false
set_option linter.unusedSimpArgs false
set_option maxRecDepth 100000
set_option maxHeartbeats 2000000
def PR (B : Nat) (w0 w : World) (v : Value) (ks : List (List VM.Vl)) : Prop := ∃ qs : List Sq, w.ownsRow B 31 1 v ks.length (flat cdS qs) ∧ qs.length = ks.length ∧ ∀ i (h1 : i < qs.length) (h2 : i < ks.length), IsL cdV w0 qs[i].v ks[i]
theorem PR.nil (B : Nat) (w0 w : World) : PR B w0 w (.slice none 0 0) [] := ⟨[], World.ownsRow_nil _ _ _ _, rfl, fun i h => by simp at h⟩
theorem PR.fr {B : Nat} {w0 w w' : World} {v : Value} {ks : List (List VM.Vl)} (h : PR B w0 w v ks) (f : Fr w w') : PR B w0 w' v ks := by
 obtain ⟨qs, h1, h2, h3⟩ := h
 exact ⟨qs, own_fr h1 f, h2, h3⟩
theorem PR.slice {B : Nat} {w0 w : World} {v : Value} {ks : List (List VM.Vl)} (h : PR B w0 w v ks) : ∃ a c, v = .slice a ks.length c := by
 obtain ⟨qs, h1, _⟩ := h
 exact own_slice h1
theorem PR.rows {B : Nat} {w0 w : World} {v : Value} {ks : List (List VM.Vl)} (h : PR B w0 w v ks) (f : Fr w0 w) : IsRR w v ks := by
 obtain ⟨qs, h1, h2, h3⟩ := h
 exact ⟨qs, isL_own (E := cdS) (l := qs) (by rw [h2]; exact h1), h2, fun i a b => (h3 i a b).fr f⟩
theorem PR.snoc {B : Nat} {w0 w' : World} {v' : Value} {ks : List (List VM.Vl)} {qs : List Sq} {q : Sq} {l : List VM.Vl} (hlen : qs.length = ks.length) (hall : ∀ i (h1 : i < qs.length) (h2 : i < ks.length), IsL cdV w0 qs[i].v ks[i])
  (hq : IsL cdV w0 q.v l) (ho : w'.ownsRow B 31 1 v' (ks.length + 1) (flat cdS (qs ++ [q]))) : PR B w0 w' v' (ks ++ [l]) := by
 refine ⟨qs ++ [q], by rw [List.length_append]; exact ho, by simp [hlen], ?_⟩
 intro i h1 h2
 by_cases hi : i < qs.length
 ·
  have e1 : (qs ++ [q])[i] = qs[i] := List.getElem_append_left hi
  have e2 : (ks ++ [l])[i] = ks[i] := List.getElem_append_left (by omega)
  rw [e1, e2]
  exact hall i hi (by omega)
 ·
  have hi2 : i = qs.length := by rw [List.length_append] at h1; simp at h1; omega
  have e1 : (qs ++ [q])[i] = q := by simp [hi2]
  have e2 : (ks ++ [l])[i] = l := by rw [hlen] at hi2; simp [hi2]
  rw [e1, e2]
  exact hq
namespace BG
end BG
end Go.Proofs.YtbcfdhimngoplaaGreatDoor
