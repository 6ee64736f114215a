/-
  What Sort's answers are: rows that were, filtered and sorted.
-/
import Derived.Test.YtbcfdhimngoplaaGreatDoorBpO
import Derived.Test.YtbcfdhimngoplaaGreatDoorGqN
import Derived.Test.YtbcfdhimngoplaaGreatDoorGqF
namespace Go.Proofs.YtbcfdhimngoplaaGreatDoor
open Go.ChangeShapes Go.WideShapes Go.ChangeAt Go.RowKit
set_option linter.unusedVariables false
set_option linter.unusedSimpArgs false
namespace BG
theorem hasC_sub {ls b : List (List VM.Vl)} (hc : chk ls = 0) (hb : ∀ r ∈ b, r ∈ ls) {col : Int} (h : hasC ls col = true) : hasC b col = true := by
 unfold hasC at h ⊢
 cases b with
 | nil => simp
 | cons r t =>
  have hr := hb r (by simp)
  have hn : ¬ ls.length = 0 := by intro e; rw [List.length_eq_zero_iff.1 e] at hr; cases hr
  have hw : wd (r :: t) = wd ls := ((chk_all hc).2 r hr).2.2
  rw [hw]
  simpa [hn] using h
theorem srt_iff {ls m : List (List VM.Vl)} {ks : List Ky} : srt ls ks = .ok m ↔ chk ls = 0 ∧ ks.length ≤ 8 ∧ ks.all (fun k => hasC ls k.col) = true ∧ m = BO.sort (klt ks) ls := by
 unfold srt
 by_cases h1 : chk ls = 0
 case neg => rw [if_pos h1]; exact ⟨fun h => (by cases h), fun h => absurd h.1 h1⟩
 rw [if_neg (by simp [h1])]
 by_cases h2 : 8 < ks.length
 · rw [if_pos h2]; exact ⟨fun h => (by cases h), fun h => by have := h.2.1; omega⟩
 rw [if_neg h2]
 cases h3 : ks.all (fun k => hasC ls k.col) with
 | false => rw [if_pos rfl]; exact ⟨fun h => (by cases h), fun h => (by cases h.2.2.1)⟩
 | true =>
  rw [if_neg (by decide)]
  constructor
  · intro h; cases h; exact ⟨h1, by omega, rfl, rfl⟩
  · rintro ⟨_, _, _, rfl⟩; rfl
theorem srt_er {ls : List (List VM.Vl)} {ks : List Ky} (h : erR (srt ls ks) = 0) : ∃ m, srt ls ks = .ok m := by
 cases hx : srt ls ks with
 | ok m => exact ⟨m, rfl⟩
 | error c =>
  rw [hx] at h
  have hc : c = 0 := h
  subst hc
  unfold srt at hx
  split at hx
  · rename_i h1; injection hx with hx; exact absurd hx h1
  split at hx
  · cases hx
  split at hx
  · cases hx
  · cases hx
theorem srt_er' {ls : List (List VM.Vl)} {ks : List Ky} (h : erR (srt ls ks) ≠ 0) : outR (srt ls ks) = [] := by
 cases hx : srt ls ks with
 | ok m => rw [hx] at h; exact absurd rfl h
 | error c => rfl
theorem srt_mem {ls : List (List VM.Vl)} {ks : List Ky} : (∀ r ∈ outR (srt ls ks), r ∈ ls) ∧ (outR (srt ls ks)).length ≤ ls.length := by
 cases hx : srt ls ks with
 | error c => exact ⟨fun r hr => (by cases hr), Nat.zero_le _⟩
 | ok m =>
  obtain ⟨_, _, _, rfl⟩ := srt_iff.1 hx
  exact ⟨fun r hr => (BO.sort_perm _).mem_iff.1 hr, by show (BO.sort _ _).length ≤ _; rw [BO.sort_len]; exact Nat.le_refl _⟩
theorem fil_mem {ls : List (List VM.Vl)} {cs : List ByteArray} {e : List EX.Nd} : (∀ r ∈ outR (fil ls cs e), r ∈ ls) ∧ (outR (fil ls cs e)).length ≤ ls.length := by
 cases hx : fil ls cs e with
 | error c => exact ⟨fun r hr => (by cases hr), Nat.zero_le _⟩
 | ok m =>
  obtain ⟨_, _, _, rfl⟩ := fil_iff.1 hx
  exact ⟨fun r hr => (List.mem_filter.1 hr).1, List.length_filter_le _ _⟩
theorem fil_er {ls : List (List VM.Vl)} {cs : List ByteArray} {e : List EX.Nd} (h : erR (fil ls cs e) = 0) : ∃ m, fil ls cs e = .ok m := by
 cases hx : fil ls cs e with
 | ok m => exact ⟨m, rfl⟩
 | error c => rw [hx] at h; exact absurd h (fil_ne hx)
theorem srt_fil {ls : List (List VM.Vl)} {ks : List Ky} {cs : List ByteArray} {e : List EX.Nd} (h1 : erR (srt ls ks) = 0) (h2 : erR (fil (outR (srt ls ks)) cs e) = 0) :
  erR (fil ls cs e) = 0 ∧ erR (srt (outR (fil ls cs e)) ks) = 0 ∧ outR (srt (outR (fil ls cs e)) ks) = outR (fil (outR (srt ls ks)) cs e) := by
 obtain ⟨m, hm⟩ := srt_er h1
 rw [hm] at h2
 obtain ⟨a, ha⟩ := fil_er h2
 rw [hm]
 change fil m cs e = .ok a at ha
 obtain ⟨c1, c2, c3, rfl⟩ := srt_iff.1 hm
 obtain ⟨d1, d2, d3, rfl⟩ := fil_iff.1 ha
 have e1 : fil ls cs e = .ok (ls.filter (kp (EV.tru e cs))) := fil_iff.2 ⟨c1, d2, fun r hr => d3 r ((BO.sort_perm _).mem_iff.2 hr), rfl⟩
 have e2 : srt (ls.filter (kp (EV.tru e cs))) ks = .ok (BO.sort (klt ks) (ls.filter (kp (EV.tru e cs)))) := srt_iff.2 ⟨chk_filter c1 _, c2, by
  rw [List.all_eq_true] at c3 ⊢
  exact fun k hk => hasC_sub c1 (fun r hr => (List.mem_filter.1 hr).1) (c3 k hk), rfl⟩
 rw [e1]
 refine ⟨rfl, ?_, ?_⟩
 ·
  show erR (srt (ls.filter (kp (EV.tru e cs))) ks) = 0
  rw [e2]; rfl
 ·
  show outR (srt (ls.filter (kp (EV.tru e cs))) ks) = outR (fil (BO.sort (klt ks) ls) cs e)
  rw [e2, ha]
  exact (BO.sort_filter (klt_weak ks) _ ls).symm
theorem srt_again {ls : List (List VM.Vl)} {ks : List Ky} (h1 : erR (srt ls ks) = 0) : srt (outR (srt ls ks)) ks = .ok (outR (srt ls ks)) := by
 obtain ⟨m, hm⟩ := srt_er h1
 rw [hm]
 obtain ⟨c1, c2, c3, rfl⟩ := srt_iff.1 hm
 have hp : ∀ r ∈ BO.sort (klt ks) ls, r ∈ ls := fun r hr => (BO.sort_perm _).mem_iff.1 hr
 refine srt_iff.2 ⟨chk_sub c1 ?_ hp, c2, ?_, (BO.sort_again (klt_weak ks) ls).symm⟩
 ·
  show (BO.sort (klt ks) ls).length ≤ 40
  rw [BO.sort_len]; exact (chk_all c1).1
 ·
  rw [List.all_eq_true] at c3 ⊢
  exact fun k hk => hasC_sub c1 hp (c3 k hk)
theorem srt_step {ls : List (List VM.Vl)} {ks : List Ky} (h1 : erR (srt ls ks) = 0) {i : Nat} (hi : i < ks.length) : srt (BO.sort (klt (ks.drop (i + 1))) ls) [ks[i]] = .ok (BO.sort (klt (ks.drop i)) ls) := by
 obtain ⟨m, hm⟩ := srt_er h1
 obtain ⟨c1, c2, c3, rfl⟩ := srt_iff.1 hm
 have hp : ∀ r ∈ BO.sort (klt (ks.drop (i + 1))) ls, r ∈ ls := fun r hr => (BO.sort_perm _).mem_iff.1 hr
 refine srt_iff.2 ⟨chk_sub c1 ?_ hp, by simp, ?_, ?_⟩
 · rw [BO.sort_len]; exact (chk_all c1).1
 ·
  rw [List.all_eq_true] at c3 ⊢
  intro k hk
  rw [List.mem_singleton] at hk
  subst hk
  exact hasC_sub c1 hp (c3 _ (List.getElem_mem hi))
 ·
  have e1 : ks.drop i = ks[i] :: ks.drop (i + 1) := List.drop_eq_getElem_cons hi
  have ew : ∀ (l : List Ky), ∀ f ∈ l.map colLt, BO.Weak f := fun l f hf => by
   obtain ⟨k, _, rfl⟩ := List.mem_map.1 hf
   exact col_weak k
  have hk1 := BO.sort_keys (ks := (ks.drop i).map colLt) ls (ew _)
  have hk2 := BO.sort_keys (ks := (ks.drop (i + 1)).map colLt) ls (ew _)
  have hk3 := BO.sort_keys (ks := [ks[i]].map colLt) (BO.sort (klt (ks.drop (i + 1))) ls) (ew _)
  rw [e1, List.map_cons, List.foldr_cons, hk2] at hk1
  rw [e1]
  show BO.sort (BO.lexAll ((ks[i] :: ks.drop (i + 1)).map colLt)) ls = BO.sort (BO.lexAll ([ks[i]].map colLt)) _
  rw [← hk3, List.map_cons, ← hk1]
  rfl
end BG
end Go.Proofs.YtbcfdhimngoplaaGreatDoor
