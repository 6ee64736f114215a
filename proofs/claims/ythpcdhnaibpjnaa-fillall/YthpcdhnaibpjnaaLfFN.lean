/-
  Lists that are filled: each is the longest beginning that fits.
-/
import Derived.Test.YthpcdhnaibpjnaaLfFM
namespace Go.Proofs.Ythpcdhnaibpjnaa
namespace LF
open VM
def sm (l : List En) : Nat := (l.flatMap eb).length
theorem sm_cons (e : En) (l : List En) : sm (e :: l) = (eb e).length + sm l := by unfold sm; rw [List.flatMap_cons, List.length_append]
theorem sm_nil : sm [] = 0 := rfl
/-- how many more fit -/
def gc : Nat → List En → Nat
  | _, [] => 0
  | room, e :: l => if room < (eb e).length then 0 else gc (room - (eb e).length) l + 1
def fl1 : Nat → List En → List En → List (List En)
  | _, last, [] => [last]
  | room, last, e :: l => if room < (eb e).length then last :: fl1 (244 - (eb e).length) [e] l else fl1 (room - (eb e).length) (last ++ [e]) l
theorem gc_cons (room : Nat) (e : En) (l : List En) : gc room (e :: l) = if room < (eb e).length then 0 else gc (room - (eb e).length) l + 1 := rfl
theorem fl1_cons (room : Nat) (last : List En) (e : En) (l : List En) : fl1 room last (e :: l) = if room < (eb e).length then last :: fl1 (244 - (eb e).length) [e] l else fl1 (room - (eb e).length) (last ++ [e]) l := rfl
theorem fl_fl1 : ∀ (l : List En) (room : Nat) (is : List (List En)) (last : List En), fl room (is ++ [last]) l = is ++ fl1 room last l
  | [], _, _, _ => rfl
  | e :: l, room, is, last => by
    rw [fl_cons, fl1_cons]
    split
    · rw [fl_fl1 l, List.append_assoc]
      rfl
    · rw [addLast_snoc, fl_fl1 l]
theorem fill_cons (e : En) (l : List En) : fill (e :: l) = fl1 (244 - (eb e).length) [e] l := by
  unfold fill
  rw [fl_cons, if_pos (show 0 < (eb e).length from eb_pos e)]
  exact fl_fl1 l _ [] [e]
theorem fl1_gc : ∀ (l : List En) (room : Nat) (last : List En), fl1 room last l = (last ++ l.take (gc room l)) :: fill (l.drop (gc room l))
  | [], _, last => by simp [fl1, gc, fill, fl]
  | e :: l, room, last => by
    rw [fl1_cons, gc_cons]
    split
    · rw [List.take_zero, List.drop_zero, List.append_nil, fill_cons]
    · rw [fl1_gc l, List.take_succ_cons, List.drop_succ_cons]
      simp
theorem gc_le : ∀ (l : List En) (room : Nat), gc room l ≤ l.length
  | [], _ => Nat.le_refl _
  | e :: l, room => by
    rw [gc_cons]
    split
    · exact Nat.zero_le _
    · have := gc_le l (room - (eb e).length)
      rw [List.length_cons]
      omega
theorem gc_sum : ∀ (l : List En) (room : Nat), sm (l.take (gc room l)) ≤ room
  | [], _ => by simp [sm]
  | e :: l, room => by
    rw [gc_cons]
    split
    · simp [sm]
    · have := gc_sum l (room - (eb e).length)
      rw [List.take_succ_cons, sm_cons]
      omega
theorem gc_max : ∀ (l : List En) (room : Nat), gc room l < l.length → room < sm (l.take (gc room l + 1))
  | [], _, h => by simp at h
  | e :: l, room, h => by
    rw [gc_cons] at h ⊢
    split at h
    · rename_i h1
      rw [if_pos h1, List.take_succ_cons, sm_cons]
      omega
    · rename_i h1
      rw [if_neg h1, List.take_succ_cons, sm_cons]
      have := gc_max l (room - (eb e).length) (by simpa using h)
      omega
def nx : List En → Nat
  | [] => 0
  | e :: l => gc (244 - (eb e).length) l + 1
theorem fill_nx {l : List En} (h : l ≠ []) : fill l = l.take (nx l) :: fill (l.drop (nx l)) := by
  cases l with
  | nil => exact absurd rfl h
  | cons e l =>
    rw [fill_cons, fl1_gc]
    show _ = (e :: l).take (gc _ l + 1) :: fill ((e :: l).drop (gc _ l + 1))
    rw [List.take_succ_cons, List.drop_succ_cons]
    rfl
theorem nx_pos {l : List En} (h : l ≠ []) : 1 ≤ nx l := by
  cases l with
  | nil => exact absurd rfl h
  | cons e l => exact Nat.succ_le_succ (Nat.zero_le _)
theorem nx_le (l : List En) : nx l ≤ l.length := by
  cases l with
  | nil => exact Nat.le_refl _
  | cons e l => exact Nat.succ_le_succ (gc_le l _)
theorem nx_fits {l : List En} (h : ∀ e ∈ l, (eb e).length ≤ 244) : sm (l.take (nx l)) ≤ 244 := by
  cases l with
  | nil => simp [sm]
  | cons e l =>
    have h1 := h e (by simp)
    have h2 := gc_sum l (244 - (eb e).length)
    show sm ((e :: l).take (gc _ l + 1)) ≤ 244
    rw [List.take_succ_cons, sm_cons]
    omega
theorem sm_mono : ∀ (l : List En) (m n : Nat), m ≤ n → sm (l.take m) ≤ sm (l.take n)
  | [], m, n, _ => by simp
  | e :: l, 0, n, _ => by simp [sm]
  | e :: l, m + 1, 0, h => by omega
  | e :: l, m + 1, n + 1, h => by
    rw [List.take_succ_cons, List.take_succ_cons, sm_cons, sm_cons]
    have := sm_mono l m n (by omega)
    omega
theorem nx_max {l : List En} (h : ∀ e ∈ l, (eb e).length ≤ 244) {m : Nat} (h1 : nx l < m) (h2 : m ≤ l.length) : 244 < sm (l.take m) := by
  cases l with
  | nil => simp at h2; omega
  | cons e l =>
    have he := h e (by simp)
    have h3 : gc (244 - (eb e).length) l < l.length := by
      have : nx (e :: l) = gc (244 - (eb e).length) l + 1 := rfl
      simp only [List.length_cons] at h2
      omega
    have h4 := gc_max l (244 - (eb e).length) h3
    have h5 : nx (e :: l) = gc (244 - (eb e).length) l + 1 := rfl
    have h6 := sm_mono (e :: l) (nx (e :: l) + 1) m (by omega)
    rw [h5, List.take_succ_cons, sm_cons] at h6
    omega
theorem bytes_len {l : List En} (h : l.length ≤ 40) : (bytes l).length = 1 + sm l := by
  unfold bytes sm
  rw [List.length_append, NM.enc_small (by omega)]
  rfl
end LF
end Go.Proofs.Ythpcdhnaibpjnaa
