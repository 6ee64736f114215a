/-
  What Check and Pack of package leaf answer, for every list of entries.
-/
import Derived.Test.YthpcdhnaibpjnaaLfT
namespace Go.Proofs.Ythpcdhnaibpjnaa
open Go.ChangeShapes Go.WideShapes Go.ChangeAt Go.RowKit
set_option linter.unusedVariables false
set_option linter.unusedSimpArgs false
set_option maxRecDepth 100000

namespace LF
def pkE (l : List En) : Nat := if chk l = 0 then (if 245 < (bytes l).length then 2 else 0) else chk l
def pkS (l : List En) : List UInt8 := if pkE l = 0 then bytes l else []
theorem flat_len : ∀ {last : Int} {l : List En}, chkE last l = 0 → (∀ e ∈ l, wideE e) → (l.flatMap eb).length ≤ 155 * l.length
  | _, [], _, _ => by simp
  | last, e :: l, h, hw => by
    rw [chkE_cons] at h
    split at h
    · rename_i h1
      have h2 := flat_len h (fun x hx => hw x (by simp [hx]))
      have h3 := eb_len h1 (hw e (by simp))
      rw [List.flatMap_cons, List.length_append, List.length_cons]
      omega
    · rename_i h1; exact absurd h h1
end LF

theorem join_flat (l : List (List UInt8)) : Lib.join l [] = l.flatten := by
  cases l with
  | nil => rfl
  | cons a t => rw [Lib.join_cons, Lib.joinTail]; simp
theorem join_any (B : Nat) (v : Value) (l : List LF.En) (w : World) (h : Os B v l w) (hlen : (l.flatMap LF.eb).length ≤ 140737488355328) (hl : l.length ≤ 140737488355328) :
    Calls Try.prog 21 #[v, .string ⟨#[]⟩] w fun e w' => e = .returned (.string ⟨(l.flatMap LF.eb).toArray⟩) ∧ Fr w w' := by
  rcases h.own.2 with ⟨rfl, h0⟩ | ⟨g, cap, cur, rfl, h2, h3, h4, h5, h6, h7⟩
  · have := List.length_eq_zero_iff.1 h0
    subst this
    refine (Try.strings_Join_none none 0 ⟨#[]⟩ w).mono ?_
    rintro _ w' ⟨rfl, rfl⟩
    exact ⟨rfl, Fr.refl _⟩
  · have hxs : ((l.map fun t => (⟨(LF.eb t).toArray⟩ : ByteArray)).map (·.data.toList)) = l.map LF.eb := by simp
    have hj : Lib.join (l.map LF.eb) [] = l.flatMap LF.eb := by rw [join_flat, List.flatMap_def]
    have c := Try.strings_Join g 0 cap (l.map fun t => (⟨(LF.eb t).toArray⟩ : ByteArray)) ⟨#[]⟩ w (by
      intro j x hj
      have hj2 : (l.map strV)[j]? = some (.string x) := by
        rw [List.getElem?_map] at hj ⊢
        cases ht : l[j]? with
        | none => rw [ht] at hj; cases hj
        | some t => rw [ht] at hj; simp at hj ⊢; rw [← hj]; rfl
      rw [Nat.zero_add, Lib.cell_of_heap h3]
      rw [← h7, List.getElem?_take] at hj2
      split at hj2
      · rw [← hj2, Array.getElem?_toList]
      · cases hj2) (Array.getElem?_eq_some_iff.1 h3).1 (by simpa using hl) (by simpa using h4) (by rw [hxs]; show (Lib.join _ []).length ≤ _; rw [hj]; exact hlen)
    rw [hxs] at c
    have c2 : Calls Try.prog 21 #[.slice (some ⟨g, 0, none⟩) l.length cap, .string ⟨#[]⟩] w fun e w' => e = .returned (.string ⟨(Lib.join (l.map LF.eb) []).toArray⟩) ∧ Below w.heap.size w w' := by
      rw [List.length_map] at c
      exact c
    rw [hj] at c2
    exact c2

set_option maxHeartbeats 1000000 in
theorem lcheck_any (v : Value) (l : List LF.En) (w : World) (hv : IsEn w v l) (hl : l.length ≤ 9223372036854775806) (hb : ∀ e ∈ l, LF.wideE e ∧ e.2.length ≤ 9223372036854775807) :
    Calls Try.prog 14 #[v] w fun e w' => e = .returned (.int .i64 (LF.chk l)) ∧ Fr w w' := by
  have ht := texts_any v l w hv hl hb
  clear hv hb
  by_cases h0 : LF.chk l = 0
  · rw [h0]
    simp only [TextsAs, if_pos h0] at ht
    go_enter Try.func14, Try.ntmps14
    go_wp2_with fail
    refine ht.mono ?_
    rintro _ w1 ⟨⟨u, rfl, hos⟩, hf⟩
    clear ht hos
    go_wp2_with fail
    go_ret
    exact ⟨rfl, hf⟩
  · simp only [TextsAs, if_neg h0] at ht
    generalize LF.chk l = c at *
    go_enter Try.func14, Try.ntmps14
    go_wp2_with fail
    refine ht.mono ?_
    rintro _ w1 ⟨rfl, hf⟩
    clear ht
    go_wp2_with fail
    go_ret
    exact ⟨rfl, hf⟩

set_option maxHeartbeats 2000000 in
theorem pack_any (v : Value) (l : List LF.En) (w : World) (hv : IsEn w v l) (hl : l.length ≤ 9223372036854775806) (hb : ∀ e ∈ l, LF.wideE e ∧ e.2.length ≤ 9223372036854775807) :
    Calls Try.prog 8 #[v] w fun e w' => e = .returned (.tuple #[.string ⟨(LF.pkS l).toArray⟩, .int .i64 (LF.pkE l)]) ∧ Fr w w' := by
  have ht := texts_any v l w hv hl hb
  obtain ⟨a, cap, rfl, _⟩ := hv
  by_cases h0 : LF.chk l = 0
  · simp only [TextsAs, if_pos h0] at ht
    obtain ⟨h40, hce⟩ := LF.chk_ok h0
    have hfl := LF.flat_len hce (fun e he => (hb e he).1)
    have hen : (NM.enc l.length).length ≤ 10 := NM.enc_ten (by omega)
    have hwr := fun W => write_any l.length W (by omega)
    have hby : (⟨(NM.enc l.length).toArray⟩ : ByteArray) ++ ⟨(l.flatMap LF.eb).toArray⟩ = ⟨(LF.bytes l).toArray⟩ := ba_app _ _
    have hbl : (LF.bytes l).length = (NM.enc l.length).length + (l.flatMap LF.eb).length := by unfold LF.bytes; rw [List.length_append]
    have hs1 : (⟨(NM.enc l.length).toArray⟩ : ByteArray).size = (NM.enc l.length).length := mk_size _
    have hs2 : (⟨(l.flatMap LF.eb).toArray⟩ : ByteArray).size = (l.flatMap LF.eb).length := mk_size _
    have hjo := fun u W (ho : Os w.heap.size u l W) => join_any w.heap.size u l W ho (by omega) (by omega)
    generalize hS1 : (⟨(NM.enc l.length).toArray⟩ : ByteArray) = S1 at *
    generalize hS2 : (⟨(l.flatMap LF.eb).toArray⟩ : ByteArray) = S2 at *
    have hz1 : S1.size ≤ 10 := by omega
    have hz2 : S2.size ≤ 6200 := by omega
    have hz : S1.size + S2.size = (LF.bytes l).length := by omega
    have HZ := hideP hz
    have HBY := hideP hby
    have hl64 : (l.length : Int) ≤ 40 := by omega
    clear hb hce hfl hen hbl hs1 hs2 hS1 hS2 hz hby
    by_cases h245 : 245 < (LF.bytes l).length
    · have eE : LF.pkE l = 2 := by unfold LF.pkE; rw [if_pos h0, if_pos h245]
      have eS : LF.pkS l = [] := by unfold LF.pkS; rw [if_neg (by omega)]
      rw [eE, eS]
      have hq : (245 : Int) < (S1.size : Int) + (S2.size : Int) := by have := HZ.out; omega
      clear eE eS h0 h245
      go_enter Try.func8, Try.ntmps8
      go_wp2_with fail
      refine ht.mono ?_
      rintro _ w1 ⟨⟨u, rfl, hos⟩, hf⟩
      have HOS := hideP hos
      have HF := hideP hf
      clear ht hos hf
      go_wp2_with fail
      refine (hwr _).mono ?_
      rintro _ w2 ⟨rfl, hf2⟩
      have hj2 := hjo u w2 (Os.fr HOS.out hf2)
      have HF2 := hideP (Fr.trans HF.out hf2)
      clear hwr hf2 hjo HF HOS
      go_wp2_with fail
      refine hj2.mono ?_
      rintro _ w3 ⟨rfl, hf3⟩
      have HF3 := hideP (Fr.trans HF2.out hf3)
      clear hj2 hf3 HF2
      go_wp2_with fail
      go_ret2
      exact ⟨rfl, HF3.out⟩
    · have eE : LF.pkE l = 0 := by unfold LF.pkE; rw [if_pos h0, if_neg h245]
      have eS : LF.pkS l = LF.bytes l := by unfold LF.pkS; rw [if_pos eE]
      rw [eE, eS, ← HBY.out]
      have hq : (S1.size : Int) + (S2.size : Int) ≤ 245 := by have := HZ.out; omega
      clear eE eS h0 h245
      go_enter Try.func8, Try.ntmps8
      go_wp2_with fail
      refine ht.mono ?_
      rintro _ w1 ⟨⟨u, rfl, hos⟩, hf⟩
      have HOS := hideP hos
      have HF := hideP hf
      clear ht hos hf
      go_wp2_with fail
      refine (hwr _).mono ?_
      rintro _ w2 ⟨rfl, hf2⟩
      have hj2 := hjo u w2 (Os.fr HOS.out hf2)
      have HF2 := hideP (Fr.trans HF.out hf2)
      clear hwr hf2 hjo HF HOS
      go_wp2_with fail
      refine hj2.mono ?_
      rintro _ w3 ⟨rfl, hf3⟩
      have HF3 := hideP (Fr.trans HF2.out hf3)
      clear hj2 hf3 HF2
      go_wp2_with fail
      go_ret2
      exact ⟨rfl, HF3.out⟩
  · have eE : LF.pkE l = LF.chk l := by unfold LF.pkE; rw [if_neg h0]
    have eS : LF.pkS l = [] := by unfold LF.pkS; rw [if_neg (by omega)]
    rw [eE, eS]
    simp only [TextsAs, if_neg h0] at ht
    generalize LF.chk l = c at *
    have q1 : ((c : Int) != 0) = true := by simp; omega
    have q2 : ¬ ((c : Int) = 0) := by omega
    clear eE eS hb
    go_enter Try.func8, Try.ntmps8
    go_wp2_with fail
    refine ht.mono ?_
    rintro _ w1 ⟨rfl, hf⟩
    clear ht
    go_wp2_with fail
    go_ret2
    exact ⟨rfl, hf⟩
end Go.Proofs.Ythpcdhnaibpjnaa
