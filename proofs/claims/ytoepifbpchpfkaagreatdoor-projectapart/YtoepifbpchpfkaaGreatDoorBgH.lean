/-
  Lists of rows: what Filter and Project answer, as plain functions; rows of the call's own in a row of its own.
-/
import Derived.Test.YtoepifbpchpfkaaGreatDoorBgG
import Derived.Test.YtoepifbpchpfkaaGreatDoorEvN
namespace Go.Proofs.YtoepifbpchpfkaaGreatDoor
open Go.ChangeShapes Go.WideShapes Go.ChangeAt Go.RowKit
set_option linter.unusedVariables false
set_option linter.unusedSimpArgs false
set_option maxRecDepth 100000
set_option maxHeartbeats 2000000
namespace BG
open VM
/-- the rows of which something is true -/
def flt (f : List Vl → Except Nat Int) : List (List Vl) → Except Nat (List (List Vl))
  | [] => .ok []
  | r :: t => match f r with
    | .error c => .error c
    | .ok x => match flt f t with
      | .error c => .error c
      | .ok k => .ok (if x = 2 then r :: k else k)
def pre {α : Type} (k : List α) : Except Nat (List α) → Except Nat (List α)
  | .error c => .error c
  | .ok l => .ok (k ++ l)
theorem pre_nil {α : Type} (x : Except Nat (List α)) : pre [] x = x := by cases x <;> rfl
theorem pre_pre {α : Type} (a b : List α) (x : Except Nat (List α)) : pre a (pre b x) = pre (a ++ b) x := by cases x <;> simp [pre]
theorem flt_err {f : List Vl → Except Nat Int} {r : List Vl} {t : List (List Vl)} {c : Nat} (h : f r = .error c) : flt f (r :: t) = .error c := by rw [flt, h]
theorem flt_ok {f : List Vl → Except Nat Int} {r : List Vl} {t : List (List Vl)} {x : Int} (h : f r = .ok x) : flt f (r :: t) = pre (if x = 2 then [r] else []) (flt f t) := by
  rw [flt, h]
  cases flt f t with
  | error c => rfl
  | ok k => by_cases h2 : x = 2 <;> simp [h2, pre]
/-- what Filter answers -/
def fil (ls : List (List Vl)) (cs : List ByteArray) (e : List EX.Nd) : Except Nat (List (List Vl)) := if chk ls ≠ 0 then .error (chk ls) else if EX.ck e ≠ 0 then .error (EX.ck e) else flt (EV.tru e cs) ls
/-- each one's answer, or the first error -/
def mp {α β : Type} (f : α → Except Nat β) : List α → Except Nat (List β)
  | [] => .ok []
  | a :: t => match f a with
    | .error c => .error c
    | .ok x => pre [x] (mp f t)
theorem mp_err {α β : Type} {f : α → Except Nat β} {a : α} {t : List α} {c : Nat} (h : f a = .error c) : mp f (a :: t) = .error c := by rw [mp, h]
theorem mp_ok {α β : Type} {f : α → Except Nat β} {a : α} {t : List α} {x : β} (h : f a = .ok x) : mp f (a :: t) = pre [x] (mp f t) := by rw [mp, h]
/-- the first expression's error -/
def eE : List (List EX.Nd) → Nat
  | [] => 0
  | e :: t => if EX.ck e = 0 then eE t else EX.ck e
/-- what Project answers -/
def prj (ls : List (List Vl)) (cs : List ByteArray) (es : List (List EX.Nd)) : Except Nat (List (List Vl)) := if chk ls ≠ 0 then .error (chk ls) else if 8 < es.length then .error 2 else if eE es ≠ 0 then .error (eE es) else mp (fun r => mp (fun e => EV.ev e cs r) es) ls
end BG
/-- rows of the call's own, in a row of its own -/
def ORR (B : Nat) (w : World) (v : Value) (ls : List (List VM.Vl)) : Prop :=
  ∃ qs : List Sq, w.ownsRow B 49 1 v ls.length (flat cdS qs) ∧ qs.length = ls.length ∧ ∀ i (h1 : i < qs.length) (h2 : i < ls.length), w.ownsRow B 33 3 qs[i].v ls[i].length (flat cdV ls[i])
theorem ORR.fr {B : Nat} {w w' : World} {v : Value} {ls : List (List VM.Vl)} (h : ORR B w v ls) (f : Fr w w') : ORR B w' v ls := by
  obtain ⟨qs, h1, h2, h3⟩ := h
  exact ⟨qs, own_fr h1 f, h2, fun i a b => own_fr (h3 i a b) f⟩
theorem ORR.rows {B : Nat} {w : World} {v : Value} {ls : List (List VM.Vl)} (h : ORR B w v ls) : IsRR w v ls := by
  obtain ⟨qs, h1, h2, h3⟩ := h
  exact ⟨qs, isL_own (E := cdS) (l := qs) (by rw [h2]; exact h1), h2, fun i a b => isL_own (E := cdV) (h3 i a b)⟩
theorem ORR.low {A B : Nat} {w : World} {v : Value} {ls : List (List VM.Vl)} (h : ORR B w v ls) (hA : A ≤ B) : ORR A w v ls := by
  obtain ⟨qs, h1, h2, h3⟩ := h
  exact ⟨qs, own_low h1 hA, h2, fun i a b => own_low (h3 i a b) hA⟩
theorem ORR.nil (B : Nat) (w : World) : ORR B w (.slice none 0 0) [] := ⟨[], World.ownsRow_nil _ _ _ _, rfl, fun i h => by simp at h⟩
theorem ORR.slice {B : Nat} {w : World} {v : Value} {ls : List (List VM.Vl)} (h : ORR B w v ls) : ∃ a c, v = .slice a ls.length c := by
  obtain ⟨qs, h1, _⟩ := h
  exact own_slice h1
theorem OwnRR.orr {B : Nat} {w : World} {v : Value} {ls : List (List VM.Vl)} (h : OwnRR B w v ls) (hl : ls.length ≤ maxLen) : ORR B w v ls := by
  obtain ⟨G, arr, qs, rfl, hG, hb, ⟨hq, hs⟩, hc, ho⟩ := h
  have hfl : (flat cdS qs).length = ls.length * 1 := by rw [flat_len, hq]; rfl
  refine ⟨qs, ⟨hfl, .inr ⟨G, ls.length, arr, rfl, hG, hb, Nat.le_refl _, hl, by omega, ?_⟩⟩, hq, ho⟩
  refine List.ext_getElem? fun j => ?_
  by_cases hj : j < ls.length
  · have hjq : j < qs.length := by omega
    have h2 := flat_get cdS qs j 0 hjq (by decide)
    have e : j * cdS.k + 0 = j := by show j * 1 + 0 = j; omega
    rw [e] at h2
    rw [h2, List.getElem?_take_of_lt (by omega), Array.getElem?_toList, hc j hjq]
    rfl
  · rw [List.getElem?_eq_none (Nat.le_trans (List.length_take_le _ _) (by omega)), List.getElem?_eq_none (by rw [hfl]; omega)]
/-- a row stays what it is where another one, of another type, grows -/
theorem own_grownT {B n sz : Nat} {T T' : TypeId} {v : Value} {xs : List Value} {w w' : World} {r : Option Nat} (h : w.ownsRow B T sz v n xs) (hT : T' ≠ T) (hr : ∀ g, r = some g → ∃ cur, w.heap[g]? = some (.cells cur T' (0, 0))) (hg : w.grownBy w' r) : w'.ownsRow B T sz v n xs := by
  refine own_keep h fun k cur hk hc => hg.block k (Array.getElem?_eq_some_iff.1 hc).1 ?_
  intro e
  obtain ⟨cur', h'⟩ := hr k e.symm
  rw [hc] at h'
  injection h' with h'
  injection h' with _ h' _
  exact hT h'.symm
/-- one row more -/
theorem ORR.snoc {B : Nat} {w w' : World} {v v' : Value} {ls : List (List VM.Vl)} {qs : List Sq} {q : Sq} {l : List VM.Vl} (hown : w.ownsRow B 49 1 v ls.length (flat cdS qs)) (hlen : qs.length = ls.length) (hall : ∀ i (h1 : i < qs.length) (h2 : i < ls.length), w.ownsRow B 33 3 qs[i].v ls[i].length (flat cdV ls[i]))
    (hq : w.ownsRow B 33 3 q.v l.length (flat cdV l)) (ho : w'.ownsRow B 49 1 v' (ls.length + 1) (flat cdS (qs ++ [q]))) (hg : w.grownBy w' v.ownBlock) : ORR B w' v' (ls ++ [l]) := by
  refine ⟨qs ++ [q], by rw [List.length_append]; exact ho, by simp [hlen], ?_⟩
  intro i h1 h2
  have key : ∀ {v n xs}, w.ownsRow B 33 3 v n xs → w'.ownsRow B 33 3 v n xs := fun h => own_grownT h (by decide) (own_block hown) hg
  by_cases hi : i < qs.length
  · have e1 : (qs ++ [q])[i] = qs[i] := List.getElem_append_left hi
    have e2 : (ls ++ [l])[i] = ls[i] := List.getElem_append_left (by omega)
    rw [e1, e2]
    exact key (hall i hi (by omega))
  · have hi2 : i = qs.length := by rw [List.length_append] at h1; simp at h1; omega
    have e1 : (qs ++ [q])[i] = q := by simp [hi2]
    have e2 : (ls ++ [l])[i] = l := by rw [hlen] at hi2; simp [hi2]
    rw [e1, e2]
    exact key hq
/-- what a call that answers rows answers -/
def RA (B : Nat) (x : Except Nat (List (List VM.Vl))) (e : Ending) (w' : World) : Prop := match x with
  | .error c => e = .returned (.tuple #[.slice none 0 0, .int .i64 (c : Int)])
  | .ok ls => ∃ u, e = .returned (.tuple #[u, .int .i64 0]) ∧ ORR B w' u ls
end Go.Proofs.YtoepifbpchpfkaaGreatDoor
