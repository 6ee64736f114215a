/-
  What Read of package record answers, for every text.
-/
import Derived.Test.YthpcdhnaibpjnaaAtt
namespace Go.Proofs.Ythpcdhnaibpjnaa
open Go.ChangeShapes Go.WideShapes Go.ChangeAt Go.RowKit
set_option linter.unusedVariables false
set_option linter.unusedSimpArgs false

/-- what the inner reading leaves behind -/
def OkR (x : Except Nat (List VM.Vl × List UInt8)) (r q : Nat) (w w' : World) : Prop :=
  ∃ xs t v, x = .ok (xs, t) ∧ RdAt w' r t ∧ w'.heap[q]? = some (.cells #[v] 41 (0, 0)) ∧ IsRowB w.heap.size w' v xs ∧
    w.heap.size ≤ w'.heap.size ∧ (∀ B, B ≤ r → B ≤ q → Below B w w') ∧ ∀ b, b < w.heap.size → b ≠ r → b ≠ q → w'.heap[b]? = w.heap[b]?

theorem set_one {w : World} {q : Nat} {u v : Value} {T : TypeId} (h : w.heap[q]? = some (.cells #[u] T (0, 0))) : (w.setCell ⟨q, 0, none⟩ v).heap[q]? = some (.cells #[v] T (0, 0)) := by
  simp only [World.setCell, Array.getElem?_modify, if_pos, h]
  rfl

theorem okR_of {x : Except Nat (List VM.Vl × List UInt8)} {r q : Nat} {w w1 : World} {xs : List VM.Vl} {t : List UInt8} {v u : Value} (hx : x = .ok (xs, t)) (hr : RdAt w1 r t) (hm : Mv r w w1)
    (hq : w.heap[q]? = some (.cells #[u] 41 (0, 0))) (hrq : q ≠ r) (hrow : IsRowB w.heap.size w1 v xs) (hrl : r < w.heap.size) : OkR x r q w (w1.setCell ⟨q, 0, none⟩ v) := by
  have hql : q < w.heap.size := (Array.getElem?_eq_some_iff.1 hq).1
  refine ⟨xs, t, v, hx, hr.setOther _ _ (by simpa using hrq.symm), set_one ((hm.2 q hql hrq).trans hq), hrow.setCell _ hql _, by rw [size_set]; exact hm.size, ?_, ?_⟩
  · intro B h1 h2
    exact (hm.1 B h1 (by omega)).setCell (p := ⟨q, 0, none⟩) h2 _
  · intro b h1 h2 h3
    rw [Below.heap_setCell _ _ _ _ (by simpa using h3)]
    exact hm.2 b h1 h2

set_option maxRecDepth 100000 in
set_option maxHeartbeats 1000000 in
theorem readClo_any (r q : Nat) (l : List UInt8) (u : Value) (w : World) (h : RdAt w r l) (hl : l.length ≤ 9223372036854775807) (hq : w.heap[q]? = some (.cells #[u] 41 (0, 0))) (hrq : q ≠ r) :
    Calls Try.prog 57 #[.pointer (some ⟨r, 0, none⟩), .pointer (some ⟨q, 0, none⟩)] w fun e w' =>
      (e = .returned (.tuple #[]) ∧ OkR (RM.row l) r q w w') ∨ ∃ c : Nat, e = gave c ∧ (RM.row l = .error c ∧ Mv r w w') := by
  have hrow := row_any r l w h hl
  have hrl := h.lt
  have hql : q < w.heap.size := (Array.getElem?_eq_some_iff.1 hq).1
  clear h
  match hx : RM.row l with
  | .error c =>
    rw [hx] at hrow
    clear hq
    go_enter Try.func57, Try.ntmps57
    go_wp2_with (go_at_call 58; refine hrow.mono ?_)
    rintro e w1 ⟨rfl, hm⟩
    go_wp2_with fail
    exact ⟨rfl, Or.inr ⟨c, rfl, rfl, hm⟩⟩
  | .ok (xs, t) =>
    rw [hx] at hrow
    have HQ : Hid _ := hq
    clear hq hx
    go_enter Try.func57, Try.ntmps57
    go_wp2_with (go_at_call 58; refine hrow.mono ?_)
    rintro e w1 ⟨⟨v, rfl, hv⟩, hr, hm⟩
    have hh := (hm.2 q hql hrq).trans HQ.out
    have k0 : w1.cell? ⟨q, 0, none⟩ = some u := by rw [Lib.cell_of_heap hh]; rfl
    have z0 : w1.frozen? ⟨q, 0, none⟩ = false := Lib.frozen_of_heap hh 0
    have HO : Hid _ := okR_of (x := .ok (xs, t)) rfl hr hm HQ.out hrq hv hrl
    obtain ⟨a, cap, rfl, _⟩ := hv
    clear hr hm hh hrow HQ
    go_wp2_with fail
    go_end0
    exact Or.inl ⟨rfl, HO.out⟩

def ReadsAs (B : Nat) (s : ByteArray) (e : Ending) (w' : World) : Prop :=
  match RM.row s.data.toList with
  | .error c => e = .returned (.tuple #[.slice none 0 0, .int .i64 0, .int .i64 (c : Nat)])
  | .ok (xs, t) => ∃ v, e = .returned (.tuple #[v, .int .i64 (s.size - t.length), .int .i64 0]) ∧ IsRowB B w' v xs

theorem alloc_heap (w : World) (o : Obj) : (w.alloc o).heap[w.heap.size]? = some o := by
  show (w.heap.push o)[w.heap.size]? = _
  rw [Array.getElem?_push_size]
theorem alloc_size (w : World) (o : Obj) : (w.alloc o).heap.size = w.heap.size + 1 := by
  show (w.heap.push o).size = _
  rw [Array.size_push]

/-- what attempt leaves behind -/
def TryR (x : Except Nat (List VM.Vl × List UInt8)) (w : World) (e : Ending) (w' : World) : Prop :=
  match x with
  | .error c => e = .returned (.int .i64 (c : Nat)) ∧ Fr w w'
  | .ok (xs, t) => e = .returned (.int .i64 0) ∧ Fr w w' ∧ RdAt w' (w.heap.size + 1) t ∧ ∃ v, w'.heap[w.heap.size]? = some (.cells #[v] 41 (0, 0)) ∧ IsRowB (w.heap.size + 3) w' v xs

theorem tryR_ok {x : Except Nat (List VM.Vl × List UInt8)} {w w3 w1 : World} (hs : w3.heap.size = w.heap.size + 3) (hf : Fr w w3) (h : OkR x (w.heap.size + 1) w.heap.size w3 w1) :
    TryR x w (.returned (.int .i64 0)) (w1.setCell ⟨w.heap.size + 2, 0, none⟩ (.int .i64 0)) := by
  obtain ⟨xs, t, v, rfl, h1, h2, h3, h4, h5, h6⟩ := h
  refine ⟨rfl, ?_, h1.setOther _ _ (by simp), v, ?_, ?_⟩
  · refine Below.setCell (p := ⟨w.heap.size + 2, 0, none⟩) (Below.trans hf (h5 _ (by omega) (by omega))) (by simp) _
  · rw [Below.heap_setCell _ _ _ _ (by simp)]
    exact h2
  · rw [hs] at h3
    exact h3.setCell _ (by simp) _
theorem tryR_bad {x : Except Nat (List VM.Vl × List UInt8)} {w w3 w1 : World} {c : Nat} (hs : w3.heap.size = w.heap.size + 3) (hf : Fr w w3) (hx : x = .error c) (h : Mv (w.heap.size + 1) w3 w1) :
    TryR x w (.returned (.int .i64 (c : Nat))) (w1.setCell ⟨w.heap.size + 2, 0, none⟩ (.int .i64 (c : Nat))) := by
  subst hx
  refine ⟨rfl, ?_⟩
  exact Below.setCell (p := ⟨w.heap.size + 2, 0, none⟩) (Below.trans hf (h.1 _ (by omega) (by omega))) (by simp) _

theorem readTry (s : ByteArray) (w : World) (hs : s.size ≤ 9223372036854775807) :
    Calls Try.prog 56 #[.func (.func 57) #[] #[.pointer (some ⟨w.heap.size + 1, 0, none⟩), .pointer (some ⟨w.heap.size, 0, none⟩)]]
      ((w.alloc (.cells #[.slice none 0 0] 41)).alloc (.cells #[.string s] 91)) (TryR (RM.row s.data.toList) w) := by
  have hlen : s.data.toList.length = s.size := by rw [Array.length_toList]; rfl
  have hss : (⟨s.data.toList.toArray⟩ : ByteArray) = s := Lib.mk_data s
  let w1 := w.alloc (.cells #[.slice none 0 0] 41)
  let w2 := w1.alloc (.cells #[.string s] 91)
  let w3 := w2.alloc (.cells #[.int .i64 0] 23)
  have e1 : w1.heap.size = w.heap.size + 1 := alloc_size _ _
  have e2 : w2.heap.size = w.heap.size + 2 := by rw [alloc_size, e1]
  have e3 : w3.heap.size = w.heap.size + 3 := by rw [alloc_size, e2]
  have hr : RdAt w3 (w.heap.size + 1) s.data.toList := by
    unfold RdAt
    rw [hss, Below.heap_alloc _ _ _ (by omega), ← e1]
    exact alloc_heap _ _
  have hq : w3.heap[w.heap.size]? = some (.cells #[.slice none 0 0] 41 (0, 0)) := by
    rw [Below.heap_alloc _ _ _ (by omega), Below.heap_alloc _ _ _ (by omega)]
    exact alloc_heap _ _
  have hz : w3.heap[w2.heap.size]? = some (.cells #[.int .i64 0] 23 (0, 0)) := alloc_heap _ _
  have hf : Fr w w3 := (((Fr.refl w).alloc _).alloc _).alloc _
  have hcl := readClo_any (w.heap.size + 1) w.heap.size s.data.toList (.slice none 0 0) w3 hr (by omega) hq (by omega)
  refine (attempt_read _ _ w2 _ _ hcl ?_ ?_).mono ?_
  · rintro w' ⟨xs, t, v, _, _, _, _, _, _, h6⟩
    rw [h6 _ (by omega) (by omega) (by omega)]
    exact hz
  · rintro c w' ⟨_, hm⟩
    rw [hm.2 _ (by omega) (by omega)]
    exact hz
  · rw [e2]
    rintro e w' (⟨rfl, w4, hok, rfl⟩ | ⟨c, w4, rfl, ⟨hx, hm⟩, rfl⟩)
    · exact tryR_ok e3 hf hok
    · exact tryR_bad e3 hf hx hm

set_option maxRecDepth 100000 in
set_option maxHeartbeats 1000000 in
theorem recRead_any (s : ByteArray) (w : World) (hs : s.size ≤ 9223372036854775807) :
    Calls Try.prog 45 #[.string s] w fun e w' => ReadsAs w.heap.size s e w' ∧ Fr w w' := by
  have hmf : ∀ (fn : Fn) (first cap : Array Value) (w : World), (Instr.makeFunc fn first cap).run Try.prog w = .ok (.func fn first cap) w := fun _ _ _ _ => rfl
  have hat := readTry s w hs
  have hlen : s.data.toList.length = s.size := by rw [Array.length_toList]; rfl
  unfold ReadsAs
  match hx : RM.row s.data.toList with
  | .error c =>
    rw [hx] at hat
    have hne := RM.row_err hx
    have hne1 : ((c : Int) != 0) = true := by simp; omega
    have hne2 : ¬ ((c : Int) = 0) := by omega
    clear hx
    simp only
    go_enter Try.func45, Try.ntmps45
    go_wp2_with (go_at_call 56; refine hat.mono ?_)
    rintro e w1 ⟨rfl, hf⟩
    go_wp2_with fail
    go_ret3
    exact ⟨rfl, hf⟩
  | .ok (xs, t) =>
    rw [hx] at hat
    have htl := RM.row_le hx
    clear hx
    simp only
    go_enter Try.func45, Try.ntmps45
    go_wp2_with (go_at_call 56; refine hat.mono ?_)
    rintro e w1 ⟨rfl, hf, hr, v, hv, hrow⟩
    have k0 : w1.cell? ⟨w.heap.size, 0, none⟩ = some v := by rw [Lib.cell_of_heap hv]; rfl
    have k1 := hr.cell
    have ht : (⟨t.toArray⟩ : ByteArray).size = t.length := by simp [ByteArray.size]
    generalize (⟨t.toArray⟩ : ByteArray) = tt at *
    have hd : (s.size : Int) - (tt.size : Int) = (s.size : Int) - (t.length : Int) := by rw [ht]
    have HR : Hid _ := hrow
    have HF : Hid _ := hf
    have HD : Hid _ := hd
    obtain ⟨a, cap, rfl, _⟩ := hrow
    clear hr hat hf hv hd
    have htt : tt.size ≤ s.size := by omega
    go_wp2_with fail
    go_region
    go_wp2_with fail
    go_ret3
    exact ⟨⟨_, rfl, (IsRowB.mono HR.out (by omega)).fr (Fr.refl _).drew⟩, Fr.drew HF.out⟩
end Go.Proofs.Ythpcdhnaibpjnaa
