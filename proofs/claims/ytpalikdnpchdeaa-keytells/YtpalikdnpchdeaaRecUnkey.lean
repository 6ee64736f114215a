/-
  What Unkey of package record answers, for every text.
-/
import Derived.Test.YtpalikdnpchdeaaKRow
import Derived.Test.YtpalikdnpchdeaaRecRead
namespace Go.Proofs.Ytpalikdnpchdeaa
open Go.ChangeShapes Go.WideShapes Go.ChangeAt Go.RowKit
set_option linter.unusedVariables false
set_option linter.unusedSimpArgs false

set_option maxRecDepth 100000 in
set_option maxHeartbeats 1000000 in
theorem unkeyClo_any (r q : Nat) (l : List UInt8) (u : Value) (w : World) (h : RdAt w r l) (hl : l.length ≤ 140737488351232) (hq : w.heap[q]? = some (.cells #[u] 22 (0, 0))) (hrq : q ≠ r) :
    Calls Try.prog 46 #[.pointer (some ⟨r, 0, none⟩), .pointer (some ⟨q, 0, none⟩)] w fun e w' =>
      (e = .returned (.tuple #[]) ∧ OkR (KR.kr 8 l) r q w w') ∨ ∃ c : Nat, e = gave c ∧ (KR.kr 8 l = .error c ∧ Mv r w w') := by
  have hrow := keyRow_any r l w h hl
  have hrl := h.lt
  have hql : q < w.heap.size := (Array.getElem?_eq_some_iff.1 hq).1
  clear h
  match hx : KR.kr 8 l with
  | .error c =>
    rw [hx] at hrow
    clear hq
    go_enter Try.func46, Try.ntmps46
    go_wp2_with (go_at_call 47; refine hrow.mono ?_)
    rintro e w1 ⟨rfl, hm⟩
    go_wp2_with fail
    exact ⟨rfl, Or.inr ⟨c, rfl, rfl, hm⟩⟩
  | .ok (xs, t) =>
    rw [hx] at hrow
    have HQ : Hid _ := hq
    clear hq hx
    go_enter Try.func46, Try.ntmps46
    go_wp2_with (go_at_call 47; refine hrow.mono ?_)
    rintro e w1 ⟨⟨v, rfl, hv⟩, hr, hm⟩
    have hh := (hm.2 q hql hrq).trans HQ.out
    have k0 : w1.cell? ⟨q, 0, none⟩ = some u := by rw [Lib.cell_of_heap hh]; rfl
    have z0 : w1.frozen? ⟨q, 0, none⟩ = false := Lib.frozen_of_heap hh 0
    have HO : Hid _ := okR_of (x := .ok (xs, t)) rfl hr hm HQ.out hrq hv hrl
    obtain ⟨a, cap, rfl, _⟩ := hv
    clear hr hm hh hrow HQ
    go_wp2_with fail
    go_end0
    exact Or.inl ⟨rfl, HO.out⟩

theorem unkeyTry (s : ByteArray) (w : World) (hs : s.size ≤ 140737488351232) :
    Calls Try.prog 30 #[.func (.func 46) #[] #[.pointer (some ⟨w.heap.size + 1, 0, none⟩), .pointer (some ⟨w.heap.size, 0, none⟩)]]
      ((w.alloc (.cells #[.slice none 0 0] 22)).alloc (.cells #[.string s] 57)) (TryR (KR.kr 8 s.data.toList) w) := by
  have hlen : s.data.toList.length = s.size := by rw [Array.length_toList]; rfl
  have hss : (⟨s.data.toList.toArray⟩ : ByteArray) = s := Lib.mk_data s
  let w1 := w.alloc (.cells #[.slice none 0 0] 22)
  let w2 := w1.alloc (.cells #[.string s] 57)
  let w3 := w2.alloc (.cells #[.int .i64 0] 23)
  have e1 : w1.heap.size = w.heap.size + 1 := alloc_size _ _
  have e2 : w2.heap.size = w.heap.size + 2 := by rw [alloc_size, e1]
  have e3 : w3.heap.size = w.heap.size + 3 := by rw [alloc_size, e2]
  have hr : RdAt w3 (w.heap.size + 1) s.data.toList := by
    unfold RdAt
    rw [hss, Below.heap_alloc _ _ _ (by omega), ← e1]
    exact alloc_heap _ _
  have hq : w3.heap[w.heap.size]? = some (.cells #[.slice none 0 0] 22 (0, 0)) := by
    rw [Below.heap_alloc _ _ _ (by omega), Below.heap_alloc _ _ _ (by omega)]
    exact alloc_heap _ _
  have hz : w3.heap[w2.heap.size]? = some (.cells #[.int .i64 0] 23 (0, 0)) := alloc_heap _ _
  have hf : Fr w w3 := (((Fr.refl w).alloc _).alloc _).alloc _
  have hcl := unkeyClo_any (w.heap.size + 1) w.heap.size s.data.toList (.slice none 0 0) w3 hr (by omega) hq (by omega)
  refine (attempt_unkey _ _ w2 _ _ hcl ?_ ?_).mono ?_
  · rintro w' ⟨xs, t, v, _, _, _, _, _, _, h6⟩
    rw [h6 _ (by omega) (by omega) (by omega)]
    exact hz
  · rintro c w' ⟨_, hm⟩
    rw [hm.2 _ (by omega) (by omega)]
    exact hz
  · rw [e2]
    rintro e w' (⟨rfl, w4, hok, rfl⟩ | ⟨c, w4, rfl, ⟨hx, hm⟩, rfl⟩)
    · exact tryR_ok e3 hf hok
    · exact tryR_bad e3 hf hx hm


def UnkeysAs (s : ByteArray) (e : Ending) (w' : World) : Prop :=
  match KR.kr 8 s.data.toList with
  | .error c => e = .returned (.tuple #[.slice none 0 0, .int .i64 (c : Nat)])
  | .ok (xs, _) => ∃ v, e = .returned (.tuple #[v, .int .i64 0]) ∧ IsRow w' v xs

set_option maxRecDepth 100000 in
set_option maxHeartbeats 1000000 in
theorem recUnkey_any (s : ByteArray) (w : World) (hs : s.size ≤ 140737488351232) :
    Calls Try.prog 20 #[.string s] w fun e w' => UnkeysAs s e w' ∧ Fr w w' := by
  have hmf : ∀ (fn : Fn) (first cap : Array Value) (w : World), (Instr.makeFunc fn first cap).run Try.prog w = .ok (.func fn first cap) w := fun _ _ _ _ => rfl
  have hat := unkeyTry s w hs
  unfold UnkeysAs
  match hx : KR.kr 8 s.data.toList with
  | .error c =>
    rw [hx] at hat
    have hne := KR.kr_err0 hx
    have hne1 : ((c : Int) != 0) = true := by simp; omega
    have hne2 : ¬ ((c : Int) = 0) := by omega
    clear hx
    simp only
    go_enter Try.func20, Try.ntmps20
    go_wp2_with (go_at_call 30; refine hat.mono ?_)
    rintro e w1 ⟨rfl, hf⟩
    go_wp2_with fail
    go_ret2
    exact ⟨rfl, hf⟩
  | .ok (xs, t) =>
    rw [hx] at hat
    clear hx
    simp only
    go_enter Try.func20, Try.ntmps20
    go_wp2_with (go_at_call 30; refine hat.mono ?_)
    rintro e w1 ⟨rfl, hf, hr, v, hv, hrow⟩
    have k0 : w1.cell? ⟨w.heap.size, 0, none⟩ = some v := by rw [Lib.cell_of_heap hv]; rfl
    have HR : Hid _ := hrow
    have HF : Hid _ := hf
    obtain ⟨a, cap, rfl, _⟩ := hrow
    clear hr hat hf hv
    go_wp2_with fail
    go_ret2
    exact ⟨⟨_, rfl, IsRowB.row HR.out⟩, HF.out⟩
end Go.Proofs.Ytpalikdnpchdeaa
