/-
  RestDisks' open order: what each operation tells, and what lies in new memory.
-/
import Derived.Test.YtcgafodaohmcmaaRgE
namespace Go.Proofs.Ytcgafodaohmcmaa
open Go.ChangeShapes Go.WideShapes Go.ChangeAt Go.RowKit
set_option linter.unusedVariables false
set_option linter.unusedSimpArgs false
set_option maxRecDepth 100000
set_option maxHeartbeats 2000000
namespace Rd
def room : ByteArray := ⟨#[114, 111, 111, 109]⟩
def As : List Nat := [4, 8, 18, 23, 30]
def ty : Nat → TypeId
  | 4 => 9
  | 8 => 9
  | 18 => 27
  | 23 => 27
  | _ => 25
def deps : Nat → List Nat
  | 4 => [4]
  | 7 => [4]
  | 8 => [8]
  | 9 => [4, 7]
  | 13 => [4]
  | 18 => [18]
  | 21 => [18]
  | 23 => [23]
  | 24 => [18, 21]
  | 28 => [18]
  | 29 => [4, 18]
  | 30 => [30]
  | 31 => [4, 18, 30]
  | _ => []
def row (g n c : Nat) : Value := .slice (some ⟨g, 0, none⟩) n c
def val (b : Nat) (p q : Value) (n m : Nat) : Nat → List Nat → Value
  | 0, _ => .pointer (some ⟨b, 0, none⟩)
  | 1, _ => p
  | 2, _ => .int .i64 n
  | 3, _ => .int .i64 (n + 1 : Nat)
  | 4, gs => row (gs.headD 0) 0 (n + 1)
  | 5, _ => .pointer (some ⟨b, 0, none⟩)
  | 6, _ => p
  | 7, gs => row (gs.headD 0) n (n + 1)
  | 8, gs => row (gs.headD 0) 1 1
  | 9, gs => row (gs.headD 0) (n + 1) (n + 1)
  | 10, _ => .pointer (some ⟨b, 0, none⟩)
  | 11, _ => p
  | 12, _ => .int .i64 n
  | 13, gs => row (gs.headD 0) n (n + 1)
  | 14, _ => .pointer (some ⟨b, 1, none⟩)
  | 15, _ => q
  | 16, _ => .int .i64 m
  | 17, _ => .int .i64 (m + 1 : Nat)
  | 18, gs => row (gs.headD 0) 0 (m + 1)
  | 19, _ => .pointer (some ⟨b, 1, none⟩)
  | 20, _ => q
  | 21, gs => row (gs.headD 0) m (m + 1)
  | 22, _ => .agg #[.int .i64 9, .string room]
  | 23, gs => row (gs.headD 0) 1 1
  | 24, gs => row (gs.headD 0) (m + 1) (m + 1)
  | 25, _ => .pointer (some ⟨b, 1, none⟩)
  | 26, _ => q
  | 27, _ => .int .i64 m
  | 28, gs => row (gs.headD 0) m (m + 1)
  | 29, gs => .agg #[row (gs.getD 0 0) n (n + 1), row (gs.getD 1 0) m (m + 1)]
  | 30, gs => .pointer (some ⟨gs.headD 0, 0, none⟩)
  | _, _ => undef
def zP (n : Nat) : Array Value := madeCells #[.string ⟨#[]⟩] ((n + 1) * 1)
def zW (m : Nat) : Array Value := madeCells #[.int .i64 0, .string ⟨#[]⟩] ((m + 1) * 2)
def fW : List Value := [.int .i64 9, .string room]
def cont (l : List JN.B) (k : List JN.W) (G : Nat → Nat) (L : Nat → Bool) : Nat → Array Value
  | 4 => if L 9 = true then (flat cdP (l ++ [room])).toArray else if L 7 = true then over (zP l.length) 0 (flat cdP l) else zP l.length
  | 8 => #[.string room]
  | 18 => if L 24 = true then (flat cdW (k ++ [⟨9, room⟩])).toArray else if L 21 = true then over (zW k.length) 0 (flat cdW k) else zW k.length
  | 23 => #[.int .i64 9, .string room]
  | _ => if L 31 = true then #[row (G 4) l.length (l.length + 1), row (G 18) k.length (k.length + 1)] else #[.slice none 0 0, .slice none 0 0]
theorem cont4 {l : List JN.B} {k : List JN.W} {G : Nat → Nat} {L : Nat → Bool} (h : L 9 = true) : cont l k G L 4 = (flat cdP (l ++ [room])).toArray := by simp only [cont, h, if_true]
theorem cont18 {l : List JN.B} {k : List JN.W} {G : Nat → Nat} {L : Nat → Bool} (h : L 24 = true) : cont l k G L 18 = (flat cdW (k ++ [⟨9, room⟩])).toArray := by simp only [cont, h, if_true]
theorem cont30 {l : List JN.B} {k : List JN.W} {G : Nat → Nat} {L : Nat → Bool} (h : L 31 = true) : cont l k G L 30 = #[row (G 4) l.length (l.length + 1), row (G 18) k.length (k.length + 1)] := by simp only [cont, h, if_true]
theorem over_two (cur : Array Value) (a b : List Value) (h : cur.size = a.length + b.length) : over (over cur 0 a) a.length b = (a ++ b).toArray := by
  unfold over
  simp only [List.take_zero, List.nil_append, Nat.zero_add]
  rw [List.take_append_of_le_length (Nat.le_refl _), List.take_length]
  rw [List.drop_eq_nil_of_le (by simp; omega)]
  simp
theorem over_size (cur : Array Value) (a : List Value) (h : a.length ≤ cur.size) : (over cur 0 a).size = cur.size := by
  unfold over
  simp
  omega
theorem isL_blk1 {α : Type} (E : Cd α) {w : World} {g : Nat} {x : α} {T : TypeId} (h : Blk w g (E.c x).toArray T) : IsL E w (.slice (some ⟨g, 0, none⟩) 1 1) [x] := by
  refine ⟨_, 1, rfl, Nat.le_refl _, .inr ⟨g, 0, rfl, h.lt, fun j u hj => ?_⟩⟩
  have e : flat E [x] = E.c x := by simp [flat]
  rw [e] at hj
  rw [Nat.zero_add]
  exact h.cell j (by simpa using hj)
theorem last_P (l : List JN.B) (x : JN.B) : (flat cdP (l ++ [x])).toArray[l.length]? = some (.string x) := by
  have := flat_get cdP (l ++ [x]) l.length 0 (by simp) (by decide)
  rw [List.getElem?_toArray]
  simpa [cdP] using this
theorem last_W0 (l : List JN.W) (x : JN.W) : (flat cdW (l ++ [x])).toArray[l.length * 2]? = some (.int .i64 x.no) := by
  have := flat_get cdW (l ++ [x]) l.length 0 (by simp) (by decide)
  rw [List.getElem?_toArray]
  simpa [cdW] using this
theorem last_W1 (l : List JN.W) (x : JN.W) : (flat cdW (l ++ [x])).toArray[l.length * 2 + 1]? = some (.string x.t) := by
  have := flat_get cdW (l ++ [x]) l.length 1 (by simp) (by decide)
  rw [List.getElem?_toArray]
  simpa [cdW] using this
/-- the head of a row -/
theorem isL_head {α : Type} {E : Cd α} {w : World} {g : Nat} {l : List α} {x : α} {T : TypeId} (h : Blk w g (flat E (l ++ [x])).toArray T) : IsL E w (row g l.length (l.length + 1)) l := by
  refine ⟨_, l.length + 1, rfl, Nat.le_succ _, .inr ⟨g, 0, rfl, h.lt, fun j u hj => ?_⟩⟩
  rw [Nat.zero_add]
  refine h.cell j ?_
  rw [flat_app, List.getElem?_toArray, List.getElem?_append_left (List.getElem?_eq_some_iff.1 hj).1]
  exact hj
def tri {α : Type} (x y z : α) : Nat → α
  | 0 => x
  | 1 => y
  | _ => z
theorem own_any_set {w : World} {B T sz n g j : Nat} {T' : TypeId} {v u : Value} {cur : Array Value} (h : ∃ xs, w.ownsRow B T sz v n xs) (hb : Blk w g cur T') : ∃ xs, (w.setCell ⟨g, j, none⟩ u).ownsRow B T sz v n xs := by
  obtain ⟨xs, h1, h2⟩ := h
  rcases h2 with ⟨rfl, h0⟩ | ⟨g', cap, cur', rfl, hB, hg, hn, hm, hs, ht⟩
  · exact ⟨xs, h1, .inl ⟨rfl, h0⟩⟩
  · have hb' : Blk w g' cur' T := hg
    by_cases e : g = g'
    · subst e
      have hb2 := hb'.set j u
      have hlen : n * sz ≤ cap * sz := Nat.mul_le_mul_right _ hn
      refine ⟨(cur'.setIfInBounds j u).toList.take (n * sz), ?_, .inr ⟨g, cap, _, rfl, hB, hb2, hn, hm, by rw [Array.size_setIfInBounds, hs], rfl⟩⟩
      rw [List.length_take, Array.length_toList, Array.size_setIfInBounds, hs]
      omega
    · exact ⟨xs, h1, .inr ⟨g', cap, cur', rfl, hB, hb'.other e j u, hn, hm, hs, ht⟩⟩
/-- what holds while three disks are written over -/
structure St (w9 : World) (T : Nat) (aP aQ : Nat → Option Addr) (nP nQ cP cQ : Nat → Nat) (wr : World) : Prop where
  fr : Fr w9 wr
  lo : w9.heap.size ≤ T
  b : Blk wr T #[.slice (aP 0) (nP 0) (cP 0), .slice (aQ 0) (nQ 0) (cQ 0), .slice (aP 1) (nP 1) (cP 1), .slice (aQ 1) (nQ 1) (cQ 1), .slice (aP 2) (nP 2) (cP 2), .slice (aQ 2) (nQ 2) (cQ 2)] 25
  r : ∀ i, i < 3 → ∃ n xs, wr.ownsRow w9.heap.size 9 1 (.slice (aP i) (nP i) (cP i)) n xs
  s : ∀ i, i < 3 → ∃ n xs, wr.ownsRow w9.heap.size 27 2 (.slice (aQ i) (nQ i) (cQ i)) n xs
section
variable {w9 wr wr' : World} {T : Nat} {aP aQ : Nat → Option Addr} {nP nQ cP cQ : Nat → Nat}
theorem St.tr (h : St w9 T aP aQ nP nQ cP cQ wr) (f : Fr wr wr') : St w9 T aP aQ nP nQ cP cQ wr' :=
  ⟨h.fr.trans f, h.lo, h.b.fr f, fun i hi => by obtain ⟨n, xs, q⟩ := h.r i hi; exact ⟨n, xs, own_fr q f⟩, fun i hi => by obtain ⟨n, xs, q⟩ := h.s i hi; exact ⟨n, xs, own_fr q f⟩⟩
theorem St.set (h : St w9 T aP aQ nP nQ cP cQ wr) {g : Nat} {cur : Array Value} {U : TypeId} (hb : Blk wr g cur U) (hU : U ≠ 25) (hg : w9.heap.size ≤ g) (j : Nat) (u : Value) : St w9 T aP aQ nP nQ cP cQ (wr.setCell ⟨g, j, none⟩ u) :=
  ⟨h.fr.setCell g j u hg, h.lo, h.b.other (fun e => by
      subst e
      have h1 := h.b
      unfold Blk at hb h1
      rw [hb] at h1
      simp only [Option.some.injEq, Obj.cells.injEq] at h1
      exact hU h1.2.1) j u, fun i hi => by obtain ⟨n, q⟩ := h.r i hi; exact ⟨n, own_any_set q hb⟩, fun i hi => by obtain ⟨n, q⟩ := h.s i hi; exact ⟨n, own_any_set q hb⟩⟩
theorem St.p (h : St w9 T aP aQ nP nQ cP cQ wr) (i : Nat) (hi : i < 3) : wr.cell? ⟨T, i * 2, none⟩ = some (.slice (aP i) (nP i) (cP i)) := by
  rcases (show i = 0 ∨ i = 1 ∨ i = 2 by omega) with rfl | rfl | rfl
  · exact h.b.cell 0 rfl
  · exact h.b.cell 2 rfl
  · exact h.b.cell 4 rfl
theorem St.q (h : St w9 T aP aQ nP nQ cP cQ wr) (i : Nat) (hi : i < 3) : wr.cell? ⟨T, i * 2 + 1, none⟩ = some (.slice (aQ i) (nQ i) (cQ i)) := by
  rcases (show i = 0 ∨ i = 1 ∨ i = 2 by omega) with rfl | rfl | rfl
  · exact h.b.cell 1 rfl
  · exact h.b.cell 3 rfl
  · exact h.b.cell 5 rfl
theorem own_at {w : World} {B U sz n k c m : Nat} {a : Option Addr} {xs : List Value} (h : w.ownsRow B U sz (.slice a n c) m xs) (hk : k < n) : ∃ g cur, a = some ⟨g, 0, none⟩ ∧ B ≤ g ∧ Blk w g cur U ∧ k * sz + sz ≤ cur.size ∧ n ≤ maxLen := by
  rcases h.2 with ⟨e, h0⟩ | ⟨g, cap, cur, e, hB, hg, hn, hm, hs, ht⟩
  · simp only [Value.slice.injEq] at e
    omega
  · simp only [Value.slice.injEq] at e
    obtain ⟨rfl, rfl, rfl⟩ := e
    refine ⟨g, cur, rfl, hB, hg, ?_, by omega⟩
    rw [hs, ← Nat.succ_mul]
    exact Nat.mul_le_mul_right _ (by omega)
theorem cell_in {w : World} {g k : Nat} {cur : Array Value} {U : TypeId} (h : Blk w g cur U) (hk : k < cur.size) : ∃ u, w.cell? ⟨g, k, none⟩ = some u := ⟨cur[k], h.cell k (by simp [hk])⟩
end
def val19 (b g4 g18 g30 : Nat) (ap aq : Option Addr) (dp dq n m : Nat) : Nat → List Nat → Value
  | 0, _ => .agg #[.slice (some ⟨g4, 0, none⟩) n (n + 1), .slice (some ⟨g18, 0, none⟩) m (m + 1)]
  | 1, _ => .agg #[.slice ap n dp, .slice aq m dq]
  | 2, _ => .bool true
  | 3, _ => .bool true
  | 4, _ => .pointer (some ⟨g30, 0, none⟩)
  | 5, _ => .slice (some ⟨g4, 0, none⟩) n (n + 1)
  | 6, _ => .pointer (some ⟨b, 0, none⟩)
  | 7, _ => .slice ap n dp
  | 8, _ => .int .i64 n
  | 9, _ => .int .i64 (n + 1 : Nat)
  | 10, _ => .slice (some ⟨g4, 0, none⟩) (n + 1) (n + 1)
  | 11, _ => .pointer (some ⟨b, 0, none⟩)
  | 12, _ => .slice ap n dp
  | 13, _ => .int .i64 n
  | 14, _ => .pointer (some ⟨g4, n, none⟩)
  | 15, _ => .string room
  | 16, _ => .bool true
  | 17, _ => .bool true
  | 18, _ => .bool true
  | 19, _ => .pointer (some ⟨g30, 1, none⟩)
  | 20, _ => .slice (some ⟨g18, 0, none⟩) m (m + 1)
  | 21, _ => .pointer (some ⟨b, 1, none⟩)
  | 22, _ => .slice aq m dq
  | 23, _ => .int .i64 m
  | 24, _ => .int .i64 (m + 1 : Nat)
  | 25, _ => .slice (some ⟨g18, 0, none⟩) (m + 1) (m + 1)
  | 26, _ => .pointer (some ⟨b, 1, none⟩)
  | 27, _ => .slice aq m dq
  | 28, _ => .int .i64 m
  | 29, _ => .pointer (some ⟨g18, m * 2, none⟩)
  | 30, _ => .agg #[.int .i64 9, .string room]
  | 31, _ => .agg #[.int .i64 9, .string room]
  | 32, _ => .bool true
  | 33, _ => .bool true
  | 34, _ => .bool true
  | _, _ => undef
def val18 (T i g n c k : Nat) : Nat → Value
  | 0 => .slice (some ⟨T, 0, none⟩) 3 3
  | 1 => .int .i64 i
  | 2 => .pointer (some ⟨T, i * 2, none⟩)
  | 3 => .pointer (some ⟨T, i * 2 + 1, none⟩)
  | 4 => .slice (some ⟨g, 0, none⟩) n c
  | 5 => .int .i64 k
  | 6 => .agg #[.int .i64 0, .string ⟨#[122]⟩]
  | 7 => .pointer (some ⟨g, k * 2, none⟩)
  | _ => undef
theorem cell_fr {w w' : World} {b : Nat} {o : Nat} (hb : b < w.heap.size) (f : Fr w w') : w'.cell? ⟨b, o, none⟩ = w.cell? ⟨b, o, none⟩ := Below.cell f hb
theorem Try.sizeDisk : (Try.prog.info? 25).map (·.size) = some 2 := by kernel_rfl
theorem Try.sizeWrite : (Try.prog.info? 27).map (·.size) = some 2 := by kernel_rfl
/-- an open order whose last operation, the n-th one, writes -/
structure RS (W : World) (n : Nat) (val : Nat → Value) (R : World → Prop) (L : Nat → Bool) (v : Nat → Value) (w : World) : Prop where
  fr : L n = false → Fr W w
  rr : L n = true → R w
  vl : ∀ i, i < n → L i = true → v i = val i
  on : L n = true → ∀ j, j < n → L j = true
theorem RS.pure {W w w' : World} {n : Nat} {val : Nat → Value} {R : World → Prop} {L : Nat → Bool} {v : Nat → Value} (J : RS W n val R L v w) (i : Nat) (hi : i < n) (hno : L i = false) (f : Fr w w') : RS W n val R (updL L i) (upd v i (val i)) w' := by
  have hn : L n = false := bne fun h => bf (J.on h i hi) hno
  have e : updL L i n = false := by rw [updL_ne (by omega)]; exact hn
  refine ⟨fun _ => (J.fr hn).trans f, fun h => (bf h e).elim, fun j hj hl => ?_, fun h => (bf h e).elim⟩
  by_cases ej : j = i
  · subst ej; exact upd_at _ _
  · rw [upd_ne ej]; rw [updL_ne ej] at hl; exact J.vl j hj hl
theorem RS.last {W w w' : World} {n : Nat} {val : Nat → Value} {R : World → Prop} {L : Nat → Bool} {v : Nat → Value} {x : Value} (J : RS W n val R L v w) (ha : ∀ j, j < n → L j = true) (hR : R w') : RS W n val R (updL L n) (upd v n x) w' := by
  have e : updL L n n = true := updL_at n
  refine ⟨fun h => (bf e h).elim, fun _ => hR, fun j hj hl => ?_, fun _ j hj => ?_⟩
  · have ej : j ≠ n := by omega
    rw [upd_ne ej]; rw [updL_ne ej] at hl; exact J.vl j hj hl
  · rw [updL_ne (by omega)]; exact ha j hj
abbrev Jt (W : World) (b : Nat) (p q : Value) (l : List JN.B) (k : List JN.W) := RJ W As ty deps (val b p q l.length k.length) (cont l k)
end Rd
end Go.Proofs.Ytcgafodaohmcmaa
