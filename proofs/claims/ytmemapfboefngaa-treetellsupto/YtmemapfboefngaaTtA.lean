/-
  Laws of rows of the call's own: their first ones, what is copied onto them, cleared behind them, appended to them; where a grown row lies.
-/
import Derived.Test.YtmemapfboefngaaGtE
import Derived.Lib.AppendZerosOnto
import Derived.Lib.Overlaps
import Derived.Lib.SliceRun
import Derived.Laws.CopyOwn
import Derived.Deep.RegionLaw
namespace Go.Proofs.Ytmemapfboefngaa
open Go.ChangeShapes Go.WideShapes Go.ChangeAt Go.RowKit
set_option linter.unusedVariables false
set_option linter.unusedSimpArgs false
set_option maxRecDepth 100000
/-- of a row of one's own: the first ones -/
theorem own_cut {B n sz g c : Nat} {T : TypeId} {xs : List Value} {w : World} (h : w.ownsRow B T sz (.slice (some ⟨g, 0, none⟩) n c) n xs) (i : Nat) (hi : i ≤ n) : w.ownsRow B T sz (.slice (some ⟨g, 0, none⟩) i c) i (xs.take (i * sz)) := by
  obtain ⟨h1, h2⟩ := h
  have hle := Nat.mul_le_mul_right sz hi
  refine ⟨by rw [List.length_take, h1]; omega, ?_⟩
  rcases h2 with ⟨h, _⟩ | ⟨g', cap, cur, e, hB, hg, hn, hm, hs, ht⟩
  · cases h
  · cases e
    exact .inr ⟨g, c, cur, rfl, hB, hg, by omega, hm, hs, by rw [← ht, List.take_take]; congr 1; omega⟩
/-- what a row of one's own lies in -/
theorem own_parts {B n sz : Nat} {T : TypeId} {a : Option Addr} {m c : Nat} {xs : List Value} {w : World} (h : w.ownsRow B T sz (.slice a m c) n xs) (hn : 0 < n) : ∃ g, a = some ⟨g, 0, none⟩ ∧ m = n ∧ n ≤ c ∧ c ≤ maxLen ∧ B ≤ g ∧ g < w.heap.size ∧ w.shape? g = some (T, c * sz) ∧ (∀ j, w.frozen? ⟨g, j, none⟩ = false) := by
  rcases h.2 with ⟨_, h0⟩ | ⟨g, cap, cur, e, hB, hg, hc, hm, hs, ht⟩
  · omega
  · cases e
    refine ⟨g, rfl, rfl, hc, hm, hB, (Array.getElem?_eq_some_iff.1 hg).1, ?_, fun j => Lib.frozen_of_heap hg j⟩
    simp [World.shape?, hg, hs]
/-- of a row of one's own: with the room behind it -/
theorem own_more {B n sz g c : Nat} {T : TypeId} {xs : List Value} {w : World} (h : w.ownsRow B T sz (.slice (some ⟨g, 0, none⟩) n c) n xs) (k : Nat) (hk : n + k ≤ c) : ∃ Y : List Value, Y.length = k * sz ∧ w.ownsRow B T sz (.slice (some ⟨g, 0, none⟩) (n + k) c) (n + k) (xs ++ Y) := by
  obtain ⟨h1, h2⟩ := h
  rcases h2 with ⟨h, _⟩ | ⟨g', cap, cur, e, hB, hg, hn, hm, hs, ht⟩
  · cases h
  · cases e
    have hle := Nat.mul_le_mul_right sz hk
    have he : (n + k) * sz = n * sz + k * sz := Nat.add_mul _ _ _
    have hl : ((cur.toList.drop (n * sz)).take (k * sz)).length = k * sz := by
      rw [List.length_take, List.length_drop, Array.length_toList, hs]; omega
    refine ⟨(cur.toList.drop (n * sz)).take (k * sz), hl, by rw [List.length_append, h1, hl, he], .inr ⟨g, c, cur, rfl, hB, hg, hk, hm, hs, ?_⟩⟩
    rw [he, ← ht, List.take_add]
theorem take_of_app {α : Type} {l R : List α} {n : Nat} (h : l.length = n) : (l ++ R).take n = l := by
  subst h; exact List.take_left
theorem splice_app {α : Type} {l R : List α} {o : Nat} {cs : List α} (h : o + cs.length ≤ l.length) : (l ++ R).take o ++ (cs ++ (l ++ R).drop (o + cs.length)) = splice l o cs ++ R := by
  unfold splice
  rw [List.take_append_of_le_length (by omega), List.drop_append_of_le_length h]
  simp only [List.append_assoc]
theorem grown_row {w : World} {g : Nat} {cs : Array Value} : w.grownBy (w.setRow g cs) (some g) :=
  ⟨rfl, rfl, rfl, by simp [World.setRow], fun k _ hk => setRow_other w g k _ (fun e => hk (by simp [e]))⟩
/-- cells laid over a row of one's own -/
theorem own_splice {B n sz g c : Nat} {T : TypeId} {xs : List Value} {w : World} (h : w.ownsRow B T sz (.slice (some ⟨g, 0, none⟩) n c) n xs) (o : Nat) (cs : List Value) (hf : o + cs.length ≤ n * sz) :
    ∃ cur : Array Value, w.heap[g]? = some (.cells cur T (0, 0)) ∧ o + cs.length ≤ cur.size ∧ (w.setRow g (cur.toList.take o ++ cs ++ cur.toList.drop (o + cs.length)).toArray).ownsRow B T sz (.slice (some ⟨g, 0, none⟩) n c) n (splice xs o cs) ∧ w.grownBy (w.setRow g (cur.toList.take o ++ cs ++ cur.toList.drop (o + cs.length)).toArray) (some g) := by
  obtain ⟨h1, h2⟩ := h
  rcases h2 with ⟨h, _⟩ | ⟨g', cap, cur, e, hB, hg, hn, hm, hs, ht⟩
  · cases h
  · cases e
    have hle := Nat.mul_le_mul_right sz hn
    have hlen : (splice xs o cs).length = n * sz := by rw [length_splice _ _ _ (by omega), h1]
    refine ⟨cur, hg, by omega, ⟨hlen, .inr ⟨g, c, _, rfl, hB, setRow_heap w g cur _ T _ hg, hn, hm, ?_, ?_⟩⟩, grown_row⟩
    · simp only [List.size_toArray, List.length_append, List.length_take, List.length_drop, Array.length_toList]
      omega
    · have e1 : cur.toList = xs ++ cur.toList.drop (n * sz) := by rw [← ht, List.take_append_drop]
      show List.take (n * sz) (cur.toList.take o ++ cs ++ cur.toList.drop (o + cs.length)) = _
      rw [e1, List.append_assoc, splice_app (by omega)]
      exact take_of_app hlen
/-- cells laid behind a row of one's own -/
theorem own_behind {B n sz g c : Nat} {T : TypeId} {xs : List Value} {w : World} (h : w.ownsRow B T sz (.slice (some ⟨g, 0, none⟩) n c) n xs) (cs : List Value) (hf : n * sz + cs.length ≤ c * sz) :
    ∃ cur : Array Value, w.heap[g]? = some (.cells cur T (0, 0)) ∧ n * sz + cs.length ≤ cur.size ∧ (w.setRow g (cur.toList.take (n * sz) ++ cs ++ cur.toList.drop (n * sz + cs.length)).toArray).ownsRow B T sz (.slice (some ⟨g, 0, none⟩) n c) n xs ∧ w.grownBy (w.setRow g (cur.toList.take (n * sz) ++ cs ++ cur.toList.drop (n * sz + cs.length)).toArray) (some g) := by
  obtain ⟨h1, h2⟩ := h
  rcases h2 with ⟨h, _⟩ | ⟨g', cap, cur, e, hB, hg, hn, hm, hs, ht⟩
  · cases h
  · cases e
    refine ⟨cur, hg, by omega, ⟨h1, .inr ⟨g, c, _, rfl, hB, setRow_heap w g cur _ T _ hg, hn, hm, ?_, ?_⟩⟩, grown_row⟩
    · simp only [List.size_toArray, List.length_append, List.length_take, List.length_drop, Array.length_toList]
      omega
    · show List.take (n * sz) (cur.toList.take (n * sz) ++ cs ++ cur.toList.drop (n * sz + cs.length)) = _
      rw [ht, List.append_assoc]
      exact take_of_app h1
section
variable {P : Program}
theorem run_copy_k (w : World) (dT sT ty elem : TypeId) (i : TypeInfo) (g o dLen dCap : Nat) (a : Addr) (sLen sCap m : Nat) (cur : Array Value) (t : TypeId) (cs : List Value)
    (hu : P.underlying dT = some (.slice elem)) (hi : P.info? elem = some i) (hm : Nat.min sLen dLen = m) (hl : cs.length = m * i.size)
    (hg : w.heap[g]? = some (.cells cur t (0, 0))) (hsrc : ∀ j v, cs[j]? = some v → w.cell? (a.add j) = some v) (hfit : o + cs.length ≤ cur.size) (h1 : ∀ v ∈ cs, v.oneCell' = true) :
    (Builtin.copy_ #[dT, sT] ty #[.slice (some ⟨g, o, none⟩) dLen dCap, .slice (some a) sLen sCap]).run P w =
      .ok (goInt m) (w.setRow g (cur.toList.take o ++ cs ++ cur.toList.drop (o + cs.length)).toArray) := by
  have hl' := run_loadCells_list (P := P) w a cs hsrc
  have hst := run_storeCells_at P g o t cs 0 cur w hg (by simpa using hfit) h1
  simp [Builtin.copy_, run_underlying hu, Builtin.lenOf, Builtin.firstCells, sizeOf, typeInfo, hi, hm, ← hl, hl', hst]
theorem zero_one {z : Array Value} {n : Nat} (h : ∀ u ∈ z, u.oneCell' = true) (hz : 0 < z.size) : ∀ v ∈ (Builtin.zeroCells z n).toList, v.oneCell' = true := by
  intro v hv
  simp only [Builtin.zeroCells, Array.toList_map, Array.toList_range, List.mem_map, List.mem_range] at hv
  obtain ⟨j, hj, rfl⟩ := hv
  have : j % z.size < z.size := Nat.mod_lt _ hz
  rw [getElem!_pos z _ this]
  exact h _ (Array.getElem_mem this)
theorem run_clear_k (w : World) (t ty elem : TypeId) (z : Value) (hu : P.underlying t = some (.slice elem)) (hz : ∀ w, (zeroValue elem).run P w = .ok z w) (h1 : ∀ u ∈ z.cells, u.oneCell' = true) (h0 : 0 < z.cells.size) (g o m c : Nat) (hm : 0 < m) (cur : Array Value) (T : TypeId)
    (hg : w.heap[g]? = some (.cells cur T (0, 0))) (hfit : o + m * z.cells.size ≤ cur.size) :
    (Builtin.clear_ #[t] ty #[.slice (some ⟨g, o, none⟩) m c]).run P w = .ok (.tuple #[]) (w.setRow g (cur.toList.take o ++ (Builtin.zeroCells z.cells m).toList ++ cur.toList.drop (o + (Builtin.zeroCells z.cells m).toList.length)).toArray) := by
  have hl : (Builtin.zeroCells z.cells m).toList.length = m * z.cells.size := by rw [Array.length_toList, size_zeroCells]
  have hst := run_storeCells_at P g o T (Builtin.zeroCells z.cells m).toList 0 cur w hg (by rw [hl]; simpa using hfit) (zero_one h1 h0)
  obtain ⟨k, rfl⟩ : ∃ k, m = k + 1 := ⟨m - 1, by omega⟩
  simp [Builtin.clear_, run_underlying hu, hz, hst]
end
section
variable {w : World} {o : Oper} {a : Act} {K : Act → World → Prop} {Q : Exit → Act → World → Prop}
/-- copy onto a row of one's own -/
theorem wp_copy_O (d s : Operand) (dT sT elem : TypeId) (i : TypeInfo) (sz : Nat)
    (ho : o.op = .call { callee := .builtin .copy, args := #[d, s], argTypes := #[dT, sT] }) (hu : Try.prog.underlying dT = some (.slice elem)) (hi : Try.prog.info? elem = some i) (hk : i.size = sz)
    (B n g c : Nat) (T : TypeId) (xs : List Value) (hown : w.ownsRow B T sz (.slice (some ⟨g, 0, none⟩) n c) n xs)
    (off dLen dCap : Nat) (ad : Addr) (sLen sCap m : Nat) (hd : a.eval d = .slice (some ⟨g, off, none⟩) dLen dCap) (hs : a.eval s = .slice (some ad) sLen sCap) (hm : Nat.min sLen dLen = m)
    (cs : List Value) (hl : cs.length = m * sz) (hsrc : ∀ j v, cs[j]? = some v → w.cell? (ad.add j) = some v) (hfit : off + cs.length ≤ n * sz) (h1 : ∀ v ∈ cs, v.oneCell' = true)
    (h : ∀ w', w'.ownsRow B T sz (.slice (some ⟨g, 0, none⟩) n c) n (splice xs off cs) → w.grownBy w' (some g) → K (a.put o.dst (goInt m)) w') : o.wp Try.prog a w K Q := by
  subst hk
  obtain ⟨cur, hg, hf, h2, h3⟩ := own_splice hown off cs hfit
  have hrun := run_copy_k (P := Try.prog) w dT sT o.type elem i g off dLen dCap ad sLen sCap m cur T cs hu hi hm hl hg hsrc hf h1
  unfold Oper.wp execOp
  simp only [ho, resolve, invoke, builtin, Sem.run_bind, Sem.run_pure, Result.andThen_ok, List.map_toArray, List.map_cons, List.map_nil, hd, hs, hrun]
  exact h _ h2 h3
theorem wpList_copy_O {ops : Array Oper} {rest : List Oper} (hgd : o.guard = none) (d s : Operand) (dT sT elem : TypeId) (i : TypeInfo) (sz : Nat)
    (ho : o.op = .call { callee := .builtin .copy, args := #[d, s], argTypes := #[dT, sT] }) (hu : Try.prog.underlying dT = some (.slice elem)) (hi : Try.prog.info? elem = some i) (hk : i.size = sz)
    (B n g c : Nat) (T : TypeId) (xs : List Value) (hown : w.ownsRow B T sz (.slice (some ⟨g, 0, none⟩) n c) n xs)
    (off dLen dCap : Nat) (ad : Addr) (sLen sCap m : Nat) (hd : a.eval d = .slice (some ⟨g, off, none⟩) dLen dCap) (hs : a.eval s = .slice (some ad) sLen sCap) (hm : Nat.min sLen dLen = m)
    (cs : List Value) (hl : cs.length = m * sz) (hsrc : ∀ j v, cs[j]? = some v → w.cell? (ad.add j) = some v) (hfit : off + cs.length ≤ n * sz) (h1 : ∀ v ∈ cs, v.oneCell' = true)
    (h : ∀ w', w'.ownsRow B T sz (.slice (some ⟨g, 0, none⟩) n c) n (splice xs off cs) → w.grownBy w' (some g) → wpList Try.prog ops Q rest (a.put o.dst (goInt m)) w') : wpList Try.prog ops Q (o :: rest) a w :=
  wpList_plain hgd fun _ hK => wp_copy_O d s dT sT elem i sz ho hu hi hk B n g c T xs hown off dLen dCap ad sLen sCap m hd hs hm cs hl hsrc hfit h1 fun w' h2 h3 => hK _ _ (h w' h2 h3)
theorem step_copy_O {ops : Array Oper} {F : Prop} (hgd : o.guard = none) (d s : Operand) (dT sT elem : TypeId) (i : TypeInfo) (sz : Nat)
    (ho : o.op = .call { callee := .builtin .copy, args := #[d, s], argTypes := #[dT, sT] }) (hu : Try.prog.underlying dT = some (.slice elem)) (hi : Try.prog.info? elem = some i) (hk : i.size = sz)
    (B n g c : Nat) (T : TypeId) (xs : List Value) (hown : w.ownsRow B T sz (.slice (some ⟨g, 0, none⟩) n c) n xs)
    (off dLen dCap : Nat) (ad : Addr) (sLen sCap m : Nat) (hd : a.eval d = .slice (some ⟨g, off, none⟩) dLen dCap) (hs : a.eval s = .slice (some ad) sLen sCap) (hm : Nat.min sLen dLen = m)
    (cs : List Value) (hl : cs.length = m * sz) (hsrc : ∀ j v, cs[j]? = some v → w.cell? (ad.add j) = some v) (hfit : off + cs.length ≤ n * sz) (h1 : ∀ v ∈ cs, v.oneCell' = true)
    (h : ∀ w', w'.ownsRow B T sz (.slice (some ⟨g, 0, none⟩) n c) n (splice xs off cs) → w.grownBy w' (some g) → K (a.put o.dst (goInt m)) w') : if Region.wanted o (yielded ops a.tmps) = true then o.wp Try.prog a w K Q else F := by
  have hw : Region.wanted o (yielded ops a.tmps) = true := by simp [Region.wanted, hgd]
  rw [if_pos hw]
  exact wp_copy_O d s dT sT elem i sz ho hu hi hk B n g c T xs hown off dLen dCap ad sLen sCap m hd hs hm cs hl hsrc hfit h1 h
/-- clear what lies behind a row of one's own -/
theorem wpList_clear_O {ops : Array Oper} {rest : List Oper} (hgd : o.guard = none) (s : Operand) (t elem : TypeId) (z : Value) (sz : Nat)
    (ho : o.op = .call { callee := .builtin .clear, args := #[s], argTypes := #[t] }) (hu : Try.prog.underlying t = some (.slice elem)) (hz : ∀ w, (zeroValue elem).run Try.prog w = .ok z w) (h1 : ∀ u ∈ z.cells, u.oneCell' = true) (h0 : 0 < sz) (hk : z.cells.size = sz)
    (B n g c : Nat) (T : TypeId) (xs : List Value) (hown : w.ownsRow B T sz (.slice (some ⟨g, 0, none⟩) n c) n xs)
    (off m c' : Nat) (hs : a.eval s = .slice (some ⟨g, off, none⟩) m c') (hoff : off = n * sz) (hm : 0 < m) (hfit : n + m ≤ c)
    (h : ∀ w', w'.ownsRow B T sz (.slice (some ⟨g, 0, none⟩) n c) n xs → w.grownBy w' (some g) → wpList Try.prog ops Q rest (a.put o.dst (.tuple #[])) w') : wpList Try.prog ops Q (o :: rest) a w := by
  refine wpList_plain hgd fun K hK => ?_
  subst hoff
  have hl : (Builtin.zeroCells z.cells m).toList.length = m * sz := by rw [Array.length_toList, size_zeroCells, hk]
  have hle := Nat.mul_le_mul_right sz hfit
  rw [Nat.add_mul] at hle
  obtain ⟨cur, hg, hf, h2, h3⟩ := own_behind hown (Builtin.zeroCells z.cells m).toList (by omega)
  have hrun := run_clear_k (P := Try.prog) w t o.type elem z hu hz h1 (by omega) g (n * sz) m c' hm cur T hg (by rw [hk]; omega)
  unfold Oper.wp execOp
  simp only [ho, resolve, invoke, builtin, Sem.run_bind, Sem.run_pure, Result.andThen_ok, List.map_toArray, List.map_cons, List.map_nil, hs, hrun]
  exact hK _ _ (h _ h2 h3)
/-- append of so many noughts behind the first ones of a row that has no room for them: a new row -/
theorem wpList_zeros_O {ops : Array Oper} {rest : List Oper} (hgd : o.guard = none) (s x : Operand) (t elem tn : TypeId) (i : TypeInfo) (z : Value) (sz by_ : Nat) (kq kn : IntKind)
    (ho : o.op = .call { callee := .builtin .append, args := #[s, x], argTypes := #[t, tn] }) (hu : Try.prog.underlying t = some (.slice elem)) (hn : Try.prog.underlying tn = some (.int kn)) (hi : Try.prog.info? elem = some i) (hz : i.zero = some z) (hk : i.size = sz) (hby : i.bytes = by_) (hzs : z.cells.size = sz) (h0 : 0 < sz)
    (B n g c : Nat) (xs : List Value) (hown : w.ownsRow B elem sz (.slice (some ⟨g, 0, none⟩) n c) n xs)
    (j k N : Nat) (hN : j + k = N) (hs : a.eval s = .slice (some ⟨g, 0, none⟩) j c) (hx : a.eval x = .int kq (k : Int)) (hj : j ≤ n) (hk0 : 0 < k) (hg : c < N) (hmx : N ≤ maxLen) (hsz : N * by_ ≤ 140737488355328)
    (h : ∀ G w' Z, w'.ownsRow w.heap.size elem sz (.slice (some ⟨w.heap.size, 0, none⟩) N G) N (xs.take (j * sz) ++ Z) → Z.length = k * sz → N ≤ G → Fr w w' → wpList Try.prog ops Q rest (a.put o.dst (.slice (some ⟨w.heap.size, 0, none⟩) N G)) w') : wpList Try.prog ops Q (o :: rest) a w := by
  refine wpList_plain hgd fun K hK => ?_
  subst hN
  subst hk
  subst hby
  have hcut := own_cut hown j hj
  have hfc : (Builtin.firstCells i.size j (.slice (some ⟨g, 0, none⟩) j c)).run Try.prog w.drew = .ok (xs.take (j * i.size)).toArray w.drew :=
    run_firstCells_some w.drew i.size j ⟨g, 0, none⟩ j c _ hcut.1 (fun q v hv => (hcut.cells (g := g) rfl) q v hv)
  have hrun := Lib.run_append_grow_zeros (P := Try.prog) w t tn o.type elem i z kq kn hu hn hi hz (some ⟨g, 0, none⟩) j c _ hfc k hk0 h0 hg (by unfold maxLen at hmx; omega) (by have := Nat.mul_le_mul_right i.bytes (show k ≤ j + k by omega); omega) (growslice_fits hg hsz)
  unfold Oper.wp execOp
  simp only [ho, resolve, invoke, builtin, Sem.run_bind, Sem.run_pure, Result.andThen_ok, List.map_toArray, List.map_cons, List.map_nil, hs, hx, hrun]
  have hge := grownCap_ge w (j + k) c elem
  have hZ : (Builtin.zeroCells z.cells k).toList.length = k * i.size := by rw [Array.length_toList, size_zeroCells, hzs]
  refine hK _ _ (h _ _ (Builtin.zeroCells z.cells k).toList ⟨?_, .inr ⟨w.heap.size, _, _, rfl, Nat.le_refl _, heap_alloc_new w.drew _, hge, grownCap_le_maxLen w (j + k) c elem hmx, ?_, ?_⟩⟩ hZ hge ((Fr.drew (Fr.refl w)).alloc _))
  · rw [List.length_append, hZ, hcut.1, Nat.add_mul]
  · simp only [Array.size_append, List.size_toArray, size_zeroCells, hzs, hcut.1, ← Nat.add_mul]
    congr 1
    omega
  · simp only [Array.toList_append, List.append_assoc]
    rw [← List.append_assoc]
    exact take_of_app (by rw [List.length_append, hZ, hcut.1, Nat.add_mul])
end
/-- where a row lies that was another one -/
def Lies (w : World) (r : Option Nat) (v' : Value) : Prop := v'.ownBlock = r ∨ ∃ g, v'.ownBlock = some g ∧ w.heap.size ≤ g
theorem ownBlock_slice (a : Option Addr) (n c n' c' : Nat) : (Value.slice a n c).ownBlock = (Value.slice a n' c').ownBlock := by cases a <;> rfl
/-- append to a row of one's own: where it lies, too -/
theorem wp_append_O {α : Type} (E : Cd α) {w : World} {o : Oper} {a : Act} {K : Act → World → Prop} {Q : Exit → Act → World → Prop} (s x : Operand) (t e : TypeId) (i : TypeInfo) (z : Value) (by_ : Nat)
    (ho : o.op = .call { callee := .builtin .append, args := #[s, x], argTypes := #[t, t] })
    (ht : Try.prog.underlying t = some (.slice e)) (hi : Try.prog.info? e = some i) (hz : i.zero = some z) (hs1 : i.size = E.k) (hby : i.bytes = by_) (hzs : z.cells.size = E.k)
    (base : Nat) (v : Value) (n : Nat) (xs : List Value) (hs : a.eval s = v) (hown : w.ownsRow base e E.k v n xs)
    (A : Addr) (m cap : Nat) (l : List α) (hx : a.eval x = .slice (some A) m cap) (hml : m = l.length) (hnews : ∀ j u, (flat E l)[j]? = some u → w.cell? (A.add j) = some u) (hm : n + m ≤ maxLen) (hsz : (n + m) * by_ ≤ 140737488355328) (hbase : base ≤ w.heap.size)
    (h : ∀ v' w', w'.ownsRow base e E.k v' (n + m) (xs ++ flat E l) → w.grownBy w' v.ownBlock → Lies w v.ownBlock v' → (∀ g c, v = .slice (some ⟨g, 0, none⟩) n c → n + m ≤ c → v' = .slice (some ⟨g, 0, none⟩) (n + m) c) → K (a.put o.dst v') w') : o.wp Try.prog a w K Q := by
  subst hml
  obtain ⟨v', w', hr, h2, h3, h4⟩ := run_append_own (P := Try.prog) w base t o.type e i z E.k by_ ht hi hz hs1 hby hzs E.pos v n xs hown A l.length cap (flat E l) (flat_len E l) hnews (flat_one E l) hm hsz hbase
  have h5 : Lies w v.ownBlock v' ∧ (∀ g c, v = .slice (some ⟨g, 0, none⟩) n c → n + l.length ≤ c → v' = .slice (some ⟨g, 0, none⟩) (n + l.length) c) := by
    have hsmall : n + l.length ≤ 9223372036854775807 := by simp only [maxLen] at hm; omega
    subst hby
    have hlen := flat_len E l
    rw [← hs1] at hlen hown
    rcases hown.2 with ⟨rfl, rfl⟩ | ⟨g', cap', cur, rfl, hbg, hg, hnc, hcm, hcs, htake⟩
    · refine ⟨?_, fun g c e => by cases e⟩
      by_cases h0 : l.length = 0
      · rw [(h4.2 ⟨rfl, h0⟩)]
        exact .inl rfl
      · rw [run_append_nil (P := Try.prog) w t o.type e i z ht hi hz A l.length cap (flat E l) hlen hnews (by omega) (by omega) (by have hb := hsz; simp only [Nat.zero_add] at hb; omega)] at hr
        cases hr
        exact .inr ⟨w.heap.size, rfl, Nat.le_refl _⟩
    · by_cases hroom : n + l.length ≤ cap'
      · have hfit : n * i.size + (flat E l).length ≤ cur.size := by rw [hlen, hcs, ← Nat.add_mul]; exact Nat.mul_le_mul_right _ hroom
        rw [run_append_room (P := Try.prog) w t o.type e i ht hi g' n cap' cur hg A l.length cap (flat E l) hlen hnews (flat_one E l) hroom hfit] at hr
        cases hr
        refine ⟨.inl rfl, fun g c e _ => ?_⟩
        cases e
        rfl
      · rw [run_append_grow (P := Try.prog) w t o.type e i z ht hi hz ⟨g', 0, none⟩ n cap' xs hown.1 (hown.cells (g := g') rfl) A l.length cap (flat E l) hlen hnews (by omega) (by omega) (growslice_fits (by omega) hsz)] at hr
        cases hr
        refine ⟨.inr ⟨w.heap.size, rfl, Nat.le_refl _⟩, fun g c e hc => ?_⟩
        cases e
        exact absurd hc hroom
  unfold Oper.wp execOp
  simp only [ho, resolve, invoke, builtin, Sem.run_bind, Sem.run_pure, Result.andThen_ok, List.map_toArray, List.map_cons, List.map_nil, hs, hx, hr]
  exact h v' w' h2 h3 h5.1 h5.2
theorem wpList_append_O {α : Type} (E : Cd α) {w : World} {ops : Array Oper} {rest : List Oper} {o : Oper} {a : Act} {Q : Exit → Act → World → Prop} (hgd : o.guard = none) (s x : Operand) (t e : TypeId) (i : TypeInfo) (z : Value) (by_ : Nat)
    (ho : o.op = .call { callee := .builtin .append, args := #[s, x], argTypes := #[t, t] })
    (ht : Try.prog.underlying t = some (.slice e)) (hi : Try.prog.info? e = some i) (hz : i.zero = some z) (hs1 : i.size = E.k) (hby : i.bytes = by_) (hzs : z.cells.size = E.k)
    (base : Nat) (v : Value) (n : Nat) (xs : List Value) (hs : a.eval s = v) (hown : w.ownsRow base e E.k v n xs)
    (A : Addr) (m cap : Nat) (l : List α) (hx : a.eval x = .slice (some A) m cap) (hml : m = l.length) (hnews : ∀ j u, (flat E l)[j]? = some u → w.cell? (A.add j) = some u) (hm : n + m ≤ maxLen) (hsz : (n + m) * by_ ≤ 140737488355328) (hbase : base ≤ w.heap.size)
    (h : ∀ v' w', w'.ownsRow base e E.k v' (n + m) (xs ++ flat E l) → w.grownBy w' v.ownBlock → Lies w v.ownBlock v' → (∀ g c, v = .slice (some ⟨g, 0, none⟩) n c → n + m ≤ c → v' = .slice (some ⟨g, 0, none⟩) (n + m) c) → wpList Try.prog ops Q rest (a.put o.dst v') w') : wpList Try.prog ops Q (o :: rest) a w :=
  wpList_plain hgd fun _ hK => wp_append_O E s x t e i z by_ ho ht hi hz hs1 hby hzs base v n xs hs hown A m cap l hx hml hnews hm hsz hbase fun v' w' h2 h3 h4 h5 => hK _ _ (h v' w' h2 h3 h4 h5)
theorem step_append_O {α : Type} (E : Cd α) {w : World} {ops : Array Oper} {F : Prop} {o : Oper} {a : Act} {K : Act → World → Prop} {Q : Exit → Act → World → Prop} (hgd : o.guard = none) (s x : Operand) (t e : TypeId) (i : TypeInfo) (z : Value) (by_ : Nat)
    (ho : o.op = .call { callee := .builtin .append, args := #[s, x], argTypes := #[t, t] })
    (ht : Try.prog.underlying t = some (.slice e)) (hi : Try.prog.info? e = some i) (hz : i.zero = some z) (hs1 : i.size = E.k) (hby : i.bytes = by_) (hzs : z.cells.size = E.k)
    (base : Nat) (v : Value) (n : Nat) (xs : List Value) (hs : a.eval s = v) (hown : w.ownsRow base e E.k v n xs)
    (A : Addr) (m cap : Nat) (l : List α) (hx : a.eval x = .slice (some A) m cap) (hml : m = l.length) (hnews : ∀ j u, (flat E l)[j]? = some u → w.cell? (A.add j) = some u) (hm : n + m ≤ maxLen) (hsz : (n + m) * by_ ≤ 140737488355328) (hbase : base ≤ w.heap.size)
    (h : ∀ v' w', w'.ownsRow base e E.k v' (n + m) (xs ++ flat E l) → w.grownBy w' v.ownBlock → Lies w v.ownBlock v' → (∀ g c, v = .slice (some ⟨g, 0, none⟩) n c → n + m ≤ c → v' = .slice (some ⟨g, 0, none⟩) (n + m) c) → K (a.put o.dst v') w') : if Region.wanted o (yielded ops a.tmps) = true then o.wp Try.prog a w K Q else F := by
  have hw : Region.wanted o (yielded ops a.tmps) = true := by simp [Region.wanted, hgd]
  rw [if_pos hw]
  exact wp_append_O E s x t e i z by_ ho ht hi hz hs1 hby hzs base v n xs hs hown A m cap l hx hml hnews hm hsz hbase h
theorem Grown.trans {w0 w1 w2 : World} {r : Option Nat} (h : w0.grownBy w1 r) (k : w1.grownBy w2 r) : w0.grownBy w2 r :=
  ⟨k.os.trans h.os, k.tape.trans h.tape, k.output.trans h.output, Nat.le_trans h.size k.size, fun i hi hr => (k.block i (Nat.lt_of_lt_of_le hi h.size) hr).trans (h.block i hi hr)⟩
theorem Grown.drew {w0 w1 : World} {r : Option Nat} (h : w0.drew.grownBy w1 r) : w0.grownBy w1 r := ⟨h.os, h.tape, h.output, h.size, h.block⟩
theorem Grown.fr {w0 w1 : World} {r : Option Nat} (h : Fr w0 w1) : w0.grownBy w1 r := ⟨h.os, h.tape, h.output, h.size, fun k hk _ => h.block k hk⟩
/-- what was done to a block that was not there before -/
theorem Grown.new {w0 w1 w2 : World} {g : Nat} (h : Fr w0 w1) (k : w1.grownBy w2 (some g)) (hg : w0.heap.size ≤ g) : Fr w0 w2 :=
  Below.grown h k h.size fun q e => by cases e; exact hg
end Go.Proofs.Ytmemapfboefngaa
