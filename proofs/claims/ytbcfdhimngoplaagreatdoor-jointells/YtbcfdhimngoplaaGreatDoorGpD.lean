/-
  What belongs together: ExT, CdK, ExN.
-/
import Derived.Test.YtbcfdhimngoplaaGreatDoorGpA
import Derived.Test.YtbcfdhimngoplaaGreatDoorCtP
import Derived.Test.YtbcfdhimngoplaaGreatDoorGpB
import Derived.Deep.DeepCutAuto
import Derived.Deep.CutRange
namespace Go.Proofs.YtbcfdhimngoplaaGreatDoor
set_option linter.unusedVariables false
namespace EX
open VM
structure Nd where
 op : Int
 kids : Int
 v : Vl
 nm : ByteArray
inductive F where
 | nil : F
 | nd (n : Nd) (below next : F) : F
namespace F
def len : F → Nat
 | nil => 0
 | nd _ _ s => len s + 1
def flat : F → List Nd
 | nil => []
 | nd n k s => flat k ++ n :: flat s
def app : F → F → F
 | nil, t => t
 | nd n k s, t => nd n k (app s t)
def take : Nat → F → F
 | 0, _ => nil
 | _ + 1, nil => nil
 | m + 1, nd n k s => nd n k (take m s)
def drop : Nat → F → F
 | 0, t => t
 | _ + 1, nil => nil
 | m + 1, nd _ _ s => drop m s
def right : F → Prop
 | nil => True
 | nd n k s => n.kids = (len k : Int) ∧ right k ∧ right s
theorem flat_app (s t : F) : (app s t).flat = s.flat ++ t.flat := by
 induction s with
 | nil => rfl
 | nd n k s _ ih => simp [app, flat, ih]
def push (n : Nd) (t : F) : F := app (take (t.len - n.kids.toNat) t) (nd n (drop (t.len - n.kids.toNat) t) nil)
end F
def up {α : Type} (f : Nd → List α → Except Nat α) : List Nd → List α → Except Nat (List α)
 | [], free => .ok free
 | n :: e, free =>
  match f n (free.drop (free.length - n.kids.toNat)) with
  | .error c => .error c
  | .ok x => up f e (free.take (free.length - n.kids.toNat) ++ [x])
def vals {α : Type} (f : Nd → List α → Except Nat α) : F → Except Nat (List α)
 | .nil => .ok []
 | .nd n k s =>
  match vals f k with
  | .error c => .error c
  | .ok xs =>
   match f n xs with
   | .error c => .error c
   | .ok x =>
    match vals f s with
    | .error c => .error c
    | .ok ys => .ok (x :: ys)
end EX
end Go.Proofs.YtbcfdhimngoplaaGreatDoor
namespace Go.Proofs.YtbcfdhimngoplaaGreatDoor
open Go.ChangeShapes Go.WideShapes Go.ChangeAt Go.RowKit
set_option linter.unusedVariables false
set_option linter.unusedSimpArgs false
set_option maxRecDepth 100000
theorem hideP {p : Prop} (h : p) : Hid p := h
theorem own_keep {B n sz : Nat} {T : TypeId} {v : Value} {xs : List Value} {w w' : World} (h : w.ownsRow B T sz v n xs) (hk : ∀ (k : Nat) (cur : Array Value), B ≤ k → w.heap[k]? = some (.cells cur T (0, 0)) → w'.heap[k]? = w.heap[k]?) : w'.ownsRow B T sz v n xs := by
 refine ⟨h.1, ?_⟩
 rcases h.2 with h0 | ⟨g, cap, cur, h1, h2, h3, h4⟩
 · exact Or.inl h0
 · exact Or.inr ⟨g, cap, cur, h1, h2, (hk g cur h2 h3).trans h3, h4⟩
theorem own_block {B n sz : Nat} {T : TypeId} {v : Value} {xs : List Value} {w : World} (h : w.ownsRow B T sz v n xs) : ∀ g, v.ownBlock = some g → ∃ cur, w.heap[g]? = some (.cells cur T (0, 0)) := by
 intro g hg
 rcases h.2 with ⟨rfl, _⟩ | ⟨g', cap, cur, rfl, _, h3, _⟩
 · cases hg
 ·
  simp only [Value.ownBlock, Option.some.injEq] at hg
  subst hg
  exact ⟨cur, h3⟩
structure Cd (α : Type) where
 k : Nat
 c : α → List Value
 pos : 0 < k
 len : ∀ x, (c x).length = k
 one : ∀ x, ∀ u ∈ c x, u.oneCell' = true
def flat {α : Type} (E : Cd α) (l : List α) : List Value := l.flatMap E.c
theorem flat_cons {α : Type} (E : Cd α) (x : α) (l : List α) : flat E (x :: l) = E.c x ++ flat E l := by simp [flat]
theorem flat_app {α : Type} (E : Cd α) (l m : List α) : flat E (l ++ m) = flat E l ++ flat E m := by simp [flat]
theorem flat_len {α : Type} (E : Cd α) (l : List α) : (flat E l).length = l.length * E.k := by
 induction l with
 | nil => simp [flat]
 | cons x l ih => rw [flat_cons, List.length_append, ih, E.len, List.length_cons, Nat.succ_mul]; omega
theorem flat_get {α : Type} (E : Cd α) (l : List α) (i j : Nat) (h : i < l.length) (hj : j < E.k) : (flat E l)[i * E.k + j]? = (E.c l[i])[j]? := by
 induction l generalizing i with
 | nil => simp at h
 | cons x l ih =>
  rw [flat_cons]
  cases i with
  | zero => rw [Nat.zero_mul, Nat.zero_add, List.getElem?_append_left (by rw [E.len]; exact hj)]; rfl
  | succ i =>
   rw [List.getElem?_append_right (by rw [E.len, Nat.succ_mul]; omega), E.len]
   have : (i + 1) * E.k + j - E.k = i * E.k + j := by rw [Nat.succ_mul]; omega
   rw [this, ih i (by simpa using h)]; rfl
theorem flat_one {α : Type} (E : Cd α) (l : List α) : ∀ u ∈ flat E l, u.oneCell' = true := by
 intro u hu
 simp only [flat, List.mem_flatMap] at hu
 obtain ⟨x, _, hx⟩ := hu
 exact E.one x u hx
def At {α : Type} (E : Cd α) (w : World) (b o : Nat) (l : List α) : Prop := ∀ j u, (flat E l)[j]? = some u → w.cell? ⟨b, o + j, none⟩ = some u
def IsL {α : Type} (E : Cd α) (w : World) (v : Value) (l : List α) : Prop :=
 ∃ (a : Option Addr) (cap : Nat), v = .slice a l.length cap ∧ l.length ≤ cap ∧ (l = [] ∨ ∃ b o, a = some ⟨b, o, none⟩ ∧ b < w.heap.size ∧ At E w b o l)
theorem At.fr {α : Type} {E : Cd α} {w w' : World} {b o : Nat} {l : List α} (h : At E w b o l) (hb : b < w.heap.size) (f : Fr w w') : At E w' b o l :=
 fun j u hu => (Below.cell f hb).trans (h j u hu)
theorem IsL.fr {α : Type} {E : Cd α} {w w' : World} {v : Value} {l : List α} (h : IsL E w v l) (f : Fr w w') : IsL E w' v l := by
 obtain ⟨a, cap, rfl, hc, h0 | ⟨b, o, rfl, hb, hh⟩⟩ := h
 · exact ⟨a, cap, rfl, hc, Or.inl h0⟩
 · exact ⟨_, cap, rfl, hc, Or.inr ⟨b, o, rfl, Nat.lt_of_lt_of_le hb f.size, hh.fr hb f⟩⟩
theorem isL_nil {α : Type} (E : Cd α) (w : World) : IsL E w (.slice none 0 0) [] := ⟨none, 0, rfl, Nat.le_refl _, Or.inl rfl⟩
theorem isL_own {α : Type} {E : Cd α} {w : World} {B T : Nat} {v : Value} {l : List α} (h : w.ownsRow B T E.k v l.length (flat E l)) : IsL E w v l := by
 rcases h.2 with ⟨rfl, h0⟩ | ⟨g, cap, cur, rfl, h2, h3, h4, h5, h6, h7⟩
 ·
  have := List.length_eq_zero_iff.1 h0
  subst this
  exact isL_nil E w
 ·
  refine ⟨_, cap, rfl, h4, Or.inr ⟨g, 0, rfl, (Array.getElem?_eq_some_iff.1 h3).1, ?_⟩⟩
  intro j u hu
  rw [Nat.zero_add, Lib.cell_of_heap h3]
  rw [← h7, List.getElem?_take] at hu
  split at hu
  · rw [← hu, Array.getElem?_toList]
  · cases hu
theorem own_fr {B n sz : Nat} {T : TypeId} {v : Value} {xs : List Value} {w w' : World} (h : w.ownsRow B T sz v n xs) (f : Fr w w') : w'.ownsRow B T sz v n xs :=
 own_keep h fun k cur _ hk => f.block k (Array.getElem?_eq_some_iff.1 hk).1
theorem own_low {A B n sz : Nat} {T : TypeId} {v : Value} {xs : List Value} {w : World} (h : w.ownsRow B T sz v n xs) (hAB : A ≤ B) : w.ownsRow A T sz v n xs := by
 refine ⟨h.1, ?_⟩
 rcases h.2 with h0 | ⟨g, cap, cur, h1, h2, h3, h4⟩
 · exact Or.inl h0
 · exact Or.inr ⟨g, cap, cur, h1, Nat.le_trans hAB h2, h3, h4⟩
theorem own_base {B n sz : Nat} {T : TypeId} {v : Value} {xs : List Value} {w : World} (h : w.ownsRow B T sz v n xs) : ∀ g, v.ownBlock = some g → B ≤ g := by
 intro g hg
 rcases h.2 with ⟨rfl, _⟩ | ⟨g', cap, cur, rfl, h2, h3, _⟩
 · cases hg
 ·
  simp only [Value.ownBlock, Option.some.injEq] at hg
  subst hg
  exact h2
theorem own_slice {B n sz : Nat} {T : TypeId} {v : Value} {xs : List Value} {w : World} (h : w.ownsRow B T sz v n xs) : ∃ a c, v = .slice a n c := by
 rcases h.2 with ⟨rfl, h0⟩ | ⟨g', cap, cur, rfl, h2, h3, _⟩
 · exact ⟨none, 0, by rw [h0]⟩
 · exact ⟨_, _, rfl⟩
theorem new_heap (w : World) (o : Obj) : (w.alloc o).heap[w.heap.size]? = some o := by
 show (w.heap.push o)[w.heap.size]? = _
 rw [Array.getElem?_push_size]
def Blk (w : World) (b : Nat) (arr : Array Value) (T : TypeId) : Prop := w.heap[b]? = some (.cells arr T (0, 0))
theorem Blk.lt {w : World} {b : Nat} {arr : Array Value} {T : TypeId} (h : Blk w b arr T) : b < w.heap.size := (Array.getElem?_eq_some_iff.1 h).1
theorem Blk.fr {w w' : World} {b : Nat} {arr : Array Value} {T : TypeId} (h : Blk w b arr T) (f : Fr w w') : Blk w' b arr T := (f.block b h.lt).trans h
theorem Blk.old {w : World} {b : Nat} {arr : Array Value} {T : TypeId} (h : Blk w b arr T) (o : Obj) : Blk (w.alloc o) b arr T := h.fr ((Fr.refl w).alloc o)
theorem Blk.new (w : World) (arr : Array Value) (T : TypeId) : Blk (w.alloc (.cells arr T)) w.heap.size arr T := new_heap w _
theorem Blk.cell {w : World} {b : Nat} {arr : Array Value} {T : TypeId} (h : Blk w b arr T) (i : Nat) {u : Value} (hu : arr[i]? = some u) : w.cell? ⟨b, i, none⟩ = some u := by
 rw [Lib.cell_of_heap h]; exact hu
theorem Blk.frozen {w : World} {b : Nat} {arr : Array Value} {T : TypeId} (h : Blk w b arr T) (i : Nat) : w.frozen? ⟨b, i, none⟩ = false := Lib.frozen_of_heap h i
theorem Blk.set {w : World} {b : Nat} {arr : Array Value} {T : TypeId} (h : Blk w b arr T) (i : Nat) (u : Value) : Blk (w.setCell ⟨b, i, none⟩ u) b (arr.setIfInBounds i u) T := by
 unfold Blk at *
 simp only [World.setCell, Array.getElem?_modify, if_pos, h]
 rfl
theorem Blk.other {w : World} {b b' : Nat} {arr : Array Value} {T : TypeId} (h : Blk w b arr T) (hne : b' ≠ b) (i : Nat) (u : Value) : Blk (w.setCell ⟨b', i, none⟩ u) b arr T := by
 unfold Blk at *
 simp only [World.setCell, Array.getElem?_modify]
 rw [if_neg hne]; exact h
theorem Blk.grown {w w' : World} {b : Nat} {arr : Array Value} {T : TypeId} {r : Option Nat} (h : Blk w b arr T) (hg : w.grownBy w' r) (hr : r ≠ some b) : Blk w' b arr T :=
 (hg.block b h.lt (fun e => hr e.symm)).trans h
theorem grown_same (w : World) (r : Option Nat) : w.grownBy w r := ⟨rfl, rfl, rfl, Nat.le_refl _, fun _ _ _ => rfl⟩
theorem run_append_cap0 {P : Program} {w : World} (base : Nat) (t ty e : TypeId) (i : TypeInfo) (size cap : Nat) (ht : P.underlying t = some (.slice e)) (hi : P.info? e = some i)
  (v : Value) (n : Nat) (xs : List Value) (hown : w.ownsRow base e size v n xs) :
  (Builtin.append_ #[t, t] ty #[v, .slice none 0 cap]).run P w = .ok v w := by
 rcases hown.2 with ⟨rfl, rfl⟩ | ⟨g, cap', cur, rfl, _, _, hnc, _⟩
 · simp [Builtin.append_, run_underlying ht, sizeOf, typeInfo, hi, Builtin.lenOf, Builtin.firstCells]
 · simp [Builtin.append_, run_underlying ht, sizeOf, typeInfo, hi, Builtin.lenOf, Builtin.firstCells, hnc, storeCells]
theorem wp_append_L {α : Type} (E : Cd α) {w : World} {o : Oper} {a : Act} {K : Act → World → Prop} {Q : Exit → Act → World → Prop} (s x : Operand) (t e : TypeId) (i : TypeInfo) (z : Value) (by_ : Nat)
  (ho : o.op = .call { callee := .builtin .append, args := #[s, x], argTypes := #[t, t] })
  (ht : Tryz.prog.underlying t = some (.slice e)) (hi : Tryz.prog.info? e = some i) (hz : i.zero = some z) (hs1 : i.size = E.k) (hby : i.bytes = by_) (hzs : z.cells.size = E.k)
  (base : Nat) (v : Value) (n : Nat) (xs : List α) (hs : a.eval s = v) (hown : w.ownsRow base e E.k v n (flat E xs))
  (u : Value) (l : List α) (hx : a.eval x = u) (hl : IsL E w u l) (hm : n + l.length ≤ maxLen) (hsz : (n + l.length) * by_ ≤ 140737488355328) (hbase : base ≤ w.heap.size)
  (h : ∀ v' w', w'.ownsRow base e E.k v' (n + l.length) (flat E (xs ++ l)) → w.grownBy w' v.ownBlock → K (a.put o.dst v') w') : o.wp Tryz.prog a w K Q := by
 obtain ⟨A, cap, rfl, hc, hcs⟩ := hl
 cases A with
 | none =>
  have h0 : l = [] := by
   rcases hcs with h0 | ⟨b, o', hA, _⟩
   · exact h0
   · cases hA
  subst h0
  have hrun := run_append_cap0 (P := Tryz.prog) (w := w) base t o.type e i E.k cap ht hi v n (flat E xs) hown
  unfold Oper.wp
  simp only [List.length_nil] at hx
  simp [execOp, ho, resolve, invoke, builtin, hs, hx, hrun, Result.andThen]
  exact h v w (by simpa using hown) (grown_same w _)
 | some A =>
  refine wp_append_own w s x t ho base e i z E.k by_ ht hi hz hs1 hby hzs E.pos v n (flat E xs) hs hown A l.length cap (flat E l) hx (flat_len E l) ?_ (flat_one E l) hm hsz hbase fun v' w' h1 h2 _ => h v' w' (by rw [flat_app]; exact h1) h2
  rcases hcs with h0 | ⟨b, o', hA, hb, hcc⟩
  ·
   subst h0
   intro j u hu
   simp [flat] at hu
  ·
   simp only [Option.some.injEq] at hA
   subst hA
   intro j u hu
   rw [Addr.add_lit]
   exact hcc j u hu
theorem step_append_L {α : Type} (E : Cd α) {ops : Array Oper} {o : Oper} {a : Act} {w : World} {K : Act → World → Prop} {Q : Exit → Act → World → Prop} {F : Prop}
  (hg : o.guard = none) (s x : Operand) (t e : TypeId) (i : TypeInfo) (z : Value) (by_ : Nat)
  (ho : o.op = .call { callee := .builtin .append, args := #[s, x], argTypes := #[t, t] })
  (ht : Tryz.prog.underlying t = some (.slice e)) (hi : Tryz.prog.info? e = some i) (hz : i.zero = some z) (hs1 : i.size = E.k) (hby : i.bytes = by_) (hzs : z.cells.size = E.k)
  (base : Nat) (v : Value) (n : Nat) (xs : List α) (hs : a.eval s = v) (hown : w.ownsRow base e E.k v n (flat E xs))
  (u : Value) (l : List α) (hx : a.eval x = u) (hl : IsL E w u l) (hm : n + l.length ≤ maxLen) (hsz : (n + l.length) * by_ ≤ 140737488355328) (hbase : base ≤ w.heap.size)
  (h : ∀ v' w', w'.ownsRow base e E.k v' (n + l.length) (flat E (xs ++ l)) → w.grownBy w' v.ownBlock → K (a.put o.dst v') w') :
  if Region.wanted o (yielded ops a.tmps) = true then Oper.wp Tryz.prog o a w K Q else F := by
 have hw : Region.wanted o (yielded ops a.tmps) = true := by simp [Region.wanted, hg]
 rw [if_pos hw]
 exact wp_append_L E s x t e i z by_ ho ht hi hz hs1 hby hzs base v n xs hs hown u l hx hl hm hsz hbase h
theorem wpList_append_L {α : Type} (E : Cd α) {w : World} {ops : Array Oper} {rest : List Oper} {o : Oper} {a : Act} {Q : Exit → Act → World → Prop} (hgd : o.guard = none) (s x : Operand) (t e : TypeId) (i : TypeInfo) (z : Value) (by_ : Nat)
  (ho : o.op = .call { callee := .builtin .append, args := #[s, x], argTypes := #[t, t] })
  (ht : Tryz.prog.underlying t = some (.slice e)) (hi : Tryz.prog.info? e = some i) (hz : i.zero = some z) (hs1 : i.size = E.k) (hby : i.bytes = by_) (hzs : z.cells.size = E.k)
  (base : Nat) (v : Value) (n : Nat) (xs : List α) (hs : a.eval s = v) (hown : w.ownsRow base e E.k v n (flat E xs))
  (u : Value) (l : List α) (hx : a.eval x = u) (hl : IsL E w u l) (hm : n + l.length ≤ maxLen) (hsz : (n + l.length) * by_ ≤ 140737488355328) (hbase : base ≤ w.heap.size)
  (h : ∀ v' w', w'.ownsRow base e E.k v' (n + l.length) (flat E (xs ++ l)) → w.grownBy w' v.ownBlock → wpList Tryz.prog ops Q rest (a.put o.dst v') w') : wpList Tryz.prog ops Q (o :: rest) a w :=
 wpList_plain hgd fun _ hK => wp_append_L E s x t e i z by_ ho ht hi hz hs1 hby hzs base v n xs hs hown u l hx hl hm hsz hbase fun v' w' h2 h3 => hK _ _ (h v' w' h2 h3)
theorem lit_one {α : Type} (E : Cd α) (W : World) (x : α) (T : TypeId) : IsL E (W.alloc (.cells (E.c x).toArray T)) (.slice (some ⟨W.heap.size, 0, none⟩) 1 1) [x] := by
 refine ⟨_, 1, rfl, Nat.le_refl _, Or.inr ⟨W.heap.size, 0, rfl, by simp, ?_⟩⟩
 intro j u hu
 rw [Nat.zero_add]
 refine (Blk.new W (E.c x).toArray T).cell j ?_
 have : flat E [x] = E.c x := by simp [flat]
 rw [this] at hu
 simpa using hu
theorem lit_one' {α : Type} (E : Cd α) (W : World) (o : Obj) (x : α) (T : TypeId) : IsL E ((W.alloc o).alloc (.cells (E.c x).toArray T)) (.slice (some ⟨W.heap.size + 1, 0, none⟩) 1 1) [x] := by
 have h := lit_one E (W.alloc o) x T
 rw [World.size_alloc] at h
 exact h
theorem own_lit0 {α : Type} (E : Cd α) (W : World) (T : TypeId) (B : Nat) (hB : B ≤ W.heap.size) : (W.alloc (.cells #[] T)).ownsRow B T E.k (.slice (some ⟨W.heap.size, 0, none⟩) 0 0) 0 (flat E []) :=
 World.ownsRow_lit (base := B) (e := T) (size := E.k) W #[] 0 hB (by decide) (by simp)
theorem IsL.grown {α : Type} {E : Cd α} {W W' : World} {r : Option Nat} {v : Value} {l : List α} (h : IsL E W v l) (g : W.grownBy W' r) (hr : ∀ b n c o s, v = .slice (some ⟨b, o, s⟩) n c → r ≠ some b) : IsL E W' v l := by
 obtain ⟨a, cap, rfl, hc, h0 | ⟨b, o, rfl, hb, hh⟩⟩ := h
 · exact ⟨a, cap, rfl, hc, .inl h0⟩
 ·
  have hne := hr _ _ _ _ _ rfl
  have hk : W'.heap[b]? = W.heap[b]? := g.block b hb (fun e => hne e.symm)
  refine ⟨_, cap, rfl, hc, .inr ⟨b, o, rfl, ?_, ?_⟩⟩
  ·
   rcases Nat.lt_or_ge b W'.heap.size with h | h
   · exact h
   · rw [Array.getElem?_eq_none h, Array.getElem?_eq_getElem hb] at hk; cases hk
  ·
   intro j u hu
   exact (World.cell?_of_block hk).trans (hh j u hu)
end Go.Proofs.YtbcfdhimngoplaaGreatDoor
namespace Go.Proofs.YtbcfdhimngoplaaGreatDoor
open Go.ChangeShapes Go.WideShapes Go.ChangeAt Go.RowKit
set_option linter.unusedVariables false
set_option linter.unusedSimpArgs false
set_option maxRecDepth 100000
set_option maxHeartbeats 2000000
namespace EX
def kl (op : Int) : Int := if op = 1 ∨ op = 2 then 0 else if op = 3 ∨ op = 4 ∨ op = 18 ∨ op = 19 then 1 else if op = 22 ∨ op = 23 then 2 else if op = 24 ∨ op = 25 then 3 else 2
def km (op : Int) : Int := if op = 1 ∨ op = 2 then 0 else if op = 3 ∨ op = 4 ∨ op = 18 ∨ op = 19 then 1 else if op = 22 ∨ op = 23 then 7 else if op = 24 ∨ op = 25 then 3 else 2
def nul : VM.Vl := ⟨0, 0, ⟨#[]⟩⟩
def lchk (v : VM.Vl) : Nat := if VM.chk v ≠ 0 then VM.chk v else if v.n < 0 then 3 else 0
def isNul (v : VM.Vl) : Bool := decide (v.k = 0) && (decide (v.n = 0) && decide (v.s.size = 0))
def nchk (n : Nd) : Nat := if n.op < 1 ∨ 25 < n.op then 7 else if n.kids < kl n.op ∨ km n.op < n.kids then 1 else if n.op ≠ 1 ∧ isNul n.v = false then 1 else if n.op ≠ 2 ∧ n.nm.size ≠ 0 then 1 else if n.op = 1 then lchk n.v else if n.op = 2 ∧ LX.nm n.nm.data.toList = false then 1 else 0
def val (n : Nd) : Value := .agg #[.int .i64 n.op, .int .i64 n.kids, .int .i64 n.v.k, .int .i64 n.v.n, .string n.v.s, .string n.nm]
end EX
def cdN : Cd EX.Nd := ⟨6, fun n => [.int .i64 n.op, .int .i64 n.kids, .int .i64 n.v.k, .int .i64 n.v.n, .string n.v.s, .string n.nm], by decide, fun _ => rfl, fun x u h => by simp at h; rcases h with rfl | rfl | rfl | rfl | rfl | rfl <;> rfl⟩
theorem At.nd {w : World} {b o : Nat} {l : List EX.Nd} (h : At cdN w b o l) (i : Nat) (hi : i < l.length) :
  w.cell? ⟨b, o + i * 6, none⟩ = some (.int .i64 l[i].op) ∧ w.cell? ⟨b, o + i * 6 + 1, none⟩ = some (.int .i64 l[i].kids) ∧ w.cell? ⟨b, o + i * 6 + 2, none⟩ = some (.int .i64 l[i].v.k) ∧ w.cell? ⟨b, o + i * 6 + 3, none⟩ = some (.int .i64 l[i].v.n) ∧ w.cell? ⟨b, o + i * 6 + 4, none⟩ = some (.string l[i].v.s) ∧ w.cell? ⟨b, o + i * 6 + 5, none⟩ = some (.string l[i].nm) :=
 ⟨h (i * 6) _ (by have := flat_get cdN l i 0 hi (by decide); simpa [cdN] using this),
 h (i * 6 + 1) _ (by have := flat_get cdN l i 1 hi (by decide); simpa [cdN] using this),
 h (i * 6 + 2) _ (by have := flat_get cdN l i 2 hi (by decide); simpa [cdN] using this),
 h (i * 6 + 3) _ (by have := flat_get cdN l i 3 hi (by decide); simpa [cdN] using this),
 h (i * 6 + 4) _ (by have := flat_get cdN l i 4 hi (by decide); simpa [cdN] using this),
 h (i * 6 + 5) _ (by have := flat_get cdN l i 5 hi (by decide); simpa [cdN] using this)⟩
theorem kidsOf_any (op : Int) (w : World) : Calls Tryz.prog 118 #[.int .i64 op] w fun e w' => e = .returned (.tuple #[.int .i64 (EX.kl op), .int .i64 (EX.km op)]) ∧ w' = w := by
 by_cases h1 : op = 1
 ·
  subst h1
  go_enter Tryz.func118, Tryz.ntmps118
  go_wp2_with fail
  go_ret2
  exact ⟨rfl, rfl⟩
 have e1 : (op == 1) = false := by simpa using h1
 by_cases h2 : op = 2
 ·
  subst h2
  clear e1 h1
  go_enter Tryz.func118, Tryz.ntmps118
  go_wp2_with fail
  go_ret2
  exact ⟨rfl, rfl⟩
 have e2 : (op == 2) = false := by simpa using h2
 by_cases h3 : op = 3 ∨ op = 4 ∨ op = 18 ∨ op = 19
 ·
  clear e1 e2 h1 h2
  rcases h3 with rfl | rfl | rfl | rfl
  all_goals (
   go_enter Tryz.func118, Tryz.ntmps118
   go_wp2_with fail
   go_ret2
   exact ⟨rfl, rfl⟩)
 by_cases h4 : op = 22 ∨ op = 23
 ·
  clear e1 e2 h1 h2 h3
  rcases h4 with rfl | rfl
  all_goals (
   go_enter Tryz.func118, Tryz.ntmps118
   go_wp2_with fail
   go_ret2
   exact ⟨rfl, rfl⟩)
 by_cases h5 : op = 24 ∨ op = 25
 ·
  clear e1 e2 h1 h2 h3 h4
  rcases h5 with rfl | rfl
  all_goals (
   go_enter Tryz.func118, Tryz.ntmps118
   go_wp2_with fail
   go_ret2
   exact ⟨rfl, rfl⟩)
 have HK : Hid (EX.kl op = 2) := by unfold Hid EX.kl; rw [if_neg (by omega), if_neg (by omega), if_neg (by omega), if_neg (by omega)]
 have HM : Hid (EX.km op = 2) := by unfold Hid EX.km; rw [if_neg (by omega), if_neg (by omega), if_neg (by omega), if_neg (by omega)]
 have e3 : (op == 3) = false := by simp; omega
 have e4 : (op == 4) = false := by simp; omega
 have e5 : (op == 18) = false := by simp; omega
 have e6 : (op == 19) = false := by simp; omega
 have e7 : (op == 22) = false := by simp; omega
 have e8 : (op == 23) = false := by simp; omega
 have e9 : (op == 24) = false := by simp; omega
 have e10 : (op == 25) = false := by simp; omega
 clear h3 h4 h5
 go_enter Tryz.func118, Tryz.ntmps118
 go_wp2_with fail
 go_ret2
 exact ⟨by rw [HK.out, HM.out]; rfl, by first | rfl | trivial⟩
theorem checkLiteral_any (v : VM.Vl) (w : World) : Calls Tryz.prog 119 #[.agg #[.int .i64 v.k, .int .i64 v.n, .string v.s]] w fun e w' => e = .returned (.int .i64 (EX.lchk v)) ∧ Fr w w' := by
 have cv := fun W => check_any v.k v.n v.s W
 have HL : Hid (EX.lchk v = if VM.chk v ≠ 0 then VM.chk v else if v.n < 0 then 3 else 0) := rfl
 generalize EX.lchk v = z at *
 rw [show VM.chk ⟨v.k, v.n, v.s⟩ = VM.chk v from rfl] at cv
 generalize VM.chk v = ch at *
 obtain ⟨vk, vn, vs⟩ := v
 simp only at *
 have HB := hideP (Blk.new w #[.int .i64 vk, .int .i64 vn, .string vs] 56)
 have F0 := hideP ((Fr.refl w).alloc (.cells #[.int .i64 vk, .int .i64 vn, .string vs] 56))
 by_cases h0 : ch = 0
 ·
  subst h0
  replace HL := hideP (HL.out.trans (if_neg (by simp)))
  by_cases h1 : vn < 0
  ·
   have HZ := hideP (HL.out.trans (if_pos h1))
   go_enter Tryz.func119, Tryz.ntmps119
   go_wp2_with fail
   refine (cv _).mono ?_
   rintro _ w1 ⟨rfl, f1⟩
   have q1 := (HB.out.fr f1).cell 1 rfl
   go_wp2_with fail
   go_ret
   exact ⟨ret_int (by rw [HZ.out]; rfl), F0.out.trans f1⟩
  ·
   have HZ := hideP (HL.out.trans (if_neg h1))
   go_enter Tryz.func119, Tryz.ntmps119
   go_wp2_with fail
   refine (cv _).mono ?_
   rintro _ w1 ⟨rfl, f1⟩
   have q1 := (HB.out.fr f1).cell 1 rfl
   go_wp2_with fail
   go_ret
   exact ⟨ret_int (by rw [HZ.out]; rfl), F0.out.trans f1⟩
 ·
  have HZ := hideP (HL.out.trans (if_pos h0))
  have e1 : ((ch : Int) != 0) = true := by simp; omega
  have e2 : ¬ ((ch : Int) = 0) := by omega
  go_enter Tryz.func119, Tryz.ntmps119
  go_wp2_with fail
  refine (cv _).mono ?_
  rintro _ w1 ⟨rfl, f1⟩
  go_wp2_with fail
  go_ret
  exact ⟨ret_int (by rw [HZ.out]), F0.out.trans f1⟩
end Go.Proofs.YtbcfdhimngoplaaGreatDoor
