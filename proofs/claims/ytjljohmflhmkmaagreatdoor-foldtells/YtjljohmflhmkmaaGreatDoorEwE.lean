/-
  A list's tree as a plain function; Push by it; the small functions of the statements on expressions.
-/
import Derived.Test.YtjljohmflhmkmaaGreatDoorEwC
import Derived.Test.YtjljohmflhmkmaaGreatDoorEwD
import Derived.Test.YtjljohmflhmkmaaGreatDoorGpF
namespace Go.Proofs.YtjljohmflhmkmaaGreatDoor
open Go.ChangeShapes Go.WideShapes Go.ChangeAt Go.RowKit
set_option linter.unusedVariables false
set_option linter.unusedSimpArgs false
set_option maxRecDepth 100000
set_option maxHeartbeats 2000000

namespace EX
def jF : List F → F
  | [] => .nil
  | t :: r => F.app t (jF r)
def tOf (n : Nd) (ks : List F) : Except Nat F := .ok (.nd n (jF ks) .nil)
def sg : F → List F
  | .nil => []
  | .nd n k s => .nd n k .nil :: sg s
theorem jF_sg : ∀ (t : F), jF (sg t) = t
  | .nil => rfl
  | .nd n k s => by simp only [sg, jF, F.app, jF_sg s]
theorem vals_tOf : ∀ (t : F), vals tOf t = .ok (sg t)
  | .nil => rfl
  | .nd n k s => by
    have h := vals_nd (f := tOf) (n := n) (x := .nd n k .nil) (vals_tOf k) (by unfold tOf; rw [jF_sg]) (vals_tOf s)
    exact h
/-- the tree of an expression -/
def tre (e : List Nd) : F := match up tOf e [] with
  | .ok (t :: _) => t
  | _ => .nil
theorem tre_of {n : Nd} {k : F} (h : (F.nd n k .nil).right) : tre (k.flat ++ [n]) = .nd n k .nil := by
  have e : (F.nd n k .nil).flat = k.flat ++ [n] := rfl
  unfold tre
  rw [← e, up_vals h, vals_tOf]
  rfl
end EX
namespace EV
/-- a pushed expression -/
def psh (e : List EX.Nd) : List EX.Nd := (pf false (EX.tre e)).flat
end EV
/-- what Push answers -/
def PsAns (e : List EX.Nd) (B : Nat) (r : Ending) (w' : World) : Prop :=
  (EX.ck e ≠ 0 ∧ r = .returned (.tuple #[.slice none 0 0, .int .i64 (EX.ck e : Int)])) ∨
  (EX.ck e = 0 ∧ EX.ck (EV.psh e) ≠ 0 ∧ r = .returned (.tuple #[.slice none 0 0, .int .i64 (EX.ck (EV.psh e) : Int)])) ∨
  (EX.ck e = 0 ∧ EX.ck (EV.psh e) = 0 ∧ ∃ u, r = .returned (.tuple #[u, .int .i64 0]) ∧ w'.ownsRow B 38 6 u (EV.psh e).length (flat cdN (EV.psh e)))
theorem psh_any (v : Value) (e : List EX.Nd) (w : World) (h : IsL cdN w v e) (hn : ∀ n ∈ e, n.nm.size ≤ 140737488355327) (hl : e.length ≤ 9223372036854775806) (hTn : Tn w) :
    Calls Tryz.prog 27 #[v] w fun r w' => PsAns e w.heap.size r w' ∧ Fr w w' := by
  refine (push_any v e w h hn hl hTn).mono ?_
  rintro r w' ⟨h1, h2⟩
  refine ⟨?_, h2⟩
  rcases h1 with h1 | ⟨h3, n, k, rfl, hg, h4⟩
  · exact .inl h1
  · have ht : EV.psh (k.flat ++ [n]) = (EV.pf false (.nd n k .nil)).flat := by unfold EV.psh; rw [EX.tre_of hg.right]
    unfold PsAns
    rw [ht]
    rcases h4 with h4 | h4
    · exact .inr (.inl ⟨h3, h4⟩)
    · exact .inr (.inr ⟨h3, h4⟩)
theorem lit_many {α : Type} (E : Cd α) (W : World) (l : List α) (T : TypeId) : IsL E (W.alloc (.cells (flat E l).toArray T)) (.slice (some ⟨W.heap.size, 0, none⟩) l.length l.length) l := by
  refine ⟨_, _, rfl, Nat.le_refl _, Or.inr ⟨W.heap.size, 0, rfl, by simp, ?_⟩⟩
  intro j u hu
  rw [Nat.zero_add]
  refine (Blk.new W (flat E l).toArray T).cell j ?_
  simpa using hu
theorem vInt_any (n : Int) (w : World) : Calls Tryz.prog 37 #[.int .i64 n] w fun e w' => e = .returned (.agg #[.int .i64 1, .int .i64 n, .string ⟨#[]⟩]) ∧ Fr w w' := by
  go_enter Tryz.func37, Tryz.ntmps37
  go_wp2
  refine bodyPost_ret (v := .agg #[.int .i64 1, .int .i64 n, .string ⟨#[]⟩]) (by simp [results, Tryz.results37, go_sem]) rfl ?_
  exact ⟨rfl, (Fr.refl _).alloc _⟩
theorem vText_any (s : ByteArray) (w : World) : Calls Tryz.prog 38 #[.string s] w fun e w' => e = .returned (.agg #[.int .i64 2, .int .i64 0, .string s]) ∧ Fr w w' := by
  go_enter Tryz.func38, Tryz.ntmps38
  go_wp2
  refine bodyPost_ret (v := .agg #[.int .i64 2, .int .i64 0, .string s]) (by simp [results, Tryz.results38, go_sem]) rfl ?_
  exact ⟨rfl, (Fr.refl _).alloc _⟩
theorem nOp_any (op kids : Int) (w : World) : Calls Tryz.prog 29 #[.int .i64 op, .int .i64 kids] w fun e w' => e = .returned (.agg #[.int .i64 op, .int .i64 kids, .int .i64 0, .int .i64 0, .string ⟨#[]⟩, .string ⟨#[]⟩]) ∧ Fr w w' := by
  go_enter Tryz.func29, Tryz.ntmps29
  go_wp2
  refine bodyPost_ret (v := .agg #[.int .i64 op, .int .i64 kids, .int .i64 0, .int .i64 0, .string ⟨#[]⟩, .string ⟨#[]⟩]) (by simp [results, Tryz.results29, go_sem]) rfl ?_
  exact ⟨rfl, (Fr.refl _).alloc _⟩
theorem nCol_any (s : ByteArray) (w : World) : Calls Tryz.prog 20 #[.string s] w fun e w' => e = .returned (.agg #[.int .i64 2, .int .i64 0, .int .i64 0, .int .i64 0, .string ⟨#[]⟩, .string s]) ∧ Fr w w' := by
  go_enter Tryz.func20, Tryz.ntmps20
  go_wp2
  refine bodyPost_ret (v := .agg #[.int .i64 2, .int .i64 0, .int .i64 0, .int .i64 0, .string ⟨#[]⟩, .string s]) (by simp [results, Tryz.results20, go_sem]) rfl ?_
  exact ⟨rfl, (Fr.refl _).alloc _⟩
theorem nLit_any (k n : Int) (s : ByteArray) (w : World) : Calls Tryz.prog 21 #[.agg #[.int .i64 k, .int .i64 n, .string s]] w fun e w' => e = .returned (.agg #[.int .i64 1, .int .i64 0, .int .i64 k, .int .i64 n, .string s, .string ⟨#[]⟩]) ∧ Fr w w' := by
  go_enter Tryz.func21, Tryz.ntmps21
  go_wp2
  refine bodyPost_ret (v := .agg #[.int .i64 1, .int .i64 0, .int .i64 k, .int .i64 n, .string s, .string ⟨#[]⟩]) (by simp [results, Tryz.results21, go_sem]) rfl ?_
  exact ⟨rfl, ((Fr.refl _).alloc _).alloc _⟩
theorem nodes_any (a : Option Addr) (n c : Nat) (w : World) : Calls Tryz.prog 36 #[.slice a n c] w fun e w' => e = .returned (.slice a n c) ∧ w' = w := by
  go_enter Tryz.func36, Tryz.ntmps36
  go_wp2
  go_ret
  exact ⟨rfl, rfl⟩
end Go.Proofs.YtjljohmflhmkmaaGreatDoor
