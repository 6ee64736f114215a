/-
  EvalMore's open order: where a grown row lies, and what holds of the operations that are done.
-/
import Derived.Test.YtjljohmflhmkmaaGreatDoorRgB
import Derived.Test.YtjljohmflhmkmaaGreatDoorEwG
import Derived.Test.YtjljohmflhmkmaaGreatDoorRfV
namespace Go.Proofs.YtjljohmflhmkmaaGreatDoor
open Go.ChangeShapes Go.WideShapes Go.ChangeAt Go.RowKit
set_option linter.unusedVariables false
set_option linter.unusedSimpArgs false
set_option maxRecDepth 100000
set_option maxHeartbeats 2000000
/-- a row that grows stays where it is, or lies anew -/
theorem append_where {P : Program} {w : World} (base : Nat) (t ty e : TypeId) (i : TypeInfo) (z : Value) (size bytes : Nat) (ht : P.underlying t = some (.slice e)) (hi : P.info? e = some i) (hz : i.zero = some z)
    (hsize : i.size = size) (hby : i.bytes = bytes) (g n cap : Nat) (xs : List Value) (hown : w.ownsRow base e size (.slice (some ⟨g, 0, none⟩) n cap) n xs)
    (a : Addr) (m c : Nat) (news : List Value) (hl : news.length = m * size) (hnews : ∀ j u, news[j]? = some u → w.cell? (a.add j) = some u) (h1 : ∀ u ∈ news, u.oneCell' = true)
    (h63 : n + m ≤ maxLen) (hbytes : (n + m) * bytes ≤ 140737488355328) {v' : Value} {w' : World}
    (hr : (Builtin.append_ #[t, t] ty #[.slice (some ⟨g, 0, none⟩) n cap, .slice (some a) m c]).run P w = .ok v' w') : v'.ownBlock = some g ∨ v'.ownBlock = some w.heap.size := by
  subst hsize
  subst hby
  have hsmall : n + m ≤ 9223372036854775807 := by simp only [maxLen] at h63; omega
  rcases hown.2 with ⟨h, _⟩ | ⟨g', cap', cur, e1, hbg, hg, hnc, hcm, hcs, htake⟩
  · cases h
  · cases e1
    by_cases hroom : n + m ≤ cap
    · have hfit : n * i.size + news.length ≤ cur.size := by rw [hl, hcs, ← Nat.add_mul]; exact Nat.mul_le_mul_right _ hroom
      rw [run_append_room (P := P) w t ty e i ht hi g n cap cur hg a m c news hl hnews h1 hroom hfit] at hr
      cases hr
      exact .inl rfl
    · have holds : ∀ j u, xs[j]? = some u → w.cell? ((⟨g, 0, none⟩ : Addr).add j) = some u := hown.cells (g := g) rfl
      rw [run_append_grow (P := P) w t ty e i z ht hi hz ⟨g, 0, none⟩ n cap xs hown.1 holds a m c news hl hnews (by omega) (by omega) (growslice_fits (by omega) hbytes)] at hr
      cases hr
      exact .inr rfl
theorem wp_append_LW {α : Type} (E : Cd α) {w : World} {o : Oper} {a : Act} {K : Act → World → Prop} {Q : Exit → Act → World → Prop} (s x : Operand) (t e : TypeId) (i : TypeInfo) (z : Value) (by_ : Nat)
    (ho : o.op = .call { callee := .builtin .append, args := #[s, x], argTypes := #[t, t] })
    (ht : Tryz.prog.underlying t = some (.slice e)) (hi : Tryz.prog.info? e = some i) (hz : i.zero = some z) (hs1 : i.size = E.k) (hby : i.bytes = by_) (hzs : z.cells.size = E.k)
    (base : Nat) (g n cap0 : Nat) (xs : List α) (hs : a.eval s = .slice (some ⟨g, 0, none⟩) n cap0) (hown : w.ownsRow base e E.k (.slice (some ⟨g, 0, none⟩) n cap0) n (flat E xs))
    (u : Value) (l : List α) (hx : a.eval x = u) (hl : IsL E w u l) (hm : n + l.length ≤ maxLen) (hsz : (n + l.length) * by_ ≤ 140737488355328) (hbase : base ≤ w.heap.size)
    (h : ∀ v' w', w'.ownsRow base e E.k v' (n + l.length) (flat E (xs ++ l)) → w.grownBy w' (some g) → (v'.ownBlock = some g ∨ v'.ownBlock = some w.heap.size) → K (a.put o.dst v') w') : o.wp Tryz.prog a w K Q := by
  obtain ⟨A, cap, rfl, hc, hcs⟩ := hl
  cases A with
  | none =>
    have h0 : l = [] := by
      rcases hcs with h0 | ⟨b, o', hA, _⟩
      · exact h0
      · cases hA
    subst h0
    have hrun := run_append_cap0 (P := Tryz.prog) (w := w) base t o.type e i E.k cap ht hi _ n (flat E xs) hown
    unfold Oper.wp
    simp only [List.length_nil] at hx
    simp [execOp, ho, resolve, invoke, builtin, hs, hx, hrun, Result.andThen]
    exact h _ w (by simpa using hown) (grown_same w _) (.inl rfl)
  | some A =>
    have hnews : ∀ j u, (flat E l)[j]? = some u → w.cell? (A.add j) = some u := by
      rcases hcs with h0 | ⟨b, o', hA, hb, hcc⟩
      · subst h0
        intro j u hu
        simp [flat] at hu
      · simp only [Option.some.injEq] at hA
        subst hA
        intro j u hu
        rw [Addr.add_lit]
        exact hcc j u hu
    obtain ⟨v', w', hr, h2, h3, h4⟩ := run_append_own (P := Tryz.prog) w base t o.type e i z E.k by_ ht hi hz hs1 hby hzs E.pos _ n (flat E xs) hown A l.length cap (flat E l) (flat_len E l) hnews (flat_one E l) hm hsz hbase
    have h5 := append_where base t o.type e i z E.k by_ ht hi hz hs1 hby g n cap0 (flat E xs) hown A l.length cap (flat E l) (flat_len E l) hnews (flat_one E l) hm hsz hr
    unfold Oper.wp execOp
    simp only [ho, resolve, invoke, builtin, Sem.run_bind, Sem.run_pure, Result.andThen_ok, List.map_toArray, List.map_cons, List.map_nil, hs, hx, hr]
    exact h v' w' (by rw [flat_app]; exact h2) h3 h5
theorem Blk.ty {w : World} {g : Nat} {a b : Array Value} {T T' : TypeId} (h : Blk w g a T) (h' : w.heap[g]? = some (.cells b T' (0, 0))) : T = T' := by
  unfold Blk at h
  rw [h] at h'
  injection h' with h'
  injection h'
def updL (L : Nat → Bool) (i : Nat) : Nat → Bool := fun j => if j = i then true else L j
/-- what holds of the operations that are done -/
structure EmJ (W : World) (s0 s1 s2 : Value) (cs : List ByteArray) (l : List VM.Vl) (name : ByteArray) (more : VM.Vl) (rk rn : Int) (rs : ByteArray) (L : Nat → Bool) (v : Nat → Value) (w : World) : Prop where
  fr : Fr W w
  m0 : L 0 = true → v 0 = s0
  b1 : L 1 = true → L 3 = false → ∃ g, v 1 = .slice (some ⟨g, 0, none⟩) 0 0 ∧ W.heap.size ≤ g ∧ Blk w g #[] 9 ∧ (L 5 = true → ∀ g', v 5 = .slice (some ⟨g', 0, none⟩) 1 1 → g ≠ g')
  m2 : L 2 = true → v 2 = s1
  a3 : L 3 = true → L 6 = false → w.ownsRow W.heap.size 9 1 (v 3) cs.length (flat cdB cs)
  m4 : L 4 = true → v 4 = .string name
  b5 : L 5 = true → L 6 = false → ∃ g, v 5 = .slice (some ⟨g, 0, none⟩) 1 1 ∧ Blk w g #[.string name] 9
  a6 : L 6 = true → L 13 = false → w.ownsRow W.heap.size 9 1 (v 6) (cs.length + 1) (flat cdB (cs ++ [name]))
  b7 : L 7 = true → L 9 = false → ∃ g, v 7 = .slice (some ⟨g, 0, none⟩) 0 0 ∧ W.heap.size ≤ g ∧ Blk w g #[] 26 ∧ (L 11 = true → ∀ g', v 11 = .slice (some ⟨g', 0, none⟩) 1 1 → g ≠ g') ∧ (L 17 = true → ∀ g', v 17 = .pointer (some ⟨g', 0, none⟩) → g ≠ g')
  m8 : L 8 = true → v 8 = s2
  a9 : L 9 = true → L 12 = false → w.ownsRow W.heap.size 26 3 (v 9) l.length (flat cdV l) ∧ (L 17 = true → ∀ g', v 17 = .pointer (some ⟨g', 0, none⟩) → (v 9).ownBlock ≠ some g')
  m10 : L 10 = true → v 10 = .agg #[.int .i64 more.k, .int .i64 more.n, .string more.s]
  b11 : L 11 = true → L 12 = false → ∃ g, v 11 = .slice (some ⟨g, 0, none⟩) 1 1 ∧ Blk w g #[.int .i64 more.k, .int .i64 more.n, .string more.s] 26
  a12 : L 12 = true → L 13 = false → w.ownsRow W.heap.size 26 3 (v 12) (l.length + 1) (flat cdV (l ++ [more]))
  r13 : L 13 = true → v 13 = .tuple #[.agg #[.int .i64 rk, .int .i64 rn, .string rs], .int .i64 0]
  r14 : L 14 = true → v 14 = .tuple #[.agg #[.int .i64 rk, .int .i64 rn, .string rs], .int .i64 0]
  r15 : L 15 = true → v 15 = .agg #[.int .i64 rk, .int .i64 rn, .string rs]
  r16 : L 16 = true → v 16 = .int .i64 0
  b17 : L 17 = true → ∃ g, v 17 = .pointer (some ⟨g, 0, none⟩) ∧ W.heap.size ≤ g ∧ (L 18 = false → Blk w g #[.int .i64 0, .int .i64 0, .string ⟨#[]⟩] 26) ∧ (L 18 = true → Blk w g #[.int .i64 rk, .int .i64 rn, .string rs] 26)
  r19 : L 19 = true → v 19 = .int .i64 0
  o63 : L 6 = true → L 3 = true
  o96 : L 9 = true → L 6 = true
  o129 : L 12 = true → L 9 = true
  o1312 : L 13 = true → L 12 = true
  o1817 : L 18 = true → L 17 = true
variable {W : World} {s0 s1 s2 : Value} {cs : List ByteArray} {l : List VM.Vl} {name : ByteArray} {more : VM.Vl} {rk rn : Int} {rs : ByteArray} {L : Nat → Bool} {v : Nat → Value} {w : World}
theorem EmJ.move {w' : World} (J : EmJ W s0 s1 s2 cs l name more rk rn rs L v w) (f : Fr w w') : EmJ W s0 s1 s2 cs l name more rk rn rs L v w' :=
  { J with
    fr := J.fr.trans f
    b1 := fun h1 h2 => by obtain ⟨g, a, b, c, d⟩ := J.b1 h1 h2; exact ⟨g, a, b, c.fr f, d⟩
    a3 := fun h1 h2 => own_fr (J.a3 h1 h2) f
    b5 := fun h1 h2 => by obtain ⟨g, a, b⟩ := J.b5 h1 h2; exact ⟨g, a, b.fr f⟩
    a6 := fun h1 h2 => own_fr (J.a6 h1 h2) f
    b7 := fun h1 h2 => by obtain ⟨g, a, b, c, d⟩ := J.b7 h1 h2; exact ⟨g, a, b, c.fr f, d⟩
    a9 := fun h1 h2 => ⟨own_fr (J.a9 h1 h2).1 f, (J.a9 h1 h2).2⟩
    b11 := fun h1 h2 => by obtain ⟨g, a, b⟩ := J.b11 h1 h2; exact ⟨g, a, b.fr f⟩
    a12 := fun h1 h2 => own_fr (J.a12 h1 h2) f
    b17 := fun h1 => by obtain ⟨g, a, b, c, d⟩ := J.b17 h1; exact ⟨g, a, b, fun h => (c h).fr f, fun h => (d h).fr f⟩ }
end Go.Proofs.YtjljohmflhmkmaaGreatDoor
