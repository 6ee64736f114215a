/-
  EvalMore's open order: what each operation does to what holds.
-/
import Derived.Test.YtjljohmflhmkmaaGreatDoorEmA
namespace Go.Proofs.YtjljohmflhmkmaaGreatDoor
open Go.ChangeShapes Go.WideShapes Go.ChangeAt Go.RowKit
set_option linter.unusedVariables false
set_option linter.unusedSimpArgs false
set_option maxRecDepth 100000
set_option maxHeartbeats 2000000
variable {W : World} {s0 s1 s2 : Value} {cs : List ByteArray} {l : List VM.Vl} {name : ByteArray} {more : VM.Vl} {rk rn : Int} {rs : ByteArray} {L : Nat → Bool} {v : Nat → Value} {w : World}
theorem bf {b : Bool} (h1 : b = true) (h2 : b = false) : False := by rw [h1] at h2; cases h2
theorem bne {b : Bool} (h : b = true → False) : b = false := by cases b; rfl; exact absurd rfl h

theorem EmJ.st0 (J : EmJ W s0 s1 s2 cs l name more rk rn rs L v w) : EmJ W s0 s1 s2 cs l name more rk rn rs (updL L 0) (upd v 0 (s0)) w :=
  ⟨J.fr, fun _ => rfl, J.b1, J.m2, J.a3, J.m4, J.b5, J.a6, J.b7, J.m8, J.a9, J.m10, J.b11, J.a12, J.r13, J.r14, J.r15, J.r16, J.b17, J.r19, J.o63, J.o96, J.o129, J.o1312, J.o1817⟩
theorem EmJ.st2 (J : EmJ W s0 s1 s2 cs l name more rk rn rs L v w) : EmJ W s0 s1 s2 cs l name more rk rn rs (updL L 2) (upd v 2 (s1)) w :=
  ⟨J.fr, J.m0, J.b1, fun _ => rfl, J.a3, J.m4, J.b5, J.a6, J.b7, J.m8, J.a9, J.m10, J.b11, J.a12, J.r13, J.r14, J.r15, J.r16, J.b17, J.r19, J.o63, J.o96, J.o129, J.o1312, J.o1817⟩
theorem EmJ.st4 (J : EmJ W s0 s1 s2 cs l name more rk rn rs L v w) : EmJ W s0 s1 s2 cs l name more rk rn rs (updL L 4) (upd v 4 (.string name)) w :=
  ⟨J.fr, J.m0, J.b1, J.m2, J.a3, fun _ => rfl, J.b5, J.a6, J.b7, J.m8, J.a9, J.m10, J.b11, J.a12, J.r13, J.r14, J.r15, J.r16, J.b17, J.r19, J.o63, J.o96, J.o129, J.o1312, J.o1817⟩
theorem EmJ.st8 (J : EmJ W s0 s1 s2 cs l name more rk rn rs L v w) : EmJ W s0 s1 s2 cs l name more rk rn rs (updL L 8) (upd v 8 (s2)) w :=
  ⟨J.fr, J.m0, J.b1, J.m2, J.a3, J.m4, J.b5, J.a6, J.b7, fun _ => rfl, J.a9, J.m10, J.b11, J.a12, J.r13, J.r14, J.r15, J.r16, J.b17, J.r19, J.o63, J.o96, J.o129, J.o1312, J.o1817⟩
theorem EmJ.st10 (J : EmJ W s0 s1 s2 cs l name more rk rn rs L v w) : EmJ W s0 s1 s2 cs l name more rk rn rs (updL L 10) (upd v 10 (.agg #[.int .i64 more.k, .int .i64 more.n, .string more.s])) w :=
  ⟨J.fr, J.m0, J.b1, J.m2, J.a3, J.m4, J.b5, J.a6, J.b7, J.m8, J.a9, fun _ => rfl, J.b11, J.a12, J.r13, J.r14, J.r15, J.r16, J.b17, J.r19, J.o63, J.o96, J.o129, J.o1312, J.o1817⟩
theorem EmJ.st14 (J : EmJ W s0 s1 s2 cs l name more rk rn rs L v w) : EmJ W s0 s1 s2 cs l name more rk rn rs (updL L 14) (upd v 14 (.tuple #[.agg #[.int .i64 rk, .int .i64 rn, .string rs], .int .i64 0])) w :=
  ⟨J.fr, J.m0, J.b1, J.m2, J.a3, J.m4, J.b5, J.a6, J.b7, J.m8, J.a9, J.m10, J.b11, J.a12, J.r13, fun _ => rfl, J.r15, J.r16, J.b17, J.r19, J.o63, J.o96, J.o129, J.o1312, J.o1817⟩
theorem EmJ.st15 (J : EmJ W s0 s1 s2 cs l name more rk rn rs L v w) : EmJ W s0 s1 s2 cs l name more rk rn rs (updL L 15) (upd v 15 (.agg #[.int .i64 rk, .int .i64 rn, .string rs])) w :=
  ⟨J.fr, J.m0, J.b1, J.m2, J.a3, J.m4, J.b5, J.a6, J.b7, J.m8, J.a9, J.m10, J.b11, J.a12, J.r13, J.r14, fun _ => rfl, J.r16, J.b17, J.r19, J.o63, J.o96, J.o129, J.o1312, J.o1817⟩
theorem EmJ.st16 (J : EmJ W s0 s1 s2 cs l name more rk rn rs L v w) : EmJ W s0 s1 s2 cs l name more rk rn rs (updL L 16) (upd v 16 (.int .i64 0)) w :=
  ⟨J.fr, J.m0, J.b1, J.m2, J.a3, J.m4, J.b5, J.a6, J.b7, J.m8, J.a9, J.m10, J.b11, J.a12, J.r13, J.r14, J.r15, fun _ => rfl, J.b17, J.r19, J.o63, J.o96, J.o129, J.o1312, J.o1817⟩
theorem EmJ.st19 (J : EmJ W s0 s1 s2 cs l name more rk rn rs L v w) : EmJ W s0 s1 s2 cs l name more rk rn rs (updL L 19) (upd v 19 (.int .i64 0)) w :=
  ⟨J.fr, J.m0, J.b1, J.m2, J.a3, J.m4, J.b5, J.a6, J.b7, J.m8, J.a9, J.m10, J.b11, J.a12, J.r13, J.r14, J.r15, J.r16, J.b17, fun _ => rfl, J.o63, J.o96, J.o129, J.o1312, J.o1817⟩
theorem EmJ.st1 (J0 : EmJ W s0 s1 s2 cs l name more rk rn rs L v w) : EmJ W s0 s1 s2 cs l name more rk rn rs (updL L 1) (upd v 1 (.slice (some ⟨w.heap.size, 0, none⟩) 0 0)) (w.alloc (.cells #[] 9)) := by
  have J := J0.move ((Fr.refl w).alloc (.cells #[] 9))
  exact ⟨J.fr, J.m0, fun _ h3 => ⟨w.heap.size, rfl, J0.fr.size, Blk.new w _ _, fun h5 g' hg' => by
    obtain ⟨g, e, hb⟩ := J0.b5 h5 (bne fun h6 => bf (J0.o63 h6) h3)
    have e2 : v 5 = .slice (some ⟨g', 0, none⟩) 1 1 := hg'
    rw [e] at e2
    injection e2 with e2
    injection e2 with e2
    injection e2 with e2
    subst e2
    exact Nat.ne_of_gt hb.lt⟩, J.m2, J.a3, J.m4, J.b5, J.a6, J.b7, J.m8, J.a9, J.m10, J.b11, J.a12, J.r13, J.r14, J.r15, J.r16, J.b17, J.r19, J.o63, J.o96, J.o129, J.o1312, J.o1817⟩
theorem EmJ.st5 (J0 : EmJ W s0 s1 s2 cs l name more rk rn rs L v w) : EmJ W s0 s1 s2 cs l name more rk rn rs (updL L 5) (upd v 5 (.slice (some ⟨w.heap.size, 0, none⟩) 1 1)) (w.alloc (.cells #[.string name] 9)) := by
  have J := J0.move ((Fr.refl w).alloc (.cells #[.string name] 9))
  exact ⟨J.fr, J.m0, fun h1 h3 => by
    obtain ⟨g, a, b, c, d⟩ := J0.b1 h1 h3
    refine ⟨g, a, b, c.old _, fun _ g' hg' => ?_⟩
    have e2 : Value.slice (some ⟨w.heap.size, 0, none⟩) 1 1 = .slice (some ⟨g', 0, none⟩) 1 1 := hg'
    injection e2 with e2
    injection e2 with e2
    injection e2 with e2
    subst e2
    exact Nat.ne_of_lt c.lt, J.m2, J.a3, J.m4, fun _ _ => ⟨w.heap.size, rfl, Blk.new w _ _⟩, J.a6, J.b7, J.m8, J.a9, J.m10, J.b11, J.a12, J.r13, J.r14, J.r15, J.r16, J.b17, J.r19, J.o63, J.o96, J.o129, J.o1312, J.o1817⟩
theorem EmJ.lt17 (J : EmJ W s0 s1 s2 cs l name more rk rn rs L v w) (h : L 17 = true) {g' : Nat} (hg : v 17 = .pointer (some ⟨g', 0, none⟩)) : g' < w.heap.size := by
  obtain ⟨g, a, b, c, d⟩ := J.b17 h
  rw [a] at hg
  injection hg with hg
  injection hg with hg
  injection hg with hg
  subst hg
  cases hq : L 18 with
  | false => exact (c hq).lt
  | true => exact (d hq).lt
theorem EmJ.st7 (J0 : EmJ W s0 s1 s2 cs l name more rk rn rs L v w) : EmJ W s0 s1 s2 cs l name more rk rn rs (updL L 7) (upd v 7 (.slice (some ⟨w.heap.size, 0, none⟩) 0 0)) (w.alloc (.cells #[] 26)) := by
  have J := J0.move ((Fr.refl w).alloc (.cells #[] 26))
  exact ⟨J.fr, J.m0, J.b1, J.m2, J.a3, J.m4, J.b5, J.a6, fun _ h9 => ⟨w.heap.size, rfl, J0.fr.size, Blk.new w _ _, fun h5 g' hg' => by
    obtain ⟨g, e, hb⟩ := J0.b11 h5 (bne fun h6 => bf (J0.o129 h6) h9)
    have e2 : v 11 = .slice (some ⟨g', 0, none⟩) 1 1 := hg'
    rw [e] at e2
    injection e2 with e2
    injection e2 with e2
    injection e2 with e2
    subst e2
    exact Nat.ne_of_gt hb.lt, fun h17 g' hg' => Nat.ne_of_gt (J0.lt17 h17 hg')⟩, J.m8, J.a9, J.m10, J.b11, J.a12, J.r13, J.r14, J.r15, J.r16, J.b17, J.r19, J.o63, J.o96, J.o129, J.o1312, J.o1817⟩
theorem EmJ.st11 (J0 : EmJ W s0 s1 s2 cs l name more rk rn rs L v w) : EmJ W s0 s1 s2 cs l name more rk rn rs (updL L 11) (upd v 11 (.slice (some ⟨w.heap.size, 0, none⟩) 1 1)) (w.alloc (.cells #[.int .i64 more.k, .int .i64 more.n, .string more.s] 26)) := by
  have J := J0.move ((Fr.refl w).alloc (.cells #[.int .i64 more.k, .int .i64 more.n, .string more.s] 26))
  exact ⟨J.fr, J.m0, J.b1, J.m2, J.a3, J.m4, J.b5, J.a6, fun h1 h3 => by
    obtain ⟨g, a, b, c, d1, d2⟩ := J0.b7 h1 h3
    refine ⟨g, a, b, c.old _, fun _ g' hg' => ?_, d2⟩
    have e2 : Value.slice (some ⟨w.heap.size, 0, none⟩) 1 1 = .slice (some ⟨g', 0, none⟩) 1 1 := hg'
    injection e2 with e2
    injection e2 with e2
    injection e2 with e2
    subst e2
    exact Nat.ne_of_lt c.lt, J.m8, J.a9, J.m10, fun _ _ => ⟨w.heap.size, rfl, Blk.new w _ _⟩, J.a12, J.r13, J.r14, J.r15, J.r16, J.b17, J.r19, J.o63, J.o96, J.o129, J.o1312, J.o1817⟩
theorem EmJ.st17 (J0 : EmJ W s0 s1 s2 cs l name more rk rn rs L v w) (hn : L 17 = false) : EmJ W s0 s1 s2 cs l name more rk rn rs (updL L 17) (upd v 17 (.pointer (some ⟨w.heap.size, 0, none⟩))) (w.alloc (.cells #[.int .i64 0, .int .i64 0, .string ⟨#[]⟩] 26)) := by
  have J := J0.move ((Fr.refl w).alloc (.cells #[.int .i64 0, .int .i64 0, .string ⟨#[]⟩] 26))
  have h18 : L 18 = false := bne fun h => bf (J0.o1817 h) hn
  have key : ∀ g', Value.pointer (some ⟨w.heap.size, 0, none⟩) = .pointer (some ⟨g', 0, none⟩) → g' = w.heap.size := by
    intro g' e2
    injection e2 with e2
    injection e2 with e2
    injection e2 with e2
    exact e2.symm
  exact ⟨J.fr, J.m0, J.b1, J.m2, J.a3, J.m4, J.b5, J.a6, fun h1 h3 => by
    obtain ⟨g, a, b, c, d1, d2⟩ := J0.b7 h1 h3
    refine ⟨g, a, b, c.old _, d1, fun _ g' hg' => ?_⟩
    rw [key g' hg']
    exact Nat.ne_of_lt c.lt, J.m8, fun h1 h3 => by
    obtain ⟨a, b⟩ := J0.a9 h1 h3
    refine ⟨own_fr a ((Fr.refl w).alloc _), fun _ g' hg' hk => ?_⟩
    rw [key g' hg'] at hk
    exact absurd (a.lt _ hk).2 (Nat.lt_irrefl _), J.m10, J.b11, J.a12, J.r13, J.r14, J.r15, J.r16, fun _ => ⟨w.heap.size, rfl, J0.fr.size, fun _ => Blk.new w _ _, fun h => (bf h h18).elim⟩, J.r19, J.o63, J.o96, J.o129, J.o1312, fun h => rfl⟩
theorem EmJ.st3 (J : EmJ W s0 s1 s2 cs l name more rk rn rs L v w) (hn : L 3 = false) (g : Nat) (hg : W.heap.size ≤ g) (hb : Blk w g #[] 9) (hne : L 5 = true → ∀ g', v 5 = .slice (some ⟨g', 0, none⟩) 1 1 → g ≠ g') {x : Value} {w' : World}
    (own : w'.ownsRow W.heap.size 9 1 x cs.length (flat cdB cs)) (gr : w.grownBy w' (some g)) : EmJ W s0 s1 s2 cs l name more rk rn rs (updL L 3) (upd v 3 x) w' := by
  have h6 : L 6 = false := bne fun h => bf (J.o63 h) hn
  have h9 : L 9 = false := bne fun h => bf (J.o96 h) h6
  have h12 : L 12 = false := bne fun h => bf (J.o129 h) h9
  have tv : ∀ {b : Nat} {arr : Array Value}, Blk w b arr 26 → Blk w' b arr 26 := fun hq => hq.grown gr (fun e => by
    injection e with e
    subst e
    exact absurd (Blk.ty hq hb) (by decide))
  exact ⟨Below.grown J.fr gr (by first | exact J.fr.size | exact Nat.le_refl _) (fun k hk => by injection hk with hk; subst hk; exact hg), J.m0, fun h1 h3 => (bf rfl h3).elim, J.m2, fun _ _ => own, J.m4, fun h1 h3 => by
    obtain ⟨g5, e, hq⟩ := J.b5 h1 h3
    exact ⟨g5, e, hq.grown gr (fun e2 => by injection e2 with e2; exact hne h1 g5 e e2)⟩, fun h1 _ => (bf h1 h6).elim, fun h1 h3 => by
    obtain ⟨g7, a, b, c, d⟩ := J.b7 h1 h3
    exact ⟨g7, a, b, tv c, d⟩, J.m8, fun h1 _ => (bf h1 h9).elim, J.m10, fun h1 h3 => by
    obtain ⟨g7, a, c⟩ := J.b11 h1 h3
    exact ⟨g7, a, tv c⟩, fun h1 _ => (bf h1 h12).elim, J.r13, J.r14, J.r15, J.r16, fun h1 => by
    obtain ⟨g7, a, b, c, d⟩ := J.b17 h1
    exact ⟨g7, a, b, fun h => tv (c h), fun h => tv (d h)⟩, J.r19, fun _ => rfl, J.o96, J.o129, J.o1312, J.o1817⟩
theorem EmJ.st6 (J : EmJ W s0 s1 s2 cs l name more rk rn rs L v w) (hn : L 6 = false) (h3 : L 3 = true) {x : Value} {w' : World}
    (own : w'.ownsRow W.heap.size 9 1 x (cs.length + 1) (flat cdB (cs ++ [name]))) (gr : w.grownBy w' (v 3).ownBlock) : EmJ W s0 s1 s2 cs l name more rk rn rs (updL L 6) (upd v 6 x) w' := by
  have h9 : L 9 = false := bne fun h => bf (J.o96 h) hn
  have h12 : L 12 = false := bne fun h => bf (J.o129 h) h9
  have h13 : L 13 = false := bne fun h => bf (J.o1312 h) h12
  have ho := J.a3 h3 hn
  have tv : ∀ {b : Nat} {arr : Array Value}, Blk w b arr 26 → Blk w' b arr 26 := fun hq => hq.grown gr (fun e => by
    obtain ⟨cur, hc⟩ := own_block ho _ e
    exact absurd (Blk.ty hq hc) (by decide))
  exact ⟨Below.grown J.fr gr (by first | exact J.fr.size | exact Nat.le_refl _) (own_base ho), J.m0, fun h1 h4 => (bf h3 h4).elim, J.m2, fun _ h4 => (bf rfl h4).elim, J.m4, fun _ h4 => (bf rfl h4).elim, fun _ _ => own, fun h1 h3 => by
    obtain ⟨g7, a, b, c, d⟩ := J.b7 h1 h3
    exact ⟨g7, a, b, tv c, d⟩, J.m8, fun h1 _ => (bf h1 h9).elim, J.m10, fun h1 h3 => by
    obtain ⟨g7, a, c⟩ := J.b11 h1 h3
    exact ⟨g7, a, tv c⟩, fun h1 _ => (bf h1 h12).elim, J.r13, J.r14, J.r15, J.r16, fun h1 => by
    obtain ⟨g7, a, b, c, d⟩ := J.b17 h1
    exact ⟨g7, a, b, fun h => tv (c h), fun h => tv (d h)⟩, J.r19, fun _ => h3, fun _ => rfl, J.o129, J.o1312, J.o1817⟩
theorem EmJ.st9 (J : EmJ W s0 s1 s2 cs l name more rk rn rs L v w) (hn : L 9 = false) (h6 : L 6 = true) (h7 : L 7 = true) (g : Nat) (hv : v 7 = .slice (some ⟨g, 0, none⟩) 0 0) {x : Value} {w' : World}
    (own : w'.ownsRow W.heap.size 26 3 x l.length (flat cdV l)) (gr : w.grownBy w' (some g)) (hx : x.ownBlock = some g ∨ x.ownBlock = some w.heap.size) : EmJ W s0 s1 s2 cs l name more rk rn rs (updL L 9) (upd v 9 x) w' := by
  have h12 : L 12 = false := bne fun h => bf (J.o129 h) hn
  have h13 : L 13 = false := bne fun h => bf (J.o1312 h) h12
  obtain ⟨g0, e0, hg, hb, hne, hne17⟩ := J.b7 h7 hn
  rw [hv] at e0
  injection e0 with e0
  injection e0 with e0
  injection e0 with e0
  subst e0
  have ho := J.a6 h6 h13
  exact ⟨Below.grown J.fr gr (by first | exact J.fr.size | exact Nat.le_refl _) (fun k hk => by injection hk with hk; subst hk; exact hg), J.m0, fun h1 h4 => (bf (J.o63 h6) h4).elim, J.m2, fun _ h4 => (bf h6 h4).elim, J.m4, fun _ h4 => (bf h6 h4).elim, fun _ _ => ho.kept gr (by
    cases hk : (v 6).ownBlock with
    | none => exact .inl rfl
    | some k =>
      right
      intro e
      injection e with e
      subst e
      obtain ⟨cur, hc⟩ := own_block ho _ hk
      exact absurd (Blk.ty hb hc) (by decide)), fun _ h4 => (bf rfl h4).elim, J.m8, fun _ _ => ⟨own, fun h17 g' hg' hk => by
    rcases hx with e | e
    · have e2 : x.ownBlock = some g' := hk
      rw [e] at e2
      injection e2 with e2
      exact hne17 h17 g' hg' e2
    · have e2 : x.ownBlock = some g' := hk
      rw [e] at e2
      injection e2 with e2
      have := J.lt17 h17 hg'
      omega⟩, J.m10, fun h1 h3 => by
    obtain ⟨g5, e, hq⟩ := J.b11 h1 h3
    exact ⟨g5, e, hq.grown gr (fun e2 => by injection e2 with e2; exact hne h1 g5 e e2)⟩, fun h1 _ => (bf h1 h12).elim, J.r13, J.r14, J.r15, J.r16, fun h1 => by
    obtain ⟨g5, a, b, c, d⟩ := J.b17 h1
    exact ⟨g5, a, b, fun h => (c h).grown gr (fun e2 => by injection e2 with e2; exact hne17 h1 g5 a e2), fun h => (d h).grown gr (fun e2 => by injection e2 with e2; exact hne17 h1 g5 a e2)⟩, J.r19, J.o63, fun _ => h6, fun _ => rfl, J.o1312, J.o1817⟩
theorem EmJ.st12 (J : EmJ W s0 s1 s2 cs l name more rk rn rs L v w) (hn : L 12 = false) (h9 : L 9 = true) {x : Value} {w' : World}
    (own : w'.ownsRow W.heap.size 26 3 x (l.length + 1) (flat cdV (l ++ [more]))) (gr : w.grownBy w' (v 9).ownBlock) : EmJ W s0 s1 s2 cs l name more rk rn rs (updL L 12) (upd v 12 x) w' := by
  have h13 : L 13 = false := bne fun h => bf (J.o1312 h) hn
  have h6 := J.o96 h9
  have ho := J.a6 h6 h13
  obtain ⟨ho9, hne17⟩ := J.a9 h9 hn
  exact ⟨Below.grown J.fr gr (by first | exact J.fr.size | exact Nat.le_refl _) (own_base ho9), J.m0, fun h1 h4 => (bf (J.o63 h6) h4).elim, J.m2, fun _ h4 => (bf h6 h4).elim, J.m4, fun _ h4 => (bf h6 h4).elim, fun _ _ => ho.kept gr (by
    cases hk : (v 6).ownBlock with
    | none => exact .inl rfl
    | some k =>
      right
      intro e
      obtain ⟨cur, hc⟩ := own_block ho _ hk
      obtain ⟨cur', hc'⟩ := own_block ho9 _ e.symm
      rw [hc] at hc'
      injection hc' with hc'
      injection hc' with _ hc'
      exact absurd hc' (by decide)), fun _ h4 => (bf h9 h4).elim, J.m8, fun _ h4 => (bf rfl h4).elim, J.m10, fun _ h4 => (bf rfl h4).elim, fun _ _ => own, J.r13, J.r14, J.r15, J.r16, fun h1 => by
    obtain ⟨g5, a, b, c, d⟩ := J.b17 h1
    exact ⟨g5, a, b, fun h => (c h).grown gr (hne17 h1 g5 a), fun h => (d h).grown gr (hne17 h1 g5 a)⟩, J.r19, J.o63, J.o96, fun _ => h9, fun _ => rfl, J.o1817⟩
theorem EmJ.st13 (J0 : EmJ W s0 s1 s2 cs l name more rk rn rs L v w) (h12 : L 12 = true) {w' : World} (f : Fr w w') : EmJ W s0 s1 s2 cs l name more rk rn rs (updL L 13) (upd v 13 (.tuple #[.agg #[.int .i64 rk, .int .i64 rn, .string rs], .int .i64 0])) w' := by
  have J := J0.move f
  exact ⟨J.fr, J.m0, J.b1, J.m2, J.a3, J.m4, J.b5, fun _ h4 => (bf rfl h4).elim, J.b7, J.m8, J.a9, J.m10, J.b11, fun _ h4 => (bf rfl h4).elim, fun _ => rfl, J.r14, J.r15, J.r16, J.b17, J.r19, J.o63, J.o96, J.o129, fun _ => h12, J.o1817⟩
theorem EmJ.st18 (J : EmJ W s0 s1 s2 cs l name more rk rn rs L v w) (h13 : L 13 = true) (h17 : L 17 = true) (hn : L 18 = false) (g : Nat) (hv : v 17 = .pointer (some ⟨g, 0, none⟩)) (x : Value) : EmJ W s0 s1 s2 cs l name more rk rn rs (updL L 18) (upd v 18 x) (put3 w g (.int .i64 rk) (.int .i64 rn) (.string rs)) := by
  have h12 := J.o1312 h13
  have h9 := J.o129 h12
  have h6 := J.o96 h9
  have h3 := J.o63 h6
  obtain ⟨g0, e0, hg, hb, _⟩ := J.b17 h17
  rw [hv] at e0
  injection e0 with e0
  injection e0 with e0
  injection e0 with e0
  subst e0
  exact ⟨J.fr.put3 g hg _ _ _, J.m0, fun _ h4 => (bf h3 h4).elim, J.m2, fun _ h4 => (bf h6 h4).elim, J.m4, fun _ h4 => (bf h6 h4).elim, fun _ h4 => (bf h13 h4).elim, fun _ h4 => (bf h9 h4).elim, J.m8, fun _ h4 => (bf h12 h4).elim, J.m10, fun _ h4 => (bf h12 h4).elim, fun _ h4 => (bf h13 h4).elim, J.r13, J.r14, J.r15, J.r16, fun _ => ⟨g, hv, hg, fun h => (bf rfl h).elim, fun _ => (hb hn).put3 _ _ _⟩, J.r19, J.o63, J.o96, J.o129, J.o1312, fun _ => h17⟩
end Go.Proofs.YtjljohmflhmkmaaGreatDoor
