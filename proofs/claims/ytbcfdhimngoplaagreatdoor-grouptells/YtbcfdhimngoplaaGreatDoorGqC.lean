/-
  What belongs together: BgP, BgQ, BgR, OrM, BgO.
-/
import Derived.Test.YtbcfdhimngoplaaGreatDoorGqB
import Derived.Test.YtbcfdhimngoplaaGreatDoorGqK
import Derived.Deep.DeepCutAuto
import Derived.Deep.CutRange
import Derived.Test.YtbcfdhimngoplaaGreatDoorGpA
namespace Go.Proofs.YtbcfdhimngoplaaGreatDoor
open Go.ChangeShapes Go.WideShapes Go.ChangeAt Go.RowKit
set_option linter.unusedVariables false
set_option linter.unusedSimpArgs false
set_option maxRecDepth 100000
set_option maxHeartbeats 2000000
def pjV (G n i B : Nat) (q : Sq) (y : VM.Vl) : Nat → Value
 | 0 => .slice (some ⟨G, 0, none⟩) n n
 | 1 => .int .i64 i
 | 2 => .slice (some ⟨G, 0, none⟩) n n
 | 3 => .int .i64 i
 | 4 => .pointer (some ⟨G, i, none⟩)
 | 5 => .slice q.a q.n q.c
 | 6 => vlV y
 | 9 => .pointer (some ⟨G, i, none⟩)
 | _ => undef
structure PjJ (W : World) (V : Nat → Value) (y : VM.Vl) (PA : Value → World → Prop) (R : World → Prop) (L : Nat → Bool) (v : Nat → Value) (w : World) : Prop where
 fr : L 8 = false → Fr W w
 vl : ∀ j, j ≠ 7 → j ≠ 8 → j ≠ 10 → L j = true → v j = V j
 li : L 7 = true → L 8 = false → ∃ g, v 7 = .slice (some ⟨g, 0, none⟩) 1 1 ∧ Blk w g #[.int .i64 y.k, .int .i64 y.n, .string y.s] 56
 pa : L 8 = true → L 10 = false → PA (v 8) w
 rr : L 10 = true → R w
 o8 : L 8 = true → L 4 = true ∧ L 5 = true ∧ L 6 = true ∧ L 7 = true
 d4 : L 5 = true → L 4 = true
 d6 : L 7 = true → L 6 = true
 o10 : L 10 = true → ∀ j, j < 10 → L j = true
section
variable {W : World} {V : Nat → Value} {y : VM.Vl} {PA : Value → World → Prop} {R : World → Prop} {L : Nat → Bool} {v : Nat → Value} {w : World}
theorem PjJ.pure (J : PjJ W V y PA R L v w) (i : Nat) (hi : i < 10) (h7 : i ≠ 7) (h8 : i ≠ 8) (hno : L i = false) (h4 : i = 5 → L 4 = true := by intro h; cases h) : PjJ W V y PA R (updL L i) (upd v i (V i)) w := by
 have h10 : L 10 = false := bne fun h => bf (J.o10 h i hi) hno
 have e10 : updL L i 10 = L 10 := updL_ne (by omega)
 have e8 : updL L i 8 = L 8 := updL_ne (by omega)
 have e7 : updL L i 7 = L 7 := updL_ne (by omega)
 refine ⟨fun h => J.fr (e8 ▸ h), fun j a b c hl => ?_, fun h1 h2 => ?_, fun h1 h2 => ?_, fun h => ?_, fun h => ?_, fun h => ?_, fun h => ?_, fun h => ?_⟩
 ·
  by_cases e : j = i
  · subst e; exact upd_at _ _
  · rw [upd_ne e]; rw [updL_ne e] at hl; exact J.vl j a b c hl
 ·
  rw [e7] at h1; rw [e8] at h2
  rw [upd_ne (show 7 ≠ i from Ne.symm h7)]
  exact J.li h1 h2
 ·
  rw [e8] at h1
  rw [upd_ne (show 8 ≠ i from Ne.symm h8)]
  exact J.pa h1 h10
 · rw [e10] at h; exact (bf h h10).elim
 ·
  rw [e8] at h
  obtain ⟨a, b, c, d⟩ := J.o8 h
  have up : ∀ j, L j = true → updL L i j = true := fun j hj => by
   by_cases e : j = i
   · subst e; exact updL_at _
   · rw [updL_ne e]; exact hj
  exact ⟨up _ a, up _ b, up _ c, up _ d⟩
 ·
  by_cases e : (4 : Nat) = i
  · subst e; exact updL_at _
  ·
   rw [updL_ne e]
   by_cases e5 : (5 : Nat) = i
   · exact h4 e5.symm
   · rw [updL_ne e5] at h; exact J.d4 h
 ·
  rw [e7] at h
  by_cases e : (6 : Nat) = i
  · subst e; exact updL_at _
  · rw [updL_ne e]; exact J.d6 h
 · rw [e10] at h; exact (bf h h10).elim
theorem PjJ.no8 (J : PjJ W V y PA R L v w) {i : Nat} (hi : i = 4 ∨ i = 5 ∨ i = 6 ∨ i = 7) (hno : L i = false) : L 8 = false := bne fun h => by
 obtain ⟨a, b, c, d⟩ := J.o8 h
 rcases hi with rfl | rfl | rfl | rfl
 · exact bf a hno
 · exact bf b hno
 · exact bf c hno
 · exact bf d hno
theorem PjJ.lit (J : PjJ W V y PA R L v w) (hno : L 7 = false) (h6 : L 6 = true) : PjJ W V y PA R (updL L 7) (upd v 7 (.slice (some ⟨w.heap.size, 0, none⟩) 1 1)) (w.alloc (.cells #[.int .i64 y.k, .int .i64 y.n, .string y.s] 56)) := by
 have h10 : L 10 = false := bne fun h => bf (J.o10 h 7 (by decide)) hno
 have h8 := J.no8 (i := 7) (by simp) hno
 have e10 : updL L 7 10 = false := by rw [updL_ne (by decide)]; exact h10
 have e8 : updL L 7 8 = false := by rw [updL_ne (by decide)]; exact h8
 refine ⟨fun _ => (J.fr h8).alloc _, fun j a b c hl => ?_, fun _ _ => ⟨_, upd_at _ _, Blk.new w _ _⟩, fun h => (bf h e8).elim, fun h => (bf h e10).elim, fun h => (bf h e8).elim, fun h => by rw [updL_ne (by decide)] at h ⊢; exact J.d4 h, fun _ => by rw [updL_ne (by decide)]; exact h6, fun h => (bf h e10).elim⟩
 rw [upd_ne a]; rw [updL_ne a] at hl; exact J.vl j a b c hl
theorem PjJ.app (J : PjJ W V y PA R L v w) (hno : L 8 = false) (ha : L 4 = true ∧ L 5 = true ∧ L 6 = true ∧ L 7 = true) {x : Value} {w' : World} (hp : PA x w') : PjJ W V y PA R (updL L 8) (upd v 8 x) w' := by
 have h10 : L 10 = false := bne fun h => bf (J.o10 h 8 (by decide)) hno
 have e10 : updL L 8 10 = false := by rw [updL_ne (by decide)]; exact h10
 have e8 : updL L 8 8 = true := updL_at _
 refine ⟨fun h => (bf e8 h).elim, fun j a b c hl => ?_, fun _ h => (bf e8 h).elim, fun _ _ => by rw [upd_at]; exact hp, fun h => (bf h e10).elim, fun _ => ?_, fun h => by rw [updL_ne (by decide)] at h ⊢; exact J.d4 h, fun h => by rw [updL_ne (by decide)] at h ⊢; exact J.d6 h, fun h => (bf h e10).elim⟩
 · rw [upd_ne b]; rw [updL_ne b] at hl; exact J.vl j a b c hl
 · rw [updL_ne (by decide), updL_ne (by decide), updL_ne (by decide), updL_ne (by decide)]; exact ha
theorem PjJ.last (J : PjJ W V y PA R L v w) (hno : L 10 = false) (ha : ∀ j, j < 10 → L j = true) {x : Value} {w' : World} (hr : R w') : PjJ W V y PA R (updL L 10) (upd v 10 x) w' := by
 have e10 : updL L 10 10 = true := updL_at _
 have e8 : updL L 10 8 = true := by rw [updL_ne (by decide)]; exact ha 8 (by decide)
 refine ⟨fun h => (bf e8 h).elim, fun j a b c hl => ?_, fun _ h => (bf e8 h).elim, fun _ h => (bf e10 h).elim, fun _ => hr, fun _ => ?_, fun h => by rw [updL_ne (by decide)] at h ⊢; exact J.d4 h, fun h => by rw [updL_ne (by decide)] at h ⊢; exact J.d6 h, fun _ j hj => ?_⟩
 · rw [upd_ne c]; rw [updL_ne c] at hl; exact J.vl j a b c hl
 · rw [updL_ne (by decide), updL_ne (by decide), updL_ne (by decide), updL_ne (by decide)]; exact ⟨ha _ (by decide), ha _ (by decide), ha _ (by decide), ha _ (by decide)⟩
 · rw [updL_ne (by omega)]; exact ha j hj
end
theorem isL_blk1 {α : Type} (E : Cd α) {w : World} {g : Nat} {x : α} {T : TypeId} (h : Blk w g (E.c x).toArray T) : IsL E w (.slice (some ⟨g, 0, none⟩) 1 1) [x] := by
 refine ⟨_, 1, rfl, Nat.le_refl _, .inr ⟨g, 0, rfl, h.lt, fun j u hj => ?_⟩⟩
 have e : flat E [x] = E.c x := by simp [flat]
 rw [e] at hj
 rw [Nat.zero_add]
 exact h.cell j (by simpa using hj)
def IsEE (w : World) (v : Value) (es : List (List EX.Nd)) : Prop := ∃ qs : List Sq, IsL cdS w v qs ∧ qs.length = es.length ∧ ∀ i (h1 : i < qs.length) (h2 : i < es.length), IsL cdN w qs[i].v es[i]
theorem IsEE.fr {w w' : World} {v : Value} {es : List (List EX.Nd)} (h : IsEE w v es) (f : Fr w w') : IsEE w' v es := by
 obtain ⟨qs, h1, h2, h3⟩ := h
 exact ⟨qs, h1.fr f, h2, fun i a b => (h3 i a b).fr f⟩
theorem IsEE.slice {w : World} {v : Value} {es : List (List EX.Nd)} (h : IsEE w v es) : ∃ a c, v = .slice a es.length c := by
 obtain ⟨qs, ⟨a, c, h1, _⟩, h2, _⟩ := h
 exact ⟨a, c, by rw [h1, h2]⟩
theorem IsEE.at {w : World} {a : Option Addr} {n c : Nat} {es : List (List EX.Nd)} (h : IsEE w (.slice a n c) es) : ∃ qs : List Sq, qs.length = es.length ∧ n = es.length ∧ n ≤ c ∧ (∀ i (h1 : i < qs.length), ∃ b o, a = some ⟨b, o, none⟩ ∧ b < w.heap.size ∧ w.cell? ⟨b, o + i, none⟩ = some (.slice qs[i].a qs[i].n qs[i].c)) ∧ ∀ i (h1 : i < qs.length) (h2 : i < es.length), IsL cdN w qs[i].v es[i] := by
 obtain ⟨qs, ⟨a', c', e, hc, hcs⟩, h2, h3⟩ := h
 cases e
 refine ⟨qs, h2, h2, hc, fun i hi => ?_, h3⟩
 rcases hcs with h | ⟨b, o, ha, hb, hat⟩
 · rw [h] at hi; simp at hi
 · exact ⟨b, o, ha, hb, hat.s1 i hi⟩
structure PjA (w0 : World) (B G n : Nat) (outs : List (List VM.Vl)) (Bq : Nat) (arr : Array Value) (ps : List Sq) (wr : World) : Prop where
 b : Blk wr G arr 31
 hB : B ≤ G
 size : arr.size = n
 len : ps.length = outs.length
 cell : ∀ j (h : j < ps.length), arr[j]? = some (.slice ps[j].a ps[j].n ps[j].c)
 own : ∀ j (h1 : j < ps.length) (h2 : j < outs.length), wr.ownsRow B 56 3 ps[j].v outs[j].length (flat cdV outs[j])
 low : ∀ j (h : j < ps.length) g, ps[j].v.ownBlock = some g → g < Bq
 rest : ∀ j, ps.length < j → j < n → arr[j]? = some (.slice none 0 0)
 base : B ≤ Bq
 top : Bq ≤ wr.heap.size
 fr : Fr w0 wr
structure Pj (w0 : World) (B G n : Nat) (outs : List (List VM.Vl)) (Bq : Nat) (xs : List VM.Vl) (wr : World) : Prop where
 out : ∃ (arr : Array Value) (ps : List Sq) (q : Sq), PjA w0 B G n outs Bq arr ps wr ∧ (ps.length < n → arr[ps.length]? = some (.slice q.a q.n q.c)) ∧ wr.ownsRow Bq 56 3 q.v xs.length (flat cdV xs)
section
variable {w0 : World} {B G n : Nat} {outs : List (List VM.Vl)} {Bq : Nat} {arr : Array Value} {ps : List Sq} {wr wr' : World} {xs : List VM.Vl}
theorem PjA.move (h : PjA w0 B G n outs Bq arr ps wr) (f : Fr wr wr') : PjA w0 B G n outs Bq arr ps wr' :=
 ⟨h.b.fr f, h.hB, h.size, h.len, h.cell, fun j a b => own_fr (h.own j a b) f, h.low, h.rest, h.base, Nat.le_trans h.top f.size, h.fr.trans f⟩
theorem Pj.move (h : Pj w0 B G n outs Bq xs wr) (f : Fr wr wr') : Pj w0 B G n outs Bq xs wr' := by
 obtain ⟨arr, ps, q, h1, h2, h3⟩ := h.out
 exact ⟨arr, ps, q, h1.move f, h2, own_fr h3 f⟩
theorem PjA.grown (h : PjA w0 B G n outs Bq arr ps wr) {q : Value} {m : Nat} {l : List Value} (hq : wr.ownsRow Bq 56 3 q m l) (g : wr.grownBy wr' q.ownBlock) (hw : w0.heap.size ≤ Bq) : PjA w0 B G n outs Bq arr ps wr' := by
 refine ⟨h.b.grown g ?_, h.hB, h.size, h.len, h.cell, fun j a b => ?_, h.low, h.rest, h.base, Nat.le_trans h.top g.size, Below.grown h.fr g (by have := h.fr.size; exact this) (fun k hk => Nat.le_trans hw (own_base hq k hk))⟩
 ·
  intro e
  obtain ⟨cur, hc⟩ := own_block hq _ e
  have := h.b
  unfold Blk at this
  rw [this] at hc
  simp only [Option.some.injEq, Obj.cells.injEq] at hc
  exact absurd hc.2.1 (by decide)
 ·
  refine (h.own j a b).kept g ?_
  cases hk : ps[j].v.ownBlock with
  | none => exact .inl rfl
  | some k =>
   right
   intro e
   have h1 := h.low j a k hk
   have h2 := own_base hq k e.symm
   omega
theorem PjA.store (h : PjA w0 B G n outs Bq arr ps wr) {x : Sq} (hx : wr.ownsRow Bq 56 3 x.v xs.length (flat cdV xs)) (hlt : ps.length < n) (hw : w0.heap.size ≤ G) : Pj w0 B G n outs Bq xs (wr.setCell ⟨G, ps.length, none⟩ (.slice x.a x.n x.c)) := by
 have keep : ∀ {B' m : Nat} {v : Value} {l : List Value}, wr.ownsRow B' 56 3 v m l → (wr.setCell ⟨G, ps.length, none⟩ (.slice x.a x.n x.c)).ownsRow B' 56 3 v m l := fun ho => own_keep ho fun k cur hk hkc => by
  have hne : G ≠ k := by
   rintro rfl
   have := h.b
   unfold Blk at this
   rw [this] at hkc
   simp only [Option.some.injEq, Obj.cells.injEq] at hkc
   exact absurd hkc.2.1 (by decide)
  simp only [World.setCell, Array.getElem?_modify, if_neg hne]
 refine ⟨_, ps, x, ⟨h.b.set _ _, h.hB, by rw [Array.size_setIfInBounds]; exact h.size, h.len, fun j hj => ?_, fun j a b => keep (h.own j a b), h.low, fun j h1 h2 => ?_, h.base, by simp [World.setCell]; exact h.top, h.fr.setC _ _ _ hw⟩, fun _ => ?_, keep hx⟩
 · rw [Array.getElem?_setIfInBounds_ne (by omega)]; exact h.cell j hj
 · rw [Array.getElem?_setIfInBounds_ne (by omega)]; exact h.rest j h1 h2
 · rw [Array.getElem?_setIfInBounds_self_of_lt (by rw [h.size]; exact hlt)]
theorem Pj.next (h : Pj w0 B G n outs Bq xs wr) (hlt : outs.length < n) : Pj w0 B G n (outs ++ [xs]) wr.heap.size [] wr := by
 obtain ⟨arr, ps, q, h1, h2, h3⟩ := h.out
 have hpl := h1.len
 have hq := h2 (by omega)
 have lt : ∀ {B' m : Nat} {v : Value} {l : List Value}, wr.ownsRow B' 56 3 v m l → ∀ g, v.ownBlock = some g → g < wr.heap.size := fun ho g hg => (ho.lt g hg).2
 refine ⟨arr, ps ++ [q], ⟨none, 0, 0⟩, ⟨h1.b, h1.hB, h1.size, by simp [hpl], fun j hj => ?_, fun j a b => ?_, fun j hj g hg => ?_, fun j a b => h1.rest j (by rw [List.length_append] at a; simp at a; omega) b, Nat.le_trans h1.base h1.top, Nat.le_refl _, h1.fr⟩, fun hl => h1.rest _ (by simp) hl, World.ownsRow_nil _ _ _ _⟩
 ·
  by_cases hji : j < ps.length
  ·
   have e : (ps ++ [q])[j] = ps[j] := List.getElem_append_left hji
   rw [e]; exact h1.cell j hji
  ·
   have e0 : j = ps.length := by rw [List.length_append] at hj; simp at hj; omega
   subst e0
   have e : (ps ++ [q])[ps.length] = q := by simp
   rw [e]; exact hq
 ·
  by_cases hji : j < ps.length
  ·
   have e : (ps ++ [q])[j] = ps[j] := List.getElem_append_left hji
   have e2 : (outs ++ [xs])[j] = outs[j] := List.getElem_append_left (by omega)
   rw [e, e2]; exact h1.own j hji (by omega)
  ·
   have e0 : j = ps.length := by rw [List.length_append] at a; simp at a; omega
   subst e0
   have e : (ps ++ [q])[ps.length] = q := by simp
   have e2 : (outs ++ [xs])[ps.length] = xs := by simp [hpl]
   rw [e, e2]; exact own_low h3 h1.base
 ·
  by_cases hji : j < ps.length
  ·
   have e : (ps ++ [q])[j] = ps[j] := List.getElem_append_left hji
   rw [e] at hg
   exact Nat.lt_of_lt_of_le (h1.low j hji g hg) h1.top
  ·
   have e0 : j = ps.length := by rw [List.length_append] at hj; simp at hj; omega
   subst e0
   have e : (ps ++ [q])[ps.length] = q := by simp
   rw [e] at hg
   exact lt h3 g hg
theorem Pj.all (h : Pj w0 B G n outs Bq xs wr) (hn : outs.length = n) (hm : n ≤ maxLen) : ORR B wr (.slice (some ⟨G, 0, none⟩) n n) outs := by
 obtain ⟨arr, ps, q, h1, h2, h3⟩ := h.out
 subst hn
 exact OwnRR.orr ⟨G, arr, ps, rfl, h1.hB, h1.b, ⟨h1.len, h1.size⟩, h1.cell, h1.own⟩ hm
theorem Pj.made {w1 : World} {mc : Array Value} (hf : Fr w0 w1) (hs : mc.size = n) (hz : ∀ j, j < n → mc[j]? = some (.slice none 0 0)) : Pj w0 w0.heap.size w1.heap.size n [] (w1.heap.size + 1) [] (w1.alloc (.cells mc 31)) := by
 refine ⟨mc, [], ⟨none, 0, 0⟩, ⟨Blk.new w1 _ _, hf.size, hs, rfl, fun j h => by simp at h, fun j h => by simp at h, fun j h => by simp at h, fun j _ h => hz j h, by have := hf.size; omega, by simp, hf.alloc _⟩, fun h => hz 0 h, World.ownsRow_nil _ _ _ _⟩
end
end Go.Proofs.YtbcfdhimngoplaaGreatDoor
namespace Go.Proofs.YtbcfdhimngoplaaGreatDoor
open Go.ChangeShapes Go.WideShapes Go.ChangeAt Go.RowKit
set_option linter.unusedVariables false
set_option linter.unusedSimpArgs false
set_option maxRecDepth 100000
set_option maxHeartbeats 4000000
theorem Tryz.sizeVals : (Tryz.prog.info? 31).map (·.size) = some 1 := by kernel_rfl
theorem project_any (v ua va : Value) (ls : List (List VM.Vl)) (cs : List ByteArray) (es : List (List EX.Nd)) (w : World) (h : IsRR w v ls) (hu : IsL cdB w ua cs) (he : IsEE w va es) (hn : ∀ e ∈ es, ∀ n ∈ e, n.nm.size ≤ 140737488355327) (hl : ∀ e ∈ es, e.length ≤ 9223372036854775806)
  (hs : ∀ c ∈ cs, c.size ≤ 140737488355327) (hTn : Tn w) (hT : Tb w) (hgn : ∀ e ∈ es, ∀ n ∈ e, EV.gd n.v) (hgl : ∀ r ∈ ls, ∀ x ∈ r, EV.gd x) (hL : ls.length ≤ 9223372036854775806) (hR : ∀ r ∈ ls, r.length ≤ 9223372036854775806) (hE : es.length ≤ 9223372036854775806) :
  Calls Tryz.prog 39 #[v, ua, va] w fun r w' => RA w.heap.size (BG.prj ls cs es) r w' ∧ Fr w w' := by
 have HK : Hid (BG.prj ls cs es = if BG.chk ls ≠ 0 then .error (BG.chk ls) else if 8 < es.length then .error 2 else if BG.eE es ≠ 0 then .error (BG.eE es) else BG.mp (fun r => BG.mp (fun e => EV.ev e cs r) es) ls) := rfl
 have HCk := hideP (bagCheck_any v ls w h hL hR)
 have HX := hideP (fun (e : List EX.Nd) (hm : e ∈ es) (q : Value) W (hq : IsL cdN W q e) => xcheck_any q e W hq (hn e hm) (hl e hm))
 have HT := hideP (fun (e : List EX.Nd) (hm : e ∈ es) (r : List VM.Vl) (hr : r ∈ ls) (p q : Value) W (f : Fr w W) (hp : IsL cdN W p e) (hq : IsL cdV W q r) => eval_any p ua q e cs r W hp (hu.fr f) hq (hn e hm) (hl e hm) hs (hTn.fr f) (hT.fr f) (hgn e hm) (hgl r hr))
 have HRl := hideP (fun (h0 : BG.chk ls = 0) => BG.chk_all h0)
 obtain ⟨a, c, rfl⟩ := h.slice
 obtain ⟨qs, hq, _, hc, hcell, hrow⟩ := h.at
 have HCe := hideP hcell
 have HRo := hideP hrow
 obtain ⟨a1, c1, rfl⟩ := he.slice
 obtain ⟨qe, hqe, _, hce, hcelle, hrowe⟩ := he.at
 have HCx := hideP hcelle
 have HRx := hideP hrowe
 obtain ⟨a2, n2, c2, rfl⟩ : ∃ a n c, ua = .slice a n c := by obtain ⟨a, c, h, _⟩ := hu; exact ⟨a, _, c, h⟩
 clear hcell hrow h hu he hn hl hs hTn hT hgn hgl hL hR hcelle hrowe
 obtain ⟨i0, hi0, hz0, hz1, hz2⟩ := info_parts Tryz.infoVs9
 obtain ⟨j0, hj0, jz0, jz1, jz2⟩ := info_parts Tryz.infoV9
 generalize BG.prj ls cs es = R at *
 by_cases h0 : BG.chk ls = 0
 case neg =>
  replace HK := hideP (HK.out.trans (if_pos h0))
  generalize BG.chk ls = z at *
  have e1 : ((z : Int) != 0) = true := by simp; omega
  have e2 : ¬ ((z : Int) = 0) := by omega
  go_enter Tryz.func39, Tryz.ntmps39
  go_wp2_with fail
  refine HCk.out.mono ?_
  rintro _ w1 ⟨rfl, f1⟩
  have F1 := hideP f1
  clear f1 HCk
  go_wp2_with fail
  go_ret2
  exact ⟨by rw [HK.out]; rfl, F1.out⟩
 replace HK := hideP (HK.out.trans (if_neg (by simpa using h0)))
 obtain ⟨h40, hall⟩ := HRl.out h0
 rw [h0] at HCk
 clear HRl h0
 have HAl := hideP hall
 clear hall
 by_cases h8 : 8 < es.length
 ·
  replace HK := hideP (HK.out.trans (if_pos h8))
  have h8' : (8 : Int) < (es.length : Int) := by omega
  go_enter Tryz.func39, Tryz.ntmps39
  go_wp2_with fail
  refine HCk.out.mono ?_
  rintro _ w1 ⟨rfl, f1⟩
  have F1 := hideP f1
  clear f1 HCk
  go_wp2_with fail
  go_ret2
  exact ⟨by rw [HK.out]; rfl, F1.out⟩
 replace HK := hideP (HK.out.trans (if_neg h8))
 have h8' : ¬ (8 : Int) < (es.length : Int) := by omega
 have h8n : es.length ≤ 8 := by omega
 obtain ⟨mc, hmc⟩ : ∃ mc, madeCells (Value.slice none 0 0).cells (ls.length * 1) = mc := ⟨_, rfl⟩
 have hms : mc.size = ls.length := by rw [← hmc, size_madeCells]; omega
 have hmz : ∀ j, j < ls.length → mc[j]? = some (.slice none 0 0) := by
  intro j hj
  rw [← hmc]
  have : (Value.slice none 0 0).cells = #[.slice none 0 0] := rfl
  simp [madeCells, this, hj, Nat.mod_one]
 have hmk : ∀ W : World, (Instr.makeSlice 22 (.int .i64 (ls.length : Int)) (.int .i64 (ls.length : Int))).run Tryz.prog W = .ok (.slice (some ⟨W.heap.size, 0, none⟩) ls.length ls.length) (W.alloc (.cells mc 31)) := by
  intro W
  have hr := run_make (P := Tryz.prog) W 22 31 i0 _ Tryz.underlying22 hi0 hz0 .i64 .i64 (ls.length : Int) (ls.length : Int) (by omega) (by omega) (by rw [hz2]; omega) (by omega)
  simp only [hz1] at hr
  rw [show (ls.length : Int).toNat * 1 = ls.length * 1 by omega, hmc] at hr
  simpa using hr
 have HMs := hideP hms
 have HMz := hideP hmz
 have HMk := hideP hmk
 clear hms hmz hmc hmk h8
 go_enter Tryz.func39, Tryz.ntmps39
 go_wp2_with fail
 refine HCk.out.mono ?_
 rintro _ w1 ⟨rfl, f1⟩
 have F1 := hideP f1
 clear f1 HCk
 go_wp2_with fail
 clear h8'
 go_loopw [10, 11, 29] (fun _ _ iv wr => ∃ (i : Nat), iv = .int .i64 i ∧ i ≤ es.length ∧ BG.eE es = BG.eE (es.drop i) ∧ Fr w wr) (fun _ _ iv _ => es.length - (intOf iv).toNat)
 case atStart => exact ⟨0, rfl, Nat.zero_le _, rfl, F1.out⟩
 case round =>
  obtain ⟨i, rfl, hi, hEi, hfr⟩ := hrel
  by_cases hlt : i < es.length
  ·
   have hlt' : (i : Int) < (es.length : Int) := by omega
   obtain ⟨b, o, rfl, hbb, c0⟩ := HCx.out i (by omega)
   have d0 := (Below.cell hfr (World.block_lt_of_cell? _ _ c0)).trans c0
   have hEs : BG.eE (es.drop i) = if EX.ck es[i] = 0 then BG.eE (es.drop (i + 1)) else EX.ck es[i] := by rw [List.drop_eq_getElem_cons hlt]; rfl
   have cx := HX.out es[i] (List.getElem_mem hlt) qe[i].v wr ((HRx.out i (by omega) hlt).fr hfr)
   generalize es[i] = e at *
   obtain ⟨q, hqq⟩ : ∃ q, (qe[i]'(by omega)) = q := ⟨_, rfl⟩
   rw [hqq] at cx d0
   obtain ⟨qa, qn, qc⟩ := q
   simp only [Sq.v] at cx d0
   have HEs := hideP hEs
   have HEi := hideP hEi
   have HF := hideP hfr
   clear hEs hEi hfr c0 hqq
   generalize EX.ck e = z at *
   by_cases hz : z = 0
   ·
    subst hz
    replace HEs := hideP (HEs.out.trans (if_pos rfl))
    go_wp2_with fail
    refine cx.mono ?_
    rintro _ w3 ⟨rfl, f3⟩
    have F3 := hideP (HF.out.trans f3)
    clear f3
    go_wp2_with fail
    go_roundw
    case rel => exact ⟨i + 1, by go_num, by omega, HEi.out.trans HEs.out, F3.out⟩
    case measure => simp [intOf]; omega
   ·
    replace HEs := hideP (HEs.out.trans (if_neg hz))
    have hEe : BG.eE es = z := HEi.out.trans HEs.out
    rw [hEe] at HK
    replace HK := hideP (HK.out.trans (if_pos hz))
    have e1 : ((z : Int) != 0) = true := by simp; omega
    have e2 : ¬ ((z : Int) = 0) := by omega
    go_wp2_with fail
    refine cx.mono ?_
    rintro _ w3 ⟨rfl, f3⟩
    have F3 := hideP (HF.out.trans f3)
    clear f3 hEe
    go_wp2_with fail
    go_ret2
    exact ⟨by rw [HK.out]; rfl, F3.out⟩
  ·
   obtain rfl : i = es.length := by omega
   have hE0 : BG.eE es = 0 := by rw [hEi, List.drop_length]; rfl
   rw [hE0] at HK
   replace HK := hideP (HK.out.trans (if_neg (by simp)))
   have hmk := HMk.out
   have HP0 := hideP (Pj.made hfr HMs.out HMz.out)
   have hle := hfr.size
   clear hEi hE0 hfr
   go_wp2_with fail
   clear hmk
   generalize hG : wr.heap.size = G at *
   generalize wr.alloc (.cells mc 31) = W0 at *
   clear hG
   have HGw : w.heap.size ≤ G := hle
   clear hle
   have HBq := hideP (show w.heap.size ≤ G + 1 by omega)
   generalize hB0 : G + 1 = B0 at *
   clear hB0
   go_loopw [13, 14, 16, 17, 18, 44] (fun _ _ _ _ _ iv wr => ∃ (i Bq : Nat) (outs : List (List VM.Vl)), iv = .int .i64 i ∧ i ≤ ls.length ∧ outs.length = i ∧ R = BG.pre outs (BG.mp (fun r => BG.mp (fun e => EV.ev e cs r) es) (ls.drop i)) ∧ w.heap.size ≤ Bq ∧ Pj w w.heap.size G ls.length outs Bq [] wr) (fun _ _ _ _ _ iv _ => ls.length - (intOf iv).toNat)
   case atStart => exact ⟨0, B0, [], rfl, Nat.zero_le _, rfl, by rw [BG.pre_nil]; exact HK.out, HBq.out, HP0.out⟩
   case round =>
    obtain ⟨i, Bq, outs, rfl, hi, hol, hRi, hBq, hP⟩ := hrel
    by_cases hlt : i < ls.length
    case neg =>
     obtain rfl : i = ls.length := by omega
     have HRe := hideP (show R = .ok outs by rw [hRi, List.drop_length]; simp [BG.mp, BG.pre])
     have HO := hideP (hP.all hol (by unfold maxLen; omega))
     have HF := hideP (show Fr w wr from by obtain ⟨_, _, _, h1, _⟩ := hP.out; exact h1.fr)
     clear hRi hP
     go_wp2_with fail
     go_ret2
     exact ⟨by rw [HRe.out]; exact ⟨_, rfl, HO.out⟩, HF.out⟩
    have hlt' : (i : Int) < (ls.length : Int) := by omega
    have hfr : Fr w wr := by obtain ⟨_, _, _, h1, _⟩ := hP.out; exact h1.fr
    obtain ⟨b, o, rfl, hbb, c0⟩ := HCe.out i (by omega)
    obtain ⟨h1, h2⟩ := HRo.out i (by omega) hlt
    have d0 := (Below.cell hfr (World.block_lt_of_cell? _ _ c0)).trans c0
    rw [List.drop_eq_getElem_cons hlt] at hRi
    have hmemr := List.getElem_mem hlt
    obtain ⟨q, hqq⟩ : ∃ q, (qs[i]'(by omega)) = q := ⟨_, rfl⟩
    rw [hqq] at h1 d0
    obtain ⟨qa, qn, qc⟩ := q
    simp only [Sq.v] at h1 d0
    have s1 := fun c (h : BG.mp (fun e => EV.ev e cs ls[i]) es = .error c) => BG.mp_err (f := fun r => BG.mp (fun e => EV.ev e cs r) es) (t := ls.drop (i + 1)) h
    have s2 := fun x (h : BG.mp (fun e => EV.ev e cs ls[i]) es = .ok x) => BG.mp_ok (f := fun r => BG.mp (fun e => EV.ev e cs r) es) (t := ls.drop (i + 1)) h
    have HTr := hideP (fun e hm p W f hp => HT.out e hm ls[i] hmemr p (.slice qa qn qc) W f hp (h1.fr f))
    generalize ls[i] = r at *
    generalize BG.mp (fun r => BG.mp (fun e => EV.ev e cs r) es) (r :: ls.drop (i + 1)) = Z at *
    have HS1 := hideP s1
    have HS2 := hideP s2
    have HRi := hideP hRi
    have HP := hideP hP
    have HHo := hideP hol
    clear s1 s2 hRi hP hfr h1 h2 c0 hqq hmemr hol
    go_wp2_with fail
    clear d0
    go_loopw [16, 17, 18, 51] (fun _ _ _ iv wr => ∃ (k : Nat) (xs : List VM.Vl), iv = .int .i64 k ∧ k ≤ es.length ∧ xs.length = k ∧ BG.mp (fun e => EV.ev e cs r) es = BG.pre xs (BG.mp (fun e => EV.ev e cs r) (es.drop k)) ∧ Pj w w.heap.size G ls.length outs Bq xs wr) (fun _ _ _ iv _ => es.length - (intOf iv).toNat)
    case atStart => exact ⟨0, [], rfl, Nat.zero_le _, rfl, by rw [BG.pre_nil]; rfl, HP.out⟩
    case round =>
     obtain ⟨k, xs, rfl, hk, hxl, hMk, hP⟩ := hrel
     by_cases hltk : k < es.length
     case neg =>
      obtain rfl : k = es.length := by omega
      have HMe := hideP (HS2.out xs (by rw [hMk, List.drop_length]; simp [BG.mp, BG.pre]))
      have HPn := hideP (hP.next (by have := HHo.out; omega))
      have hle := (show Fr w wr from by obtain ⟨_, _, _, h1, _⟩ := hP.out; exact h1.fr).size
      clear hMk hP
      go_wp2_with fail
      go_roundw
      case rel => exact ⟨i + 1, _, outs ++ [xs], by go_num, by omega, by rw [List.length_append, HHo.out]; rfl, by rw [HRi.out, HMe.out, BG.pre_pre], hle, HPn.out⟩
      case measure => simp [intOf]; omega
     have hltk' : (k : Int) < (es.length : Int) := by omega
     have hfr : Fr w wr := by obtain ⟨_, _, _, h1, _⟩ := hP.out; exact h1.fr
     obtain ⟨b', o', rfl, hbb', c0⟩ := HCx.out k (by omega)
     have d0 := (Below.cell hfr (World.block_lt_of_cell? _ _ c0)).trans c0
     rw [List.drop_eq_getElem_cons hltk] at hMk
     have cx := HTr.out es[k] (List.getElem_mem hltk) qe[k].v wr hfr ((HRx.out k (by omega) hltk).fr hfr)
     have s1 := fun c (h : EV.ev es[k] cs r = .error c) => BG.mp_err (f := fun e => EV.ev e cs r) (t := es.drop (k + 1)) h
     have s2 := fun x (h : EV.ev es[k] cs r = .ok x) => BG.mp_ok (f := fun e => EV.ev e cs r) (t := es.drop (k + 1)) h
     have hne := fun c (h : EV.ev es[k] cs r = .error c) => EV.ev_ne h
     generalize es[k] = e at *
     obtain ⟨q2, hqq⟩ : ∃ q, (qe[k]'(by omega)) = q := ⟨_, rfl⟩
     rw [hqq] at cx d0
     obtain ⟨ea, en, ec⟩ := q2
     simp only [Sq.v] at cx d0
     generalize BG.mp (fun e => EV.ev e cs r) (e :: es.drop (k + 1)) = Y at *
     generalize EV.ev e cs r = D at *
     have HMk2 := hideP hMk
     have HPk := hideP hP
     have HF := hideP hfr
     have HXl := hideP hxl
     clear hMk hP hfr c0 hqq hxl
     cases D with
     | error c =>
      have HY := hideP (s1 c rfl)
      have e1 : ((c : Int) != 0) = true := by have := hne c rfl; simp; omega
      have e2 : ¬ ((c : Int) = 0) := by have := hne c rfl; omega
      have HRr := hideP (show R = .error c from by rw [HRi.out, HS1.out c (by rw [HMk2.out, HY.out]; rfl)]; rfl)
      simp only [exV, vlV] at cx
      clear s1 s2 hne
      go_wp2_with fail
      refine cx.mono ?_
      rintro _ w3 ⟨rfl, f3⟩
      have F3 := hideP (HF.out.trans f3)
      clear f3
      go_wp2_with fail
      go_ret2
      exact ⟨by rw [HRr.out]; rfl, F3.out.alloc _⟩
     | ok y =>
      have HY := hideP (s2 y rfl)
      obtain ⟨yk, yn, ys⟩ := y
      simp only [exV, vlV] at cx
      clear s1 s2 hne
      go_wp2_with fail
      refine cx.mono ?_
      rintro _ w3 ⟨rfl, f3⟩
      have HB9 := hideP (Blk.new w3 #[.int .i64 yk, .int .i64 yn, .string ys] 56)
      have HP3 := hideP (HPk.out.move (f3.alloc (.cells #[.int .i64 yk, .int .i64 yn, .string ys] 56)))
      obtain ⟨B9, hB9⟩ : ∃ x, w3.heap.size = x := ⟨_, rfl⟩
      have F9 := hideP ((HF.out.trans f3).alloc (.cells #[.int .i64 yk, .int .i64 yn, .string ys] 56))
      rw [hB9] at HB9
      clear f3 HPk HF cx d0
      go_upto_region 23 with fail
      obtain ⟨arr, ps, q, h1, h2, h3⟩ := HP3.out.out
      have hpl : ps.length = i := by rw [h1.len]; exact HHo.out
      have hq5 := h2 (by rw [hpl]; exact hlt)
      rw [hpl] at hq5
      have HA1 := hideP h1
      have HA3 := hideP h3
      have HPl := hideP hpl
      have HQ5 := hideP hq5
      clear h1 h2 h3 hpl hq5 hB9
      generalize w3.alloc (.cells #[.int .i64 yk, .int .i64 yn, .string ys] 56) = W4 at *
      refine region_inv2 rfl (fun listed v w9 => PjJ W4 (pjV G ls.length i B9 q ⟨yk, yn, ys⟩) ⟨yk, yn, ys⟩ (fun x w' => PjA w w.heap.size G ls.length outs Bq arr ps w' ∧ w'.ownsRow Bq 56 3 x (xs.length + 1) (flat cdV (xs ++ [⟨yk, yn, ys⟩]))) (fun w' => Pj w w.heap.size G ls.length outs Bq (xs ++ [⟨yk, yn, ys⟩]) w') (fun i => listed.getD i false) v w9) ?_ (by decide) ?_ ?_
      ·
       have h9 : ∀ j, (Array.replicate 11 false).getD j false = true → False := fun j h => by
        rw [show (Array.replicate 11 false).getD j false = false by unfold Array.getD; split <;> simp] at h
        cases h
       exact ⟨fun _ => Fr.drew (Fr.refl W4), fun j _ _ _ h => (h9 j h).elim, fun h => (h9 7 h).elim, fun h => (h9 8 h).elim, fun h => (h9 10 h).elim, fun h => (h9 8 h).elim, fun h => (h9 5 h).elim, fun h => (h9 7 h).elim, fun h => (h9 10 h).elim⟩
      ·
       intro listed v w9 A hs J HAv HO t ht
       have ht1 := (ready_spec ht).1
       have hlt9 : t < listed.size := by rw [hs]; exact ht1
       have hno := not_yet hs ht
       have ht11 : t < 11 := ht1
       rcases (show t = 0 ∨ t = 1 ∨ t = 2 ∨ t = 3 ∨ t = 4 ∨ t = 5 ∨ t = 6 ∨ t = 7 ∨ t = 8 ∨ t = 9 ∨ t = 10 by omega) with rfl | rfl | rfl | rfl | rfl | rfl | rfl | rfl | rfl | rfl | rfl
       · exact wpOp_move rfl (y := .slice (some ⟨G, 0, none⟩) ls.length ls.length) (HO 12 (by decide)) ⟨_, rfl, by rw [toL hlt9]; exact J.pure 0 (by decide) (by decide) (by decide) hno⟩
       · exact wpOp_move rfl (y := .int .i64 i) (HO 13 (by decide)) ⟨_, rfl, by rw [toL hlt9]; exact J.pure 1 (by decide) (by decide) (by decide) hno⟩
       · exact wpOp_move rfl (y := .slice (some ⟨G, 0, none⟩) ls.length ls.length) (HO 12 (by decide)) ⟨_, rfl, by rw [toL hlt9]; exact J.pure 2 (by decide) (by decide) (by decide) hno⟩
       · exact wpOp_move rfl (y := .int .i64 i) (HO 13 (by decide)) ⟨_, rfl, by rw [toL hlt9]; exact J.pure 3 (by decide) (by decide) (by decide) hno⟩
       ·
        have k2 := after_one ht rfl 2 (by decide)
        have k3 := after_one ht rfl 3 (by decide)
        have e2 : A.eval (.tmp 67) = .slice (some ⟨G, 0, none⟩) ls.length ls.length := (HAv 2 67 rfl (by show 67 < 78; decide) k2).trans (J.vl 2 (by decide) (by decide) (by decide) k2)
        have e3 : A.eval (.tmp 68) = .int .i64 i := (HAv 3 68 rfl (by show 68 < 78; decide) k3).trans (J.vl 3 (by decide) (by decide) (by decide) k3)
        refine wpOp_is (Instr.indexAt 22 (A.eval (.tmp 67)) (A.eval (.tmp 68))) rfl rfl rfl (y := .pointer (some ⟨G, i, none⟩)) (w' := w9) ?_ ⟨_, rfl, by rw [toL hlt9]; exact J.pure 4 (by decide) (by decide) (by decide) hno⟩
        rw [e2, e3]
        simp [go_sem, hlt', Tryz.underlying22, Tryz.sizeVals]
       ·
        have k4 := after_one ht rfl 4 (by decide)
        have e4 : A.eval (.tmp 69) = .pointer (some ⟨G, i, none⟩) := (HAv 4 69 rfl (by show 69 < 78; decide) k4).trans (J.vl 4 (by decide) (by decide) (by decide) k4)
        have p5 := (HA1.out.b.fr (J.fr (J.no8 (i := 5) (by simp) hno))).cell i HQ5.out
        refine wpOp_is (Instr.loadAt 31 (A.eval (.tmp 69))) rfl rfl rfl (y := .slice q.a q.n q.c) (w' := w9) ?_ ⟨_, rfl, by rw [toL hlt9]; exact J.pure 5 (by decide) (by decide) (by decide) hno (fun _ => k4)⟩
        rw [e4]
        simp [go_sem, p5]
       ·
        have hb9 := HB9.out.fr (J.fr (J.no8 (i := 6) (by simp) hno))
        have p0 := hb9.cell 0 rfl
        have p1 := hb9.cell 1 rfl
        have p2 := hb9.cell 2 rfl
        have t17 : A.eval (.tmp 17) = .pointer (some ⟨B9, 0, none⟩) := HO 17 (by decide)
        refine wpOp_is (Instr.loadAt 56 (A.eval (.tmp 17))) rfl rfl rfl (y := .agg #[.int .i64 yk, .int .i64 yn, .string ys]) (w' := w9) ?_ ⟨_, rfl, by rw [toL hlt9]; exact J.pure 6 (by decide) (by decide) (by decide) hno⟩
        rw [t17]
        simp [go_sem, p0, p1, p2]
       ·
        have k6 := after_one ht rfl 6 (by decide)
        have e6 : A.eval (.tmp 71) = .agg #[.int .i64 yk, .int .i64 yn, .string ys] := (HAv 6 71 rfl (by show 71 < 78; decide) k6).trans (J.vl 6 (by decide) (by decide) (by decide) k6)
        refine wpOp_slice rfl (y := .slice (some ⟨w9.heap.size, 0, none⟩) 1 1) (w' := w9.alloc (.cells #[.int .i64 yk, .int .i64 yn, .string ys] 56)) ?_ ⟨_, rfl, by rw [toL hlt9]; exact J.lit hno k6⟩
        simp only [List.map_toArray, List.map_cons, List.map_nil, e6]
        kernel_rfl
       ·
        have k5 := after_one ht rfl 5 (by decide)
        have k7 := after_one ht rfl 7 (by decide)
        have e5 : A.eval (.tmp 70) = q.v := (HAv 5 70 rfl (by show 70 < 78; decide) k5).trans (J.vl 5 (by decide) (by decide) (by decide) k5)
        obtain ⟨g7, hv7, hb7⟩ := J.li k7 hno
        have e7 : A.eval (.tmp 72) = .slice (some ⟨g7, 0, none⟩) 1 1 := (HAv 7 72 rfl (by show 72 < 78; decide) k7).trans hv7
        have f9 := J.fr hno
        have hA := HA1.out.move f9
        have ho := own_fr HA3.out f9
        have hall : listed.getD 4 false = true ∧ listed.getD 5 false = true ∧ listed.getD 6 false = true ∧ listed.getD 7 false = true := by
         have k4 : listed.getD 4 false = true := J.d4 k5
         have k6 : listed.getD 6 false = true := J.d6 k7
         exact ⟨k4, k5, k6, k7⟩
        refine wpOp_of rfl rfl (wp_append_L cdV _ _ 31 56 j0 _ 32 rfl Tryz.underlying31 hj0 jz0 jz1 jz2 rfl Bq _ xs.length xs e5 ho _ [⟨yk, yn, ys⟩] e7 (isL_blk1 cdV (x := ⟨yk, yn, ys⟩) hb7) (by unfold maxLen; have := HXl.out; simp; omega) (by have := HXl.out; simp; omega) hA.top ?_)
        intro x w' own gr
        exact ⟨x, rfl, by rw [toL hlt9]; exact J.app hno hall ⟨hA.grown ho gr hBq, own⟩⟩
       ·
        have k0 := after_one ht rfl 0 (by decide)
        have k1 := after_one ht rfl 1 (by decide)
        have e0 : A.eval (.tmp 65) = .slice (some ⟨G, 0, none⟩) ls.length ls.length := (HAv 0 65 rfl (by show 65 < 78; decide) k0).trans (J.vl 0 (by decide) (by decide) (by decide) k0)
        have e1 : A.eval (.tmp 66) = .int .i64 i := (HAv 1 66 rfl (by show 66 < 78; decide) k1).trans (J.vl 1 (by decide) (by decide) (by decide) k1)
        refine wpOp_is (Instr.indexAt 22 (A.eval (.tmp 65)) (A.eval (.tmp 66))) rfl rfl rfl (y := .pointer (some ⟨G, i, none⟩)) (w' := w9) ?_ ⟨_, rfl, by rw [toL hlt9]; exact J.pure 9 (by decide) (by decide) (by decide) hno⟩
        rw [e0, e1]
        simp [go_sem, hlt', Tryz.underlying22, Tryz.sizeVals]
       ·
        have k8 := after_one ht rfl 8 (by decide)
        have k9 := after_one ht rfl 9 (by decide)
        have e9 : A.eval (.tmp 74) = .pointer (some ⟨G, i, none⟩) := (HAv 9 74 rfl (by show 74 < 78; decide) k9).trans (J.vl 9 (by decide) (by decide) (by decide) k9)
        have e8 := HAv 8 73 rfl (by show 73 < 78; decide) k8
        obtain ⟨hA, hown⟩ := J.pa k8 hno
        obtain ⟨xa, xc, hx⟩ := own_slice hown
        rw [hx] at e8 hown
        have p5 : ∃ u, w9.cell? ⟨G, i, none⟩ = some u := ⟨_, hA.b.cell i (Array.getElem?_eq_getElem (by rw [hA.size]; exact hlt))⟩
        obtain ⟨u5, p5⟩ := p5
        have y5 := hA.b.frozen i
        have hall : ∀ j, j < 10 → listed.getD j false = true := by
         intro m hm
         rcases (show m = 0 ∨ m = 1 ∨ m = 2 ∨ m = 3 ∨ m = 4 ∨ m = 5 ∨ m = 6 ∨ m = 7 ∨ m = 8 ∨ m = 9 by omega) with rfl | rfl | rfl | rfl | rfl | rfl | rfl | rfl | rfl | rfl
         all_goals exact after_one ht rfl _ (by decide)
        have hst := hA.store (x := ⟨xa, xs.length + 1, xc⟩) (xs := xs ++ [⟨yk, yn, ys⟩]) (by rw [List.length_append]; exact hown) (by rw [HPl.out]; exact hlt) HGw
        rw [HPl.out] at hst
        refine wpOp_store rfl (w' := w9.setCell ⟨G, i, none⟩ (.slice xa (xs.length + 1) xc)) ?_ ⟨_, rfl, by rw [toL hlt9]; exact J.last hno hall hst⟩
        rw [e8, e9]
        simp [go_sem, p5, y5]
      ·
       intro listed v w9 hs J hr
       have al := all_done hs hr (by decide)
       have l0 := al 0 (by decide)
       have l1 := al 1 (by decide)
       have l2 := al 2 (by decide)
       have l3 := al 3 (by decide)
       have l4 := al 4 (by decide)
       have l5 := al 5 (by decide)
       have l6 := al 6 (by decide)
       have l7 := al 7 (by decide)
       have l8 := al 8 (by decide)
       have l9 := al 9 (by decide)
       have l10 := al 10 (by decide)
       change Exit.inBlock _ _ .normal (putL _ listed v [0, 1, 2, 3, 4, 5, 6, 7, 8, 9, 10] _) w9
       simp only [putL, l0, l1, l2, l3, l4, l5, l6, l7, l8, l9, l10, if_true]
       change Exit.inBlock _ _ .normal (Act.put (Act.put (Act.put (Act.put (Act.put (Act.put (Act.put (Act.put (Act.put (Act.put (Act.put _ (some 65) (v 0)) (some 66) (v 1)) (some 67) (v 2)) (some 68) (v 3)) (some 69) (v 4)) (some 70) (v 5)) (some 71) (v 6)) (some 72) (v 7)) (some 73) (v 8)) (some 74) (v 9)) none (v 10)) w9
       have HPe := hideP (J.rr l10)
       clear J hr hs al l0 l1 l2 l3 l4 l5 l6 l7 l8 l9 l10
       go_wp2_with fail
       go_roundw
       case rel => exact ⟨k + 1, xs ++ [⟨yk, yn, ys⟩], by go_num, by omega, by rw [List.length_append, HXl.out]; rfl, by rw [HMk2.out, HY.out, BG.pre_pre], HPe.out⟩
       case measure => simp [intOf]; omega
end Go.Proofs.YtbcfdhimngoplaaGreatDoor
namespace Go.Proofs.YtbcfdhimngoplaaGreatDoor
open Go.ChangeShapes Go.WideShapes Go.ChangeAt Go.RowKit
set_option linter.unusedVariables false
set_option linter.unusedSimpArgs false
set_option maxRecDepth 100000
set_option maxHeartbeats 4000000
namespace BG
open VM
structure Ky where
 col : Int
 desc : Bool
def cc (k : Ky) (a b : List Vl) : Int := let c := CM.cmp (a.getD k.col.toNat ⟨0, 0, ⟨#[]⟩⟩) (b.getD k.col.toNat ⟨0, 0, ⟨#[]⟩⟩); if k.desc = true then -c else c
def cmpK : List Ky → List Vl → List Vl → Int
 | [], _, _ => 0
 | k :: t, a, b => if cc k a b ≠ 0 then cc k a b else cmpK t a b
end BG
def cdY : Cd BG.Ky := ⟨2, fun x => [.int .i64 x.col, .bool x.desc], by decide, fun _ => rfl, fun x u h => by simp at h; rcases h with rfl | rfl <;> rfl⟩
theorem At.y2 {w : World} {b o : Nat} {l : List BG.Ky} (h : At cdY w b o l) (i : Nat) (hi : i < l.length) : w.cell? ⟨b, o + i * 2, none⟩ = some (.int .i64 l[i].col) ∧ w.cell? ⟨b, o + i * 2 + 1, none⟩ = some (.bool l[i].desc) :=
 ⟨h (i * 2) _ (by have := flat_get cdY l i 0 hi (by decide); simpa [cdY] using this), h (i * 2 + 1) _ (by have := flat_get cdY l i 1 hi (by decide); simpa [cdY] using this)⟩
theorem Tryz.sizeVal3 : (Tryz.prog.info? 56).map (·.size) = some 3 := by kernel_rfl
theorem cb_small : ∀ l m : List UInt8, -1 ≤ Lib.compareBytes l m ∧ Lib.compareBytes l m ≤ 1
 | [], [] => by simp [Lib.compareBytes]
 | [], _ :: _ => by simp [Lib.compareBytes]
 | _ :: _, [] => by simp [Lib.compareBytes]
 | a :: l, b :: m => by
  unfold Lib.compareBytes
  split
  · exact ⟨by decide, by decide⟩
  split
  · exact ⟨by decide, by decide⟩
  · exact cb_small l m
theorem CM.ci_small (x y : Int) : -1 ≤ CM.ci x y ∧ CM.ci x y ≤ 1 := by
 unfold CM.ci
 split
 · exact ⟨by decide, by decide⟩
 split
 · exact ⟨by decide, by decide⟩
 · exact ⟨by decide, by decide⟩
theorem CM.cmp_small (a b : VM.Vl) : -1 ≤ CM.cmp a b ∧ CM.cmp a b ≤ 1 := by
 unfold CM.cmp
 split
 ·
  unfold CM.ord CM.or3
  have h1 := CM.ci_small a.k b.k
  have h2 := CM.ci_small a.n b.n
  have h3 := cb_small a.s.data.toList b.s.data.toList
  split
  · assumption
  split
  · assumption
  · assumption
 · exact ⟨by decide, by decide⟩
def cpS_ty : Nat → TypeId
 | _ => 0
def cpS_dp : Nat → List Nat
 | _ => []
def cpS_dv : Nat → List Nat
 | _ => []
def cpS_val (ba oa na ca bb ob nb cb b8 C : Nat) (ds : Bool) (x y : VM.Vl) (cm : Int) (ck : Nat) : Nat → List Nat → List Value → Value
 | 0, gs, vs => .slice (some ⟨ba, oa, none⟩) (na) (ca)
 | 1, gs, vs => .pointer (some ⟨b8, 0, none⟩)
 | 2, gs, vs => .int .i64 (C)
 | 3, gs, vs => .pointer (some ⟨ba, oa + C * 3, none⟩)
 | 4, gs, vs => .agg #[.int .i64 (x.k), .int .i64 (x.n), .string (x.s)]
 | 5, gs, vs => .slice (some ⟨bb, ob, none⟩) (nb) (cb)
 | 6, gs, vs => .pointer (some ⟨b8, 0, none⟩)
 | 7, gs, vs => .int .i64 (C)
 | 8, gs, vs => .pointer (some ⟨bb, ob + C * 3, none⟩)
 | 9, gs, vs => .agg #[.int .i64 (y.k), .int .i64 (y.n), .string (y.s)]
 | 10, gs, vs => .tuple #[.int .i64 (cm), .int .i64 ((ck : Int))]
 | 11, gs, vs => .tuple #[.int .i64 (cm), .int .i64 ((ck : Int))]
 | 12, gs, vs => .int .i64 (cm)
 | 13, gs, vs => .int .i64 ((ck : Int))
 | 14, gs, vs => .int .i64 (cm)
 | 15, gs, vs => .int .i64 ((ck : Int))
 | _, _, _ => undef
def cpS_cont (ba oa na ca bb ob nb cb b8 C : Nat) (ds : Bool) (x y : VM.Vl) (cm : Int) (ck : Nat) (G : Nat → Nat) (v : Nat → Value) (L : Nat → Bool) : Nat → Array Value
 | _ => #[]
def cpS_X (ba oa na ca bb ob nb cb b8 C : Nat) (ds : Bool) (x y : VM.Vl) (cm : Int) (ck : Nat) : Nat → List Nat → List Value → Value → World → Prop
 | _, _, _, _, _ => True
def cpS (ba oa na ca bb ob nb cb b8 C : Nat) (ds : Bool) (x y : VM.Vl) (cm : Int) (ck : Nat) : Sp := { As := [], ty := cpS_ty, deps := cpS_dp, dv := cpS_dv, val := cpS_val ba oa na ca bb ob nb cb b8 C ds x y cm ck, cont := cpS_cont ba oa na ca bb ob nb cb b8 C ds x y cm ck, Xs := [], cons := fun _ => [], X := cpS_X ba oa na ca bb ob nb cb b8 C ds x y cm ck }
theorem cpS_st (ba oa na ca bb ob nb cb b8 C : Nat) (ds : Bool) (x y : VM.Vl) (cm : Int) (ck : Nat) : ∀ j gs vs z9 (w w' : World), (cpS ba oa na ca bb ob nb cb b8 C ds x y cm ck).X j gs vs z9 w → Fr w w' → (cpS ba oa na ca bb ob nb cb b8 C ds x y cm ck).X j gs vs z9 w' := fun j gs vs z9 w w' h f => by
 show cpS_X ba oa na ca bb ob nb cb b8 C ds x y cm ck j gs vs z9 w'
 unfold cpS_X
 exact trivial
theorem compare_any (kv va vb : Value) (ks : List BG.Ky) (a b : List VM.Vl) (w : World) (hk : IsL cdY w kv ks) (ha : IsL cdV w va a) (hb : IsL cdV w vb b) (hc : ∀ k ∈ ks, 0 ≤ k.col ∧ k.col < (a.length : Int) ∧ k.col < (b.length : Int)) (hl : ks.length ≤ 1000) :
  Calls Tryz.prog 29 #[kv, va, vb] w fun e w' => e = .returned (.int .i64 (BG.cmpK ks a b)) ∧ Fr w w' := by
 obtain ⟨ka, kc, rfl, hkc, hks⟩ := hk
 obtain ⟨aa, ca, rfl, hac, has⟩ := ha
 obtain ⟨ab, cb, rfl, hbc, hbs⟩ := hb
 have HKs := hideP hks
 have HAs := hideP has
 have HBs := hideP hbs
 have HCo := hideP hc
 clear hks has hbs hc
 obtain ⟨Rr, hRr⟩ : ∃ x, BG.cmpK ks a b = x := ⟨_, rfl⟩
 have HR := hideP hRr
 rw [hRr]
 clear hRr
 go_enter Tryz.func29, Tryz.ntmps29
 go_wp2_with fail
 go_loopw [8, 9, 10, 13] (fun _ _ _ iv wr => ∃ (i : Nat), iv = .int .i64 i ∧ i ≤ ks.length ∧ BG.cmpK (ks.drop i) a b = Rr ∧ Fr w wr) (fun _ _ _ iv _ => ks.length - (intOf iv).toNat)
 case atStart => exact ⟨0, rfl, Nat.zero_le _, HR.out, Fr.refl _⟩
 case round =>
  obtain ⟨i, rfl, hi, hRi, hfr⟩ := hrel
  by_cases hlt : i < ks.length
  case neg =>
   obtain rfl : i = ks.length := by omega
   have HZ := hideP (show Rr = 0 by rw [← hRi, List.drop_length]; rfl)
   have HF := hideP hfr
   clear hRi hfr
   go_wp2_with fail
   go_ret
   exact ⟨by rw [HZ.out]; rfl, HF.out⟩
  ·
   have hlt' : (i : Int) < (ks.length : Int) := by omega
   obtain ⟨bk, ok, rfl, hbk, hkat⟩ : ∃ b o, ka = some ⟨b, o, none⟩ ∧ b < w.heap.size ∧ At cdY w b o ks := by
    rcases HKs.out with h | h
    · rw [h] at hlt; simp at hlt
    · exact h
   obtain ⟨c0, c1⟩ := (hkat.fr hbk hfr).y2 i hlt
   have hco := HCo.out ks[i] (List.getElem_mem hlt)
   rw [List.drop_eq_getElem_cons hlt] at hRi
   generalize ks[i] = y0 at *
   obtain ⟨col, ds⟩ := y0
   simp only at c0 c1 hco
   obtain ⟨C, rfl⟩ : ∃ C : Nat, col = (C : Int) := ⟨col.toNat, by omega⟩
   have hCa' : C < a.length := by omega
   have hCb' : C < b.length := by omega
   obtain ⟨ba, oa, rfl, hba, haat⟩ : ∃ b o, aa = some ⟨b, o, none⟩ ∧ b < w.heap.size ∧ At cdV w b o a := by
    rcases HAs.out with h | h
    · rw [h] at hCa'; simp at hCa'
    · exact h
   obtain ⟨bb, ob, rfl, hbb, hbat⟩ : ∃ b' o, ab = some ⟨b', o, none⟩ ∧ b' < w.heap.size ∧ At cdV w b' o b := by
    rcases HBs.out with h | h
    · rw [h] at hCb'; simp at hCb'
    · exact h
   have hcc : BG.cc ⟨(C : Int), ds⟩ a b = if ds = true then -(CM.cmp a[C] b[C]) else CM.cmp a[C] b[C] := by
    unfold BG.cc
    simp only [Int.toNat_natCast, List.getD_eq_getElem?_getD, List.getElem?_eq_getElem hCa', List.getElem?_eq_getElem hCb', Option.getD_some]
   have hRi2 : (if BG.cc ⟨(C : Int), ds⟩ a b ≠ 0 then BG.cc ⟨(C : Int), ds⟩ a b else BG.cmpK (ks.drop (i + 1)) a b) = Rr := hRi
   rw [hcc] at hRi2
   have hsm := CM.cmp_small a[C] b[C]
   have HB8 := hideP (Blk.new wr #[.int .i64 (C : Int), .bool ds] 46)
   have F8 := hideP (hfr.alloc (.cells #[.int .i64 (C : Int), .bool ds] 46))
   obtain ⟨b8, hb8⟩ : ∃ x, wr.heap.size = x := ⟨_, rfl⟩
   rw [hb8] at HB8
   have HXa := hideP (haat.fr hba hfr)
   have HXb := hideP (hbat.fr hbb hfr)
   have HCa := hideP (fun W (f : Fr (wr.alloc (.cells #[.int .i64 (C : Int), .bool ds] 46)) W) => (haat.fr hba (F8.out.trans f)).v3 C hCa')
   have HCb := hideP (fun W (f : Fr (wr.alloc (.cells #[.int .i64 (C : Int), .bool ds] 46)) W) => (hbat.fr hbb (F8.out.trans f)).v3 C hCb')
   have HCm := hideP (fun W => valCompare_any a[C] b[C] W)
   generalize a[C] = x at *
   generalize b[C] = y at *
   have hCa : (C : Int) < (a.length : Int) := by omega
   have hCb : (C : Int) < (b.length : Int) := by omega
   generalize hna : a.length = na at *
   generalize hnb : b.length = nb at *
   generalize CM.cmp x y = cm at *
   generalize VM.chkAll [x, y] = ck at *
   have HRi := hideP hRi2
   clear hRi hRi2 hfr hkat haat hbat hcc HXa HXb hco
   go_upto_region 4 with fail
   generalize wr.alloc (.cells #[.int .i64 (C : Int), .bool ds] 46) = W4 at *
   clear c0 c1 hb8
   refine region_inv2 rfl (fun listed v w9' => ∃ G, RZ (cpS ba oa na ca bb ob nb cb b8 C ds x y cm ck) W4 G (fun i => listed.getD i false) v w9') ⟨_, RZ.start (Fr.drew (Fr.refl _)) 16 _⟩ (by decide) ?_ ?_
   ·
    rintro listed v w9' A hs ⟨G, J⟩ HA HO i hi
    have hi1 := (ready_spec hi).1
    have hlt : i < listed.size := by rw [hs]; exact hi1
    have hno := not_yet hs hi
    have hiN : i < 16 := hi1
    rcases (show i = 0 ∨ i = 1 ∨ i = 2 ∨ i = 3 ∨ i = 4 ∨ i = 5 ∨ i = 6 ∨ i = 7 ∨ i = 8 ∨ i = 9 ∨ i = 10 ∨ i = 11 ∨ i = 12 ∨ i = 13 ∨ i = 14 ∨ i = 15 by omega) with rfl | rfl | rfl | rfl | rfl | rfl | rfl | rfl | rfl | rfl | rfl | rfl | rfl | rfl | rfl | rfl
    ·
     have t1 : A.eval (.tmp 1) = .slice (some ⟨ba, oa, none⟩) (na) (ca) := HO 1 (by decide)
     exact wpOp_gval rfl (wanted_none rfl) (x := .slice (some ⟨ba, oa, none⟩) (na) (ca)) (w' := w9') (exec_mv t1) ⟨_, rfl, _, by rw [toL hlt]; exact J.pure 0 hno (show 0 ∉ ([] : List Nat) from by decide) (show 0 ∉ ([] : List Nat) from by decide) (by intro d hd; cases hd) (by intro d hd; cases hd) (Fr.refl _) (cpS_st ba oa na ca bb ob nb cb b8 C ds x y cm ck) (by intro k hk; cases hk)⟩
    ·
     have t8 : A.eval (.tmp 8) = .pointer (some ⟨b8, 0, none⟩) := HO 8 (by decide)
     refine wpOp_gis (Instr.fieldAt 46 (A.eval (.tmp 8)) 0) rfl (wanted_none rfl) rfl (y := .pointer (some ⟨b8, 0, none⟩)) (w' := w9') ?_ ⟨_, rfl, _, by rw [toL hlt]; exact J.pure 1 hno (show 1 ∉ ([] : List Nat) from by decide) (show 1 ∉ ([] : List Nat) from by decide) (by intro d hd; cases hd) (by intro d hd; cases hd) (Fr.refl _) (cpS_st ba oa na ca bb ob nb cb b8 C ds x y cm ck) (by intro k hk; cases hk)⟩
     rw [t8]
     kernel_rfl
    ·
     have h1 := after_one hi rfl 1 (by decide)
     have e1 : A.eval (.tmp 19) = .pointer (some ⟨b8, 0, none⟩) := (HA 1 19 rfl (by show 19 < 39; decide) h1).trans (J.vl 1 (show 1 ∉ ([] : List Nat) from by decide) h1)
     refine wpOp_gis (Instr.loadAt 3 (A.eval (.tmp 19))) rfl (wanted_none rfl) rfl (y := .int .i64 (C)) (w' := w9') ?_ ⟨_, rfl, _, by rw [toL hlt]; exact J.pure 2 hno (show 2 ∉ ([] : List Nat) from by decide) (show 2 ∉ ([] : List Nat) from by decide) (by intro d hd; cases hd) (by intro d hd; cases hd) (Fr.refl _) (cpS_st ba oa na ca bb ob nb cb b8 C ds x y cm ck) (by intro k hk; cases hk)⟩
     rw [e1]
     have m0 : w9'.cell? ⟨b8, 0, none⟩ = some (.int .i64 (C)) := (HB8.out.fr J.fr).cell 0 rfl
     simp [go_sem, m0]
    ·
     have h0 := after_one hi rfl 0 (by decide)
     have e0 : A.eval (.tmp 18) = .slice (some ⟨ba, oa, none⟩) (na) (ca) := (HA 0 18 rfl (by show 18 < 39; decide) h0).trans (J.vl 0 (show 0 ∉ ([] : List Nat) from by decide) h0)
     have h2 := after_one hi rfl 2 (by decide)
     have e2 : A.eval (.tmp 20) = .int .i64 (C) := (HA 2 20 rfl (by show 20 < 39; decide) h2).trans (J.vl 2 (show 2 ∉ ([] : List Nat) from by decide) h2)
     refine wpOp_gis (Instr.indexAt 31 (A.eval (.tmp 18)) (A.eval (.tmp 20))) rfl (wanted_none rfl) rfl (y := .pointer (some ⟨ba, oa + C * 3, none⟩)) (w' := w9') ?_ ⟨_, rfl, _, by rw [toL hlt]; exact J.pure 3 hno (show 3 ∉ ([] : List Nat) from by decide) (show 3 ∉ ([] : List Nat) from by decide) (by intro d hd; cases hd) (by intro d hd; cases hd) (Fr.refl _) (cpS_st ba oa na ca bb ob nb cb b8 C ds x y cm ck) (by intro k hk; cases hk)⟩
     rw [e0, e2]
     simp [go_sem, hCa, Tryz.underlying31, Tryz.sizeVal3]
    ·
     have h3 := after_one hi rfl 3 (by decide)
     have e3 : A.eval (.tmp 21) = .pointer (some ⟨ba, oa + C * 3, none⟩) := (HA 3 21 rfl (by show 21 < 39; decide) h3).trans (J.vl 3 (show 3 ∉ ([] : List Nat) from by decide) h3)
     refine wpOp_gis (Instr.loadAt 56 (A.eval (.tmp 21))) rfl (wanted_none rfl) rfl (y := .agg #[.int .i64 (x.k), .int .i64 (x.n), .string (x.s)]) (w' := w9') ?_ ⟨_, rfl, _, by rw [toL hlt]; exact J.pure 4 hno (show 4 ∉ ([] : List Nat) from by decide) (show 4 ∉ ([] : List Nat) from by decide) (by intro d hd; cases hd) (by intro d hd; cases hd) (Fr.refl _) (cpS_st ba oa na ca bb ob nb cb b8 C ds x y cm ck) (by intro k hk; cases hk)⟩
     rw [e3]
     obtain ⟨m0, m1, m2⟩ := HCa.out w9' J.fr
     simp [go_sem, m0, m1, m2]
    ·
     have t2 : A.eval (.tmp 2) = .slice (some ⟨bb, ob, none⟩) (nb) (cb) := HO 2 (by decide)
     exact wpOp_gval rfl (wanted_none rfl) (x := .slice (some ⟨bb, ob, none⟩) (nb) (cb)) (w' := w9') (exec_mv t2) ⟨_, rfl, _, by rw [toL hlt]; exact J.pure 5 hno (show 5 ∉ ([] : List Nat) from by decide) (show 5 ∉ ([] : List Nat) from by decide) (by intro d hd; cases hd) (by intro d hd; cases hd) (Fr.refl _) (cpS_st ba oa na ca bb ob nb cb b8 C ds x y cm ck) (by intro k hk; cases hk)⟩
    ·
     have t8 : A.eval (.tmp 8) = .pointer (some ⟨b8, 0, none⟩) := HO 8 (by decide)
     refine wpOp_gis (Instr.fieldAt 46 (A.eval (.tmp 8)) 0) rfl (wanted_none rfl) rfl (y := .pointer (some ⟨b8, 0, none⟩)) (w' := w9') ?_ ⟨_, rfl, _, by rw [toL hlt]; exact J.pure 6 hno (show 6 ∉ ([] : List Nat) from by decide) (show 6 ∉ ([] : List Nat) from by decide) (by intro d hd; cases hd) (by intro d hd; cases hd) (Fr.refl _) (cpS_st ba oa na ca bb ob nb cb b8 C ds x y cm ck) (by intro k hk; cases hk)⟩
     rw [t8]
     kernel_rfl
    ·
     have h6 := after_one hi rfl 6 (by decide)
     have e6 : A.eval (.tmp 24) = .pointer (some ⟨b8, 0, none⟩) := (HA 6 24 rfl (by show 24 < 39; decide) h6).trans (J.vl 6 (show 6 ∉ ([] : List Nat) from by decide) h6)
     refine wpOp_gis (Instr.loadAt 3 (A.eval (.tmp 24))) rfl (wanted_none rfl) rfl (y := .int .i64 (C)) (w' := w9') ?_ ⟨_, rfl, _, by rw [toL hlt]; exact J.pure 7 hno (show 7 ∉ ([] : List Nat) from by decide) (show 7 ∉ ([] : List Nat) from by decide) (by intro d hd; cases hd) (by intro d hd; cases hd) (Fr.refl _) (cpS_st ba oa na ca bb ob nb cb b8 C ds x y cm ck) (by intro k hk; cases hk)⟩
     rw [e6]
     have m0 : w9'.cell? ⟨b8, 0, none⟩ = some (.int .i64 (C)) := (HB8.out.fr J.fr).cell 0 rfl
     simp [go_sem, m0]
    ·
     have h5 := after_one hi rfl 5 (by decide)
     have e5 : A.eval (.tmp 23) = .slice (some ⟨bb, ob, none⟩) (nb) (cb) := (HA 5 23 rfl (by show 23 < 39; decide) h5).trans (J.vl 5 (show 5 ∉ ([] : List Nat) from by decide) h5)
     have h7 := after_one hi rfl 7 (by decide)
     have e7 : A.eval (.tmp 25) = .int .i64 (C) := (HA 7 25 rfl (by show 25 < 39; decide) h7).trans (J.vl 7 (show 7 ∉ ([] : List Nat) from by decide) h7)
     refine wpOp_gis (Instr.indexAt 31 (A.eval (.tmp 23)) (A.eval (.tmp 25))) rfl (wanted_none rfl) rfl (y := .pointer (some ⟨bb, ob + C * 3, none⟩)) (w' := w9') ?_ ⟨_, rfl, _, by rw [toL hlt]; exact J.pure 8 hno (show 8 ∉ ([] : List Nat) from by decide) (show 8 ∉ ([] : List Nat) from by decide) (by intro d hd; cases hd) (by intro d hd; cases hd) (Fr.refl _) (cpS_st ba oa na ca bb ob nb cb b8 C ds x y cm ck) (by intro k hk; cases hk)⟩
     rw [e5, e7]
     simp [go_sem, hCb, Tryz.underlying31, Tryz.sizeVal3]
    ·
     have h8 := after_one hi rfl 8 (by decide)
     have e8 : A.eval (.tmp 26) = .pointer (some ⟨bb, ob + C * 3, none⟩) := (HA 8 26 rfl (by show 26 < 39; decide) h8).trans (J.vl 8 (show 8 ∉ ([] : List Nat) from by decide) h8)
     refine wpOp_gis (Instr.loadAt 56 (A.eval (.tmp 26))) rfl (wanted_none rfl) rfl (y := .agg #[.int .i64 (y.k), .int .i64 (y.n), .string (y.s)]) (w' := w9') ?_ ⟨_, rfl, _, by rw [toL hlt]; exact J.pure 9 hno (show 9 ∉ ([] : List Nat) from by decide) (show 9 ∉ ([] : List Nat) from by decide) (by intro d hd; cases hd) (by intro d hd; cases hd) (Fr.refl _) (cpS_st ba oa na ca bb ob nb cb b8 C ds x y cm ck) (by intro k hk; cases hk)⟩
     rw [e8]
     obtain ⟨m0, m1, m2⟩ := HCb.out w9' J.fr
     simp [go_sem, m0, m1, m2]
    ·
     have h4 := after_one hi rfl 4 (by decide)
     have e4 : A.eval (.tmp 22) = .agg #[.int .i64 (x.k), .int .i64 (x.n), .string (x.s)] := (HA 4 22 rfl (by show 22 < 39; decide) h4).trans (J.vl 4 (show 4 ∉ ([] : List Nat) from by decide) h4)
     have h9 := after_one hi rfl 9 (by decide)
     have e9 : A.eval (.tmp 27) = .agg #[.int .i64 (y.k), .int .i64 (y.n), .string (y.s)] := (HA 9 27 rfl (by show 27 < 39; decide) h9).trans (J.vl 9 (show 9 ∉ ([] : List Nat) from by decide) h9)
     refine wpOp_gcall rfl (wanted_none rfl) (args := #[.agg #[.int .i64 (x.k), .int .i64 (x.n), .string (x.s)], .agg #[.int .i64 (y.k), .int .i64 (y.n), .string (y.s)]]) (by first | rfl | (simp only [List.map_toArray, List.map_cons, List.map_nil, e4, e9]; done) | (simp only [List.map_toArray, List.map_cons, List.map_nil, e4, e9]; rfl)) (by kernel_rfl) (HCm.out w9') ?_
     rintro e w2 ⟨rfl, f2⟩
     exact ⟨_, rfl, _, rfl, _, by rw [toL hlt]; exact J.pure 10 hno (show 10 ∉ ([] : List Nat) from by decide) (show 10 ∉ ([] : List Nat) from by decide) (by intro d hd; cases hd) (by intro d hd; cases hd) f2 (cpS_st ba oa na ca bb ob nb cb b8 C ds x y cm ck) (by intro k hk; cases hk)⟩
    ·
     have h10 := after_one hi rfl 10 (by decide)
     have e10 : A.eval (.tmp 28) = .tuple #[.int .i64 (cm), .int .i64 ((ck : Int))] := (HA 10 28 rfl (by show 28 < 39; decide) h10).trans (J.vl 10 (show 10 ∉ ([] : List Nat) from by decide) h10)
     exact wpOp_gval rfl (wanted_none rfl) (x := .tuple #[.int .i64 (cm), .int .i64 ((ck : Int))]) (w' := w9') (exec_mv e10) ⟨_, rfl, _, by rw [toL hlt]; exact J.pure 11 hno (show 11 ∉ ([] : List Nat) from by decide) (show 11 ∉ ([] : List Nat) from by decide) (by intro d hd; cases hd) (by intro d hd; cases hd) (Fr.refl _) (cpS_st ba oa na ca bb ob nb cb b8 C ds x y cm ck) (by intro k hk; cases hk)⟩
    ·
     have h11 := after_one hi rfl 11 (by decide)
     have e11 : A.eval (.tmp 17) = .tuple #[.int .i64 (cm), .int .i64 ((ck : Int))] := (HA 11 17 rfl (by show 17 < 39; decide) h11).trans (J.vl 11 (show 11 ∉ ([] : List Nat) from by decide) h11)
     refine wpOp_gis (Instr.extract (A.eval (.tmp 17)) 0) rfl (wanted_none rfl) rfl (y := .int .i64 (cm)) (w' := w9') ?_ ⟨_, rfl, _, by rw [toL hlt]; exact J.pure 12 hno (show 12 ∉ ([] : List Nat) from by decide) (show 12 ∉ ([] : List Nat) from by decide) (by intro d hd; cases hd) (by intro d hd; cases hd) (Fr.refl _) (cpS_st ba oa na ca bb ob nb cb b8 C ds x y cm ck) (by intro k hk; cases hk)⟩
     rw [e11]
     kernel_rfl
    ·
     have h11 := after_one hi rfl 11 (by decide)
     have e11 : A.eval (.tmp 17) = .tuple #[.int .i64 (cm), .int .i64 ((ck : Int))] := (HA 11 17 rfl (by show 17 < 39; decide) h11).trans (J.vl 11 (show 11 ∉ ([] : List Nat) from by decide) h11)
     refine wpOp_gis (Instr.extract (A.eval (.tmp 17)) 1) rfl (wanted_none rfl) rfl (y := .int .i64 ((ck : Int))) (w' := w9') ?_ ⟨_, rfl, _, by rw [toL hlt]; exact J.pure 13 hno (show 13 ∉ ([] : List Nat) from by decide) (show 13 ∉ ([] : List Nat) from by decide) (by intro d hd; cases hd) (by intro d hd; cases hd) (Fr.refl _) (cpS_st ba oa na ca bb ob nb cb b8 C ds x y cm ck) (by intro k hk; cases hk)⟩
     rw [e11]
     kernel_rfl
    ·
     have h12 := after_one hi rfl 12 (by decide)
     have e12 : A.eval (.tmp 29) = .int .i64 (cm) := (HA 12 29 rfl (by show 29 < 39; decide) h12).trans (J.vl 12 (show 12 ∉ ([] : List Nat) from by decide) h12)
     exact wpOp_gval rfl (wanted_none rfl) (x := .int .i64 (cm)) (w' := w9') (exec_as e12) ⟨_, rfl, _, by rw [toL hlt]; exact J.pure 14 hno (show 14 ∉ ([] : List Nat) from by decide) (show 14 ∉ ([] : List Nat) from by decide) (by intro d hd; cases hd) (by intro d hd; cases hd) (Fr.refl _) (cpS_st ba oa na ca bb ob nb cb b8 C ds x y cm ck) (by intro k hk; cases hk)⟩
    ·
     have h13 := after_one hi rfl 13 (by decide)
     have e13 : A.eval (.tmp 30) = .int .i64 ((ck : Int)) := (HA 13 30 rfl (by show 30 < 39; decide) h13).trans (J.vl 13 (show 13 ∉ ([] : List Nat) from by decide) h13)
     exact wpOp_gval rfl (wanted_none rfl) (x := .int .i64 ((ck : Int))) (w' := w9') (exec_as e13) ⟨_, rfl, _, by rw [toL hlt]; exact J.pure 15 hno (show 15 ∉ ([] : List Nat) from by decide) (show 15 ∉ ([] : List Nat) from by decide) (by intro d hd; cases hd) (by intro d hd; cases hd) (Fr.refl _) (cpS_st ba oa na ca bb ob nb cb b8 C ds x y cm ck) (by intro k hk; cases hk)⟩
   ·
    rintro listed v w9' hs ⟨G, J⟩ hr
    have al := all_done hs hr (by decide)
    have l0 := al 0 (by decide)
    have l1 := al 1 (by decide)
    have l2 := al 2 (by decide)
    have l3 := al 3 (by decide)
    have l4 := al 4 (by decide)
    have l5 := al 5 (by decide)
    have l6 := al 6 (by decide)
    have l7 := al 7 (by decide)
    have l8 := al 8 (by decide)
    have l9 := al 9 (by decide)
    have l10 := al 10 (by decide)
    have l11 := al 11 (by decide)
    have l12 := al 12 (by decide)
    have l13 := al 13 (by decide)
    have l14 := al 14 (by decide)
    have l15 := al 15 (by decide)
    change Exit.then _ _ .normal (putL _ listed v [0, 1, 2, 3, 4, 5, 6, 7, 8, 9, 10, 11, 12, 13, 14, 15] _) w9'
    simp only [putL, l0, l1, l2, l3, l4, l5, l6, l7, l8, l9, l10, l11, l12, l13, l14, l15, if_true]
    change Exit.then _ _ .normal (Act.put (Act.put (Act.put (Act.put (Act.put (Act.put (Act.put (Act.put (Act.put (Act.put (Act.put (Act.put (Act.put (Act.put (Act.put (Act.put _ (some 18) (v 0)) (some 19) (v 1)) (some 20) (v 2)) (some 21) (v 3)) (some 22) (v 4)) (some 23) (v 5)) (some 24) (v 6)) (some 25) (v 7)) (some 26) (v 8)) (some 27) (v 9)) (some 28) (v 10)) (some 17) (v 11)) (some 29) (v 12)) (some 30) (v 13)) (some 9) (v 14)) (some 10) (v 15)) w9'
    have hv14 : v 14 = .int .i64 (cm) := J.vl 14 (show 14 ∉ ([] : List Nat) from by decide) l14
    rw [hv14]
    have HF9 := hideP (F8.out.trans J.fr)
    have q0 := (HB8.out.fr J.fr).cell 0 rfl
    have q1 : w9'.cell? ⟨b8, 1, none⟩ = some (.bool ds) := (HB8.out.fr J.fr).cell 1 rfl
    clear al l0 l1 l2 l3 l4 l5 l6 l7 l8 l9 l10 l11 l12 l13 l14 l15 J hr hs hv14
    by_cases hds : ds = true
    ·
     subst hds
     by_cases h0 : cm = 0
     ·
      subst h0
      replace HRi := hideP (show BG.cmpK (ks.drop (i + 1)) a b = Rr from HRi.out)
      go_wp2_with fail
      go_roundw
      case rel => exact ⟨i + 1, by go_num, by omega, HRi.out, HF9.out⟩
      case measure => simp [intOf]; omega
     ·
      have e1 : ((-cm) != 0) = true := by simp; omega
      have e2 : ¬ (-cm = 0) := by omega
      have HZ := hideP (show -cm = Rr by have h := HRi.out; rw [if_pos rfl, if_pos e2] at h; exact h)
      go_wp2_with fail
      go_ret
      exact ⟨by rw [← HZ.out]; rfl, HF9.out⟩
    ·
     have hds : ds = false := by simpa using hds
     subst hds
     by_cases h0 : cm = 0
     ·
      subst h0
      replace HRi := hideP (show BG.cmpK (ks.drop (i + 1)) a b = Rr from HRi.out)
      go_wp2_with fail
      go_roundw
      case rel => exact ⟨i + 1, by go_num, by omega, HRi.out, HF9.out⟩
      case measure => simp [intOf]; omega
     ·
      have e1 : (cm != 0) = true := by simp; omega
      have e2 : ¬ (cm = 0) := by omega
      have HZ := hideP (show cm = Rr by have h := HRi.out; rw [show (if false = true then -cm else cm) = cm from if_neg (by decide), if_pos e2] at h; exact h)
      go_wp2_with fail
      go_ret
      exact ⟨by rw [← HZ.out]; rfl, HF9.out⟩
end Go.Proofs.YtbcfdhimngoplaaGreatDoor
namespace Go.Proofs.YtbcfdhimngoplaaGreatDoor
namespace SM
open VM
theorem cb_anti : ∀ l m : List UInt8, Lib.compareBytes m l = - Lib.compareBytes l m
 | [], [] => by simp [Lib.compareBytes]
 | [], _ :: _ => by simp [Lib.compareBytes]
 | _ :: _, [] => by simp [Lib.compareBytes]
 | a :: l, b :: m => by
  have ih := cb_anti l m
  unfold Lib.compareBytes
  by_cases h1 : a < b
  ·
   have h2 : ¬ b < a := by rw [UInt8.lt_iff_toNat_lt] at *; omega
   rw [if_neg h2, if_pos h1, if_pos h1]; rfl
  ·
   by_cases h2 : b < a
   · rw [if_pos h2, if_neg h1, if_pos h2]
   ·
    rw [if_neg h2, if_neg h1, if_neg h1, if_neg h2]
    exact ih
theorem ci_anti (x y : Int) : CM.ci y x = - CM.ci x y := by
 unfold CM.ci
 repeat' split
 all_goals omega
theorem ord_anti (a b : Vl) : CM.ord b a = - CM.ord a b := by
 unfold CM.ord
 rw [ci_anti a.k b.k, ci_anti a.n b.n, cb_anti a.s.data.toList b.s.data.toList]
 unfold CM.or3
 repeat' split
 all_goals omega
theorem cb_eq (a b : UInt8) (l m : List UInt8) : Lib.compareBytes (a :: l) (b :: m) = if a.toNat < b.toNat then -1 else if b.toNat < a.toNat then 1 else Lib.compareBytes l m := by
 rw [Lib.compareBytes]
 simp only [UInt8.lt_iff_toNat_lt]
theorem cb_trans : ∀ l m n : List UInt8, Lib.compareBytes l m ≤ 0 → Lib.compareBytes m n ≤ 0 → Lib.compareBytes l n ≤ 0
 | [], _, [], _, _ => by simp [Lib.compareBytes]
 | [], _, _ :: _, _, _ => by simp [Lib.compareBytes]
 | _ :: _, [], _, h, _ => by simp [Lib.compareBytes] at h
 | _ :: _, _ :: _, [], _, h => by simp [Lib.compareBytes] at h
 | a :: l, b :: m, c :: n, h1, h2 => by
  rw [cb_eq] at h1 h2 ⊢
  have ih := cb_trans l m n
  split at h1
  ·
   split at h2
   · rw [if_pos (by omega)]; decide
   ·
    split at h2
    · omega
    · rw [if_pos (by omega)]; decide
  ·
   split at h1
   · omega
   ·
    split at h2
    · rw [if_pos (by omega)]; decide
    ·
     split at h2
     · omega
     ·
      rw [if_neg (by omega), if_neg (by omega)]
      exact ih h1 h2
theorem ord_le (a b : Vl) : CM.ord a b ≤ 0 ↔ a.k < b.k ∨ (a.k = b.k ∧ (a.n < b.n ∨ (a.n = b.n ∧ Lib.compareBytes a.s.data.toList b.s.data.toList ≤ 0))) := by
 unfold CM.ord CM.or3 CM.ci
 generalize Lib.compareBytes a.s.data.toList b.s.data.toList = z
 by_cases h1 : a.k < b.k
 · rw [if_pos h1]; simp [h1]
 ·
  by_cases h2 : b.k < a.k
  · rw [if_neg h1, if_pos h2]; simp; omega
  ·
   by_cases h3 : a.n < b.n
   · rw [if_neg h1, if_neg h2, if_pos h3]; simp; omega
   ·
    by_cases h4 : b.n < a.n
    · rw [if_neg h1, if_neg h2, if_neg h3, if_pos h4]; simp; omega
    · rw [if_neg h1, if_neg h2, if_neg h3, if_neg h4]; simp; omega
theorem ord_trans (a b c : Vl) (h1 : CM.ord a b ≤ 0) (h2 : CM.ord b c ≤ 0) : CM.ord a c ≤ 0 := by
 rw [ord_le] at *
 rcases h1 with h1 | ⟨e1, h1 | ⟨e2, h1⟩⟩
 · left; omega
 ·
  rcases h2 with h2 | ⟨e3, h2 | ⟨e4, h2⟩⟩
  · left; omega
  · right; exact ⟨by omega, Or.inl (by omega)⟩
  · right; exact ⟨by omega, Or.inl (by omega)⟩
 ·
  rcases h2 with h2 | ⟨e3, h2 | ⟨e4, h2⟩⟩
  · left; omega
  · right; exact ⟨by omega, Or.inl (by omega)⟩
  · right; exact ⟨by omega, Or.inr ⟨by omega, cb_trans _ _ _ h1 h2⟩⟩
def le (x y : Vl) : Bool := decide (CM.ord x y ≤ 0)
def srt (l : List Vl) : List Vl := l.mergeSort le
theorem le_trans (a b c : Vl) (h1 : le a b = true) (h2 : le b c = true) : le a c = true := by
 unfold le at *
 simp only [decide_eq_true_eq] at *
 exact ord_trans a b c h1 h2
end SM
end Go.Proofs.YtbcfdhimngoplaaGreatDoor
set_option linter.unusedVariables false
set_option linter.unusedSimpArgs false
namespace Go.Proofs.YtbcfdhimngoplaaGreatDoor
namespace BO
variable {α : Type}
structure Weak (lt : α → α → Bool) : Prop where
 irrefl : ∀ a, lt a a = false
 asym : ∀ a b, lt a b = true → lt b a = false
 neg : ∀ a b c, lt a c = true → lt a b = true ∨ lt b c = true
def eqv (lt : α → α → Bool) (a b : α) : Bool := !lt a b && !lt b a
def Sorted (lt : α → α → Bool) (l : List α) : Prop := l.Pairwise fun a b => lt b a = false
structure Of (lt : α → α → Bool) (l m : List α) : Prop where
 sorted : Sorted lt m
 same : ∀ x, m.filter (eqv lt x) = l.filter (eqv lt x)
variable {lt : α → α → Bool}
theorem eqv_iff {a b : α} : eqv lt a b = true ↔ lt a b = false ∧ lt b a = false := by simp [eqv]
theorem eqv_symm {a b : α} (e : eqv lt a b = true) : eqv lt b a = true := by rw [eqv_iff] at e ⊢; exact ⟨e.2, e.1⟩
theorem eqv_trans (h : Weak lt) {a b c : α} (e : eqv lt a b = true) (f : eqv lt b c = true) : eqv lt a c = true := by
 rw [eqv_iff] at e f ⊢
 constructor
 ·
  cases g : lt a c with
  | false => rfl
  | true =>
   rcases h.neg a b c g with x | x
   · rw [e.1] at x; simp at x
   · rw [f.1] at x; simp at x
 ·
  cases g : lt c a with
  | false => rfl
  | true =>
   rcases h.neg c b a g with x | x
   · rw [f.2] at x; simp at x
   · rw [e.2] at x; simp at x
def ins (lt : α → α → Bool) (x : α) : List α → List α
 | [] => [x]
 | y :: l => if lt x y then x :: y :: l else y :: ins lt x l
def sort (lt : α → α → Bool) (l : List α) : List α := l.foldl (fun m x => ins lt x m) []
theorem ins_at {x : α} {b : List α} (hb : ∀ y, b.head? = some y → lt x y = true) : ∀ {a : List α}, (∀ y ∈ a, lt x y = false) → ins lt x (a ++ b) = a ++ x :: b
 | [], _ => by
  cases b with
  | nil => rfl
  | cons y b => simp [ins, hb y rfl]
 | y :: a, ha => by
  rw [List.cons_append, ins, if_neg (by simp [ha y (by simp)]), ins_at hb fun z hz => ha z (by simp [hz])]; rfl
theorem ins_mem {x y : α} : ∀ {l : List α}, y ∈ ins lt x l ↔ y = x ∨ y ∈ l
 | [] => by simp [ins]
 | z :: l => by
  rw [ins]; split
  · simp
  ·
   simp only [List.mem_cons, ins_mem (l := l)]
   constructor
   · rintro (a | a | a) <;> simp [a]
   · rintro (a | a | a) <;> simp [a]
theorem ins_sorted (h : Weak lt) {x : α} : ∀ {l : List α}, Sorted lt l → Sorted lt (ins lt x l)
 | [], _ => by simp [ins, Sorted]
 | y :: l, hl => by
  obtain ⟨a, b⟩ := List.pairwise_cons.mp hl
  rw [ins]; split
  ·
   rename_i g
   refine List.pairwise_cons.mpr ⟨?_, hl⟩
   intro z hz
   rcases List.mem_cons.mp hz with rfl | hz
   · exact h.asym _ _ g
   ·
    cases e : lt z x with
    | false => rfl
    | true =>
     rcases h.neg z y x e with f | f
     · rw [a z hz] at f; simp at f
     · rw [h.asym _ _ g] at f; simp at f
  ·
   rename_i g
   refine List.pairwise_cons.mpr ⟨?_, ins_sorted h b⟩
   intro z hz
   rcases ins_mem.mp hz with rfl | hz
   · simpa using g
   · exact a z hz
theorem ins_filter (h : Weak lt) {x z : α} : ∀ {l : List α}, Sorted lt l → (ins lt x l).filter (eqv lt z) = l.filter (eqv lt z) ++ [x].filter (eqv lt z)
 | [], _ => by simp [ins]
 | y :: l, hl => by
  obtain ⟨a, b⟩ := List.pairwise_cons.mp hl
  rw [ins]; split
  ·
   rename_i g
   by_cases f : eqv lt z x = true
   ·
    have none : (y :: l).filter (eqv lt z) = [] := by
     rw [List.filter_eq_nil_iff]
     intro w hw e
     have xw := eqv_iff.mp (eqv_trans h (eqv_symm f) e)
     rcases List.mem_cons.mp hw with rfl | hw
     · rw [xw.1] at g; simp at g
     ·
      rcases h.neg x w y g with c | c
      · rw [xw.1] at c; simp at c
      · rw [a w hw] at c; simp at c
    rw [List.filter_cons_of_pos f, none]; simp [f]
   · rw [List.filter_cons_of_neg f]; simp [f]
  ·
   have ih := ins_filter h (x := x) (z := z) b
   by_cases f : eqv lt z y = true
   · rw [List.filter_cons_of_pos f, List.filter_cons_of_pos f, ih]; rfl
   · rw [List.filter_cons_of_neg f, List.filter_cons_of_neg f, ih]
theorem fold_of (h : Weak lt) : ∀ (l m k : List α), Of lt k m → Of lt (k ++ l) (l.foldl (fun m x => ins lt x m) m)
 | [], m, k, hm => by simpa using hm
 | x :: l, m, k, hm => by
  have := fold_of h l (ins lt x m) (k ++ [x]) ⟨ins_sorted h hm.sorted, fun z => by
   rw [ins_filter h hm.sorted, hm.same, List.filter_append]⟩
  simpa using this
theorem sort_of (h : Weak lt) (l : List α) : Of lt l (sort lt l) := by
 simpa [sort] using fold_of h l [] [] ⟨List.Pairwise.nil, fun _ => rfl⟩
theorem ins_perm (x : α) : ∀ (l : List α), (ins lt x l).Perm (x :: l)
 | [] => .refl _
 | y :: l => by
  rw [ins]; split
  · exact .refl _
  · exact ((ins_perm x l).cons y).trans (.swap x y l)
theorem fold_perm : ∀ (l m : List α), (l.foldl (fun m x => ins lt x m) m).Perm (l ++ m)
 | [], m => .refl _
 | x :: l, m => by
  refine (fold_perm l _).trans ?_
  refine ((ins_perm x m).append_left l).trans ?_
  exact List.perm_middle
theorem sort_perm (l : List α) : (sort lt l).Perm l := by simpa [sort] using fold_perm (lt := lt) l []
def lex (a b : α → α → Bool) (x y : α) : Bool := a x y || (!a y x && b x y)
theorem lex_weak {a b : α → α → Bool} (ha : Weak a) (hb : Weak b) : Weak (lex a b) := by
 refine ⟨fun x => by simp [lex, ha.irrefl, hb.irrefl], fun x y e => ?_, fun x y z e => ?_⟩
 ·
  simp only [lex, Bool.or_eq_true, Bool.and_eq_true, Bool.not_eq_true'] at e
  simp only [lex, Bool.or_eq_false_iff, Bool.and_eq_false_iff, Bool.not_eq_false']
  rcases e with e | ⟨e, f⟩
  · exact ⟨ha.asym _ _ e, .inl e⟩
  · exact ⟨e, .inr (hb.asym _ _ f)⟩
 ·
  simp only [lex, Bool.or_eq_true, Bool.and_eq_true, Bool.not_eq_true'] at e ⊢
  cases xy : a x y with
  | true => simp
  | false =>
  cases yz : a y z with
  | true => simp
  | false =>
  have xz : a x z = false := by
   cases g : a x z with
   | false => rfl
   | true =>
    rcases ha.neg x y z g with f | f
    · rw [xy] at f; simp at f
    · rw [yz] at f; simp at f
  rw [xz] at e
  simp only [Bool.false_eq_true, false_or] at e
  obtain ⟨zx, f⟩ := e
  have yx : a y x = false := by
   cases g : a y x with
   | false => rfl
   | true =>
    rcases ha.neg y z x g with c | c
    · rw [yz] at c; simp at c
    · rw [zx] at c; simp at c
  have zy : a z y = false := by
   cases g : a z y with
   | false => rfl
   | true =>
    rcases ha.neg z x y g with c | c
    · rw [zx] at c; simp at c
    · rw [xy] at c; simp at c
  rcases hb.neg x y z f with c | c
  · simp [yx, c]
  · simp [zy, c]
def lexAll : List (α → α → Bool) → α → α → Bool
 | [] => fun _ _ => false
 | k :: ks => lex k (lexAll ks)
theorem weak_none : Weak (fun _ _ : α => false) := ⟨fun _ => rfl, fun _ _ h => rfl, fun _ _ _ h => by simp at h⟩
theorem lexAll_weak : ∀ {ks : List (α → α → Bool)}, (∀ k ∈ ks, Weak k) → Weak (lexAll ks)
 | [], _ => weak_none
 | k :: ks, h => lex_weak (h k (by simp)) (lexAll_weak fun x hx => h x (by simp [hx]))
end BO
end Go.Proofs.YtbcfdhimngoplaaGreatDoor
