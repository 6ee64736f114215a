/-
  Stores in memory: what lies where, behind a store into a box; copied of package journal.
-/
import Derived.Test.YtklldfkaihpkiaaDkV
namespace Go.Proofs.Ytklldfkaihpkiaa
open Go.ChangeShapes Go.WideShapes Go.ChangeAt Go.RowKit
set_option linter.unusedVariables false
set_option linter.unusedSimpArgs false
set_option maxRecDepth 100000

theorem IsL.slice {α : Type} {E : Cd α} {w : World} {v : Value} {l : List α} (h : IsL E w v l) : ∃ a n c, v = .slice a n c := by
  obtain ⟨a, c, e, _⟩ := h; exact ⟨_, _, _, e⟩
/-- a slice does not lie in this block -/
def Off (N : Nat) (v : Value) : Prop := ∀ a n c, v = .slice (some a) n c → a.block ≠ N
/-- a slice lies in a block from this one on -/
def New (B : Nat) (v : Value) : Prop := ∀ a n c, v = .slice (some a) n c → B ≤ a.block
theorem New.off {B N : Nat} {v : Value} (h : New B v) (hN : N < B) : Off N v := fun a n c e => by have := h a n c e; omega
theorem New.low {A B : Nat} {v : Value} (h : New B v) (hA : A ≤ B) : New A v := fun a n c e => Nat.le_trans hA (h a n c e)
theorem new_nil (B : Nat) : New B (.slice none 0 0) := fun a n c e => by cases e
theorem new_own {B n sz : Nat} {T : TypeId} {v : Value} {xs : List Value} {w : World} (h : w.ownsRow B T sz v n xs) : New B v := by
  intro a m c e
  rcases h.2 with ⟨h1, _⟩ | ⟨g', cap, cur, h1, h2, h3, _⟩
  · rw [h1] at e; cases e
  · rw [h1] at e; cases e; exact h2
theorem IsL.set {α : Type} {E : Cd α} {w : World} {v : Value} {l : List α} (h : IsL E w v l) {N i : Nat} (u : Value) (ho : Off N v) : IsL E (w.setCell ⟨N, i, none⟩ u) v l := by
  obtain ⟨a, cap, rfl, hc, h0 | ⟨b, o, rfl, hb, hh⟩⟩ := h
  · exact ⟨a, cap, rfl, hc, Or.inl h0⟩
  · refine ⟨_, cap, rfl, hc, Or.inr ⟨b, o, rfl, by rw [size_setCell]; exact hb, ?_⟩⟩
    intro j x hx
    have hne : b ≠ N := ho _ _ _ rfl
    rw [World.cell?_setCell_other (w := w) (a := ⟨N, i, none⟩) (b := ⟨b, o + j, none⟩) (v := u) (fun e => hne (by cases e; rfl))]
    exact hh j x hx
theorem IsL.newer {α : Type} {E : Cd α} {w : World} {v : Value} {l : List α} (h : IsL E w v l) {N : Nat} (hN : w.heap.size ≤ N) : l = [] ∨ Off N v := by
  obtain ⟨a, cap, rfl, hc, h0 | ⟨b, o, rfl, hb, hh⟩⟩ := h
  · exact .inl h0
  · right
    intro a n c e
    cases e
    show b ≠ N
    omega
/-- a disk none of whose rows lies in this block -/
def OffD (N : Nat) (p q : Value) : Prop := Off N p ∧ Off N q
theorem IsD.set {w : World} {p q : Value} {d : JN.D} (h : IsD w p q d) {N i : Nat} (u : Value) (ho : OffD N p q) : IsD (w.setCell ⟨N, i, none⟩ u) p q d := ⟨h.1.set u ho.1, h.2.set u ho.2⟩
def NewD (B : Nat) (p q : Value) : Prop := New B p ∧ New B q
theorem OwnD.new {B : Nat} {w : World} {p q : Value} {d : JN.D} (h : OwnD B w p q d) : NewD B p q := ⟨new_own h.pg, new_own h.wt⟩
theorem NewD.off {B N : Nat} {p q : Value} (h : NewD B p q) (hN : N < B) : OffD N p q := ⟨h.1.off hN, h.2.off hN⟩
theorem NewD.low {A B : Nat} {p q : Value} (h : NewD B p q) (hA : A ≤ B) : NewD A p q := ⟨h.1.low hA, h.2.low hA⟩
theorem s2_after {w w' : World} {a b : Addr} {u v : Value} (f : Fr w w') (h : w.cell? a = some u ∧ w.cell? b = some v) : w'.cell? a = some u ∧ w'.cell? b = some v :=
  ⟨(Below.cell f (World.block_lt_of_cell? _ _ h.1)).trans h.1, (Below.cell f (World.block_lt_of_cell? _ _ h.2)).trans h.2⟩
theorem s2_set2 {w : World} {A N : Nat} {u v x y : Value} (h : w.cell? ⟨A, 0, none⟩ = some u ∧ w.cell? ⟨A, 1, none⟩ = some v) (hne : N ≠ A) :
    ((w.setCell ⟨N, 0, none⟩ x).setCell ⟨N, 1, none⟩ y).cell? ⟨A, 0, none⟩ = some u ∧ ((w.setCell ⟨N, 0, none⟩ x).setCell ⟨N, 1, none⟩ y).cell? ⟨A, 1, none⟩ = some v := by
  have e : ∀ (W : World) (i j : Nat) (z : Value), (W.setCell ⟨N, i, none⟩ z).cell? ⟨A, j, none⟩ = W.cell? ⟨A, j, none⟩ := fun W i j z => World.cell?_setCell_other (w := W) (a := ⟨N, i, none⟩) (b := ⟨A, j, none⟩) (v := z) (fun e => hne (by cases e; rfl))
  simp only [e]
  exact h
theorem Fr.after {a b c : World} (h : Fr b c) (k : Fr a b) : Fr a c := k.trans h

set_option maxHeartbeats 1000000 in
theorem copied_any (p q : Value) (d : JN.D) (w : World) (hr : IsD w p q d) (h1 : d.pg.length ≤ 100) (h2 : d.wt.length ≤ 100) :
    Calls Try.prog 65 #[.agg #[p, q]] w fun e w' => ∃ p' q', e = .returned (.agg #[p', q']) ∧ OwnD w.heap.size w' p' q' d ∧ Fr w w' := by
  have cp := fun W (f : Fr w W) => cloneS_any p d.pg W (hr.1.fr f) h1
  have cq := fun W (f : Fr w W) => cloneW_any q d.wt W (hr.2.fr f) h2
  clear hr
  obtain ⟨W0, hW0⟩ : ∃ W0, (w.alloc (.cells #[p, q] 25)).alloc (.cells #[.slice none 0 0, .slice none 0 0] 25) = W0 := ⟨_, rfl⟩
  have f0 : Fr w W0 := by rw [← hW0]; exact ((Fr.refl w).alloc _).alloc _
  have b0 : Blk W0 w.heap.size #[p, q] 25 := by rw [← hW0]; exact (Blk.new w _ _).old _
  have b1 : Blk W0 (w.heap.size + 1) #[.slice none 0 0, .slice none 0 0] 25 := by
    have := Blk.new (w.alloc (.cells #[p, q] 25)) #[.slice none 0 0, .slice none 0 0] 25
    rw [World.size_alloc, hW0] at this; exact this
  have hS : W0.cell? ⟨w.heap.size, 0, none⟩ = some p ∧ W0.cell? ⟨w.heap.size, 1, none⟩ = some q := ⟨b0.cell 0 rfl, b0.cell 1 rfl⟩
  have HS := hideP hS
  have HB := hideP b1
  have HF := hideP f0
  clear f0 b0 b1 hS
  go_enter Try.func65, Try.ntmps65
  go_wp2_with fail

  clear hW0
  go_region_held3 (fun W => W.cell? ⟨w.heap.size, 0, none⟩ = some p ∧ W.cell? ⟨w.heap.size, 1, none⟩ = some q) (first | exact HS.out | assumption | exact s2_set2 (by assumption) (by omega) | exact s2_after (by assumption) (by assumption)) (first
    | (go_at_call 49; refine (cp _ (by first | exact Fr.drew HF.out | exact Fr.after (by assumption) (Fr.drew HF.out))).mono ?_; rintro _ w1 ⟨v1, rfl, ho1, f1⟩; obtain ⟨a1, n1, c1, rfl⟩ := own_slice' ho1; have HO1 := hideP ho1; clear ho1)
    | (go_at_call 48; refine (cq _ (by first | exact Fr.drew HF.out | exact Fr.after (by assumption) (Fr.drew HF.out))).mono ?_; rintro _ w2 ⟨v2, rfl, ho2, f2⟩; obtain ⟨a2, n2, c2, rfl⟩ := own_slice' ho2; have HO2 := hideP ho2; clear ho2; have HB2 := hideP (HB.out.fr (Fr.after f2 (Fr.after (by assumption) (Fr.drew (Fr.refl _))))); obtain ⟨k2, k3, z2, z3⟩ := HB2.out.two))
  go_wp2_with fail
  refine bodyPost_ret (v := .agg #[.slice a1 n1 c1, .slice a2 n2 c2]) ?_ rfl ?_
  · obtain ⟨q0, q1, _, _⟩ := HB2.out.put2 (.slice a1 n1 c1) (.slice a2 n2 c2)
    change (results Try.f65 _).run Try.prog (put2 w2 _ _ _) = .ok _ (put2 w2 _ _ _)
    simp [results, Try.results65, go_sem, q0, q1]
  · have fw1 : Fr w w1 := (Fr.drew HF.out).trans f1
    refine ⟨_, _, rfl, ⟨?_, ?_⟩, (fw1.trans f2).set2 _ (by omega) _ _⟩
    · exact own_set2 (own_low (own_fr HO1.out f2) (Fr.drew HF.out).size) HB2.out (by decide)
    · exact own_set2 (own_low HO2.out fw1.size) HB2.out (by decide)

/-- four cells of a block -/
structure B4 (w : World) (b : Nat) (x y X Y : Value) : Prop where
  c0 : w.cell? ⟨b, 0, none⟩ = some x
  c1 : w.cell? ⟨b, 1, none⟩ = some y
  c2 : w.cell? ⟨b, 2, none⟩ = some X
  c3 : w.cell? ⟨b, 3, none⟩ = some Y
  z0 : w.frozen? ⟨b, 0, none⟩ = false
  z1 : w.frozen? ⟨b, 1, none⟩ = false
  z2 : w.frozen? ⟨b, 2, none⟩ = false
  z3 : w.frozen? ⟨b, 3, none⟩ = false
theorem Blk.four {w : World} {b : Nat} {x y X Y : Value} {T : TypeId} (h : Blk w b #[x, y, X, Y] T) : B4 w b x y X Y := ⟨h.cell 0 rfl, h.cell 1 rfl, h.cell 2 rfl, h.cell 3 rfl, h.frozen 0, h.frozen 1, h.frozen 2, h.frozen 3⟩
def pt4 (w : World) (b : Nat) (x y X Y : Value) : World := (((w.setCell ⟨b, 0, none⟩ x).setCell ⟨b, 1, none⟩ y).setCell ⟨b, 2, none⟩ X).setCell ⟨b, 3, none⟩ Y
theorem Blk.put4 {w : World} {b : Nat} {x y X Y : Value} {T : TypeId} (h : Blk w b #[x, y, X, Y] T) (x' y' X' Y' : Value) : Blk (pt4 w b x' y' X' Y') b #[x', y', X', Y'] T := by
  have := (((h.set 0 x').set 1 y').set 2 X').set 3 Y'
  simpa [pt4] using this
theorem Fr.put4 {a w : World} (h : Fr a w) (b : Nat) (hb : a.heap.size ≤ b) (x y X Y : Value) : Fr a (pt4 w b x y X Y) := (((h.setCell b 0 x hb).setCell b 1 y hb).setCell b 2 X hb).setCell b 3 Y hb
theorem Blk.oput4 {w : World} {b c : Nat} {arr : Array Value} {T : TypeId} (h : Blk w c arr T) (hne : b ≠ c) (x y X Y : Value) : Blk (pt4 w b x y X Y) c arr T := (((h.other hne 0 x).other hne 1 y).other hne 2 X).other hne 3 Y
theorem IsD.put4 {w : World} {p q : Value} {d : JN.D} (h : IsD w p q d) {N : Nat} (ho : OffD N p q) (x y X Y : Value) : IsD (pt4 w N x y X Y) p q d := (((h.set x ho).set y ho).set X ho).set Y ho
theorem put4_size (w : World) (b : Nat) (x y X Y : Value) : (pt4 w b x y X Y).heap.size = w.heap.size := by simp [pt4, size_setCell]
/-- a store -/
def IsS (w : World) (p q P Q : Value) (s : JN.S) : Prop := IsD w p q s.da ∧ IsD w P Q s.jo
theorem IsS.fr {w w' : World} {p q P Q : Value} {s : JN.S} (h : IsS w p q P Q s) (f : Fr w w') : IsS w' p q P Q s := ⟨h.1.fr f, h.2.fr f⟩
theorem isS_none (w : World) : IsS w (.slice none 0 0) (.slice none 0 0) (.slice none 0 0) (.slice none 0 0) JN.noneS := ⟨isD_none _, isD_none _⟩

set_option maxHeartbeats 1000000 in
theorem jcheck_any (p q P Q : Value) (s : JN.S) (w : World) (hr : IsS w p q P Q s) (h1 : s.da.pg.length ≤ 9223372036854775806) (h2 : s.jo.pg.length ≤ 9223372036854775806) :
    Calls Try.prog 32 #[.agg #[p, q, P, Q]] w fun e w' => e = .returned (.int .i64 (JN.schk s)) ∧ Fr w w' := by
  have c := fun W (f : Fr w W) => check_any p q s.da W (hr.1.fr f) h1
  have c2 := fun W (f : Fr w W) => check_any P Q s.jo W (hr.2.fr f) h2
  have hE : JN.schk s = if JN.dchk s.da = 0 then JN.dchk s.jo else JN.dchk s.da := rfl
  clear hr
  generalize JN.dchk s.da = y at c hE
  generalize JN.dchk s.jo = z at c2 hE
  rw [hE]
  clear hE
  by_cases h0 : y = 0
  · subst h0
    go_enter Try.func32, Try.ntmps32
    go_wp2_with fail
    refine (c _ ((Fr.refl w).alloc _)).mono ?_
    rintro _ w1 ⟨rfl, f1⟩
    obtain ⟨_, _, k2, k3, _, _, _, _⟩ := ((Blk.new w #[p, q, P, Q] 46).fr f1).four
    have HF : Hid (Fr w w1) := ((Fr.refl w).alloc _).trans f1
    clear f1 c
    go_wp2_with fail
    refine (c2 _ HF.out).mono ?_
    rintro _ w2 ⟨rfl, f2⟩
    go_wp2_with fail
    go_ret
    exact ⟨rfl, HF.out.trans f2⟩
  · have hne : ((y : Int) != 0) = true := by simp; omega
    have hne2 : ¬ ((y : Int) = 0) := by omega
    rw [if_neg h0]
    go_enter Try.func32, Try.ntmps32
    go_wp2_with fail
    refine (c _ ((Fr.refl w).alloc _)).mono ?_
    rintro _ w1 ⟨rfl, f1⟩
    go_wp2_with fail
    go_ret
    exact ⟨rfl, ((Fr.refl w).alloc _).trans f1⟩
end Go.Proofs.Ytklldfkaihpkiaa
