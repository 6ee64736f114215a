/-
  Proved: for every two values and every slice of values AsksMore answers true: in a longer list what was found is found; a Null in it makes no answer False; who is between is In, if both ends are it. No condition but the form's own reach.
-/
import Derived.Test.YtppbmkkkjjkiiaaLBegun
import Derived.Test.YtppbmkkkjjkiiaaLgOrd
import Derived.Test.YtppbmkkkjjkiiaaAppRow
namespace Go.Proofs.Ytppbmkkkjjkiiaa.asksMoreProof
open Go.ChangeShapes Go.WideShapes Go.ChangeAt Go.RowKit
set_option linter.unusedVariables false
set_option maxRecDepth 100000

def Box2 (W : World) (g : Nat) (ak an bk bn : Int) (sa sb : ByteArray) : Prop :=
  W.cell? ⟨g, 0, none⟩ = some (.int .i64 ak) ∧ W.cell? ⟨g, 1, none⟩ = some (.int .i64 an) ∧ W.cell? ⟨g, 2, none⟩ = some (.string sa) ∧ W.cell? ⟨g + 1, 0, none⟩ = some (.int .i64 bk) ∧ W.cell? ⟨g + 1, 1, none⟩ = some (.int .i64 bn) ∧ W.cell? ⟨g + 1, 2, none⟩ = some (.string sb)
theorem Box2.fr {W W' : World} {g : Nat} {ak an bk bn : Int} {sa sb : ByteArray} (h : Box2 W g ak an bk bn sa sb) (f : Fr W W') : Box2 W' g ak an bk bn sa sb :=
  ⟨cell_fr f h.1, cell_fr f h.2.1, cell_fr f h.2.2.1, cell_fr f h.2.2.2.1, cell_fr f h.2.2.2.2.1, cell_fr f h.2.2.2.2.2⟩
theorem Box2.mk (w : World) (ak an bk bn : Int) (sa sb : ByteArray) : Box2 ((w.alloc (.cells #[.int .i64 ak, .int .i64 an, .string sa] 32)).alloc (.cells #[.int .i64 bk, .int .i64 bn, .string sb] 32)) w.heap.size ak an bk bn sa sb := by
  unfold Box2
  simp [go_sem]

theorem lit1 (W : World) (x : VM.Vl) : IsRow (W.alloc (.cells #[.int .i64 x.k, .int .i64 x.n, .string x.s] 32)) (.slice (some ⟨W.heap.size, 0, none⟩) 1 1) [x] := by
  refine ⟨_, 1, rfl, Or.inr ⟨W.heap.size, 0, rfl, by simp, ?_⟩⟩
  intro i hi
  match i, hi with
  | 0, _ => simp [go_sem]
theorem lit1' (W : World) (o : Obj) (x : VM.Vl) : IsRow ((W.alloc o).alloc (.cells #[.int .i64 x.k, .int .i64 x.n, .string x.s] 32)) (.slice (some ⟨W.heap.size + 1, 0, none⟩) 1 1) [x] := by
  have h := lit1 (W.alloc o) x
  rw [show (W.alloc o).heap.size = W.heap.size + 1 by simp] at h
  exact h
theorem own_lit1 (W : World) (o : Obj) : ((W.alloc o).alloc (.cells #[] 32)).ownsRow W.heap.size 32 3 (.slice (some ⟨W.heap.size + 1, 0, none⟩) 0 0) 0 (rowV []) := by
  have h := World.ownsRow_lit (base := W.heap.size) (e := 32) (size := 3) (W.alloc o) #[] 0 (by simp) (by decide) rfl
  rw [show (W.alloc o).heap.size = W.heap.size + 1 by simp] at h
  exact h
theorem row_grown {W W' : World} {r : Option Nat} {b c n : Nat} {l : List VM.Vl} (h : IsRow W (.slice (some ⟨b, 0, none⟩) n c) l) (hl : l ≠ []) (g : W.grownBy W' r) (hr : r ≠ some b) : IsRow W' (.slice (some ⟨b, 0, none⟩) n c) l := by
  obtain ⟨a, cap, he, h0 | ⟨b', o', hA, hb, hc⟩⟩ := h
  · exact absurd h0 hl
  · simp only [Value.slice.injEq] at he
    obtain ⟨rfl, rfl, rfl⟩ := he
    simp only [Option.some.injEq, Addr.mk.injEq, and_true] at hA
    obtain ⟨rfl, rfl⟩ := hA
    have hk : W'.heap[b]? = W.heap[b]? := g.block b hb (fun e => hr e.symm)
    refine ⟨_, _, rfl, Or.inr ⟨b, 0, rfl, ?_, ?_⟩⟩
    · rcases Nat.lt_or_ge b W'.heap.size with h | h
      · exact h
      · rw [Array.getElem?_eq_none h, Array.getElem?_eq_getElem hb] at hk; cases hk
    · intro i hi
      obtain ⟨x, y, z⟩ := hc i hi
      exact ⟨(World.cell?_of_block hk).trans x, (World.cell?_of_block hk).trans y, (World.cell?_of_block hk).trans z⟩

def Fits (bk x y z t : Int) (e f g h : Nat) : Prop :=
  e ≠ 0 ∨ (e = 0 ∧ (f ≠ 0 ∨ (f = 0 ∧ (g ≠ 0 ∨ (g = 0 ∧ (h ≠ 0 ∨ (h = 0 ∧ x ≤ y ∧ z = t ∧ ((bk != 0) = true ∨ (bk = 0 ∧ (y != 0) = true)))))))))

set_option maxHeartbeats 1000000 in
theorem core (ak an bk bn : Int) (sa sb : ByteArray) (u : Value) (l : List VM.Vl) (x y z t : Int) (e f g h : Nat) (w : World) (hfit : Fits bk x y z t e f g h) (hu : IsRow w u l) (nu : NilOrRow u) (hs : l.length * 32 ≤ 140737488351232)
    (c1 : ∀ W r, IsRow W r l → Calls Try.prog 23 #[.agg #[.int .i64 ak, .int .i64 an, .string sa], r] W fun q w' => q = .returned (.tuple #[.int .i64 x, .int .i64 e]) ∧ Fr W w')
    (c2 : ∀ W r, IsRow W r (l ++ [⟨bk, bn, sb⟩]) → Calls Try.prog 23 #[.agg #[.int .i64 ak, .int .i64 an, .string sa], r] W fun q w' => q = .returned (.tuple #[.int .i64 y, .int .i64 f]) ∧ Fr W w')
    (c3 : ∀ W, Calls Try.prog 24 #[.agg #[.int .i64 ak, .int .i64 an, .string sa], .agg #[.int .i64 bk, .int .i64 bn, .string sb], .agg #[.int .i64 bk, .int .i64 bn, .string sb]] W fun q w' => q = .returned (.tuple #[.int .i64 z, .int .i64 g]) ∧ Fr W w')
    (c4 : ∀ W r, IsRow W r [⟨bk, bn, sb⟩] → Calls Try.prog 23 #[.agg #[.int .i64 ak, .int .i64 an, .string sa], r] W fun q w' => q = .returned (.tuple #[.int .i64 t, .int .i64 h]) ∧ Fr W w') :
    Calls Try.prog 9 #[.agg #[.int .i64 ak, .int .i64 an, .string sa], .agg #[.int .i64 bk, .int .i64 bn, .string sb], u] w fun q w' => q = .returned (.bool true) ∧ Fr w w' := by
  have k1 := c1 _ u (hu.fr (((Fr.refl w).alloc (.cells #[.int .i64 ak, .int .i64 an, .string sa] 32)).alloc (.cells #[.int .i64 bk, .int .i64 bn, .string sb] 32)))
  have HFIT : Hid _ := hfit
  have HU : Hid _ := hu
  have NU : Hid _ := nu
  have C2 : Hid _ := c2
  have C3 : Hid _ := c3
  have C4 : Hid _ := c4
  clear hfit hu nu c2 c3 c4 c1
  go_enter Try.func9, Try.ntmps9
  go_wp2_with (go_at_call 23; refine k1.mono ?_)
  rintro _ w1 ⟨rfl, hf1⟩
  have HB : Hid _ := (Box2.mk w ak an bk bn sa sb).fr hf1
  have F1 : Hid (Fr w w1) := Fr.trans (((Fr.refl w).alloc _).alloc _) hf1
  have HU1 : Hid (IsRow w1 u l) := IsRow.fr HU.out F1.out
  have HBd : Hid (Box2 w1.drew w.heap.size ak an bk bn sa sb) := HB.out
  obtain ⟨a0, a1, a2, b0, b1, b2⟩ := HB.out
  clear hf1 k1 HU
  go_wp2_with fail
  go_region_held3 (fun W' => W'.cell? ⟨w.heap.size, 0, none⟩ = some (.int .i64 ak) ∧ W'.cell? ⟨w.heap.size, 1, none⟩ = some (.int .i64 an) ∧ W'.cell? ⟨w.heap.size, 2, none⟩ = some (.string sa) ∧ W'.cell? ⟨w.heap.size + 1, 0, none⟩ = some (.int .i64 bk) ∧ W'.cell? ⟨w.heap.size + 1, 1, none⟩ = some (.int .i64 bn) ∧ W'.cell? ⟨w.heap.size + 1, 2, none⟩ = some (.string sb))
    (first | exact HBd.out | exact Box2.fr HB.out (Fr.drew (Fr.alloc (Fr.refl w1) _)) | exact Box2.fr HB.out (Fr.drew (Fr.alloc (Fr.alloc (Fr.refl w1) _) _)) | exact Box2.fr HB.out hfC | exact Box2.fr HB.out hfB | exact Box2.fr HB.out hfA | exact Box2.fr HB.out (Fr.alloc hfA _))
    (first
    | (refine step_append_row rfl _ _ rfl w1.heap.size (.slice (some ⟨w1.heap.size, 0, none⟩) 0 0) 0 [] rfl (show (w1.alloc (.cells #[] 32)).drew.ownsRow w1.heap.size 32 3 _ 0 (rowV []) from (World.ownsRow_lit w1 #[] 0 (Nat.le_refl _) (by decide) rfl)) u l rfl (IsRow.fr HU1.out (Fr.drew (Fr.alloc (Fr.refl w1) _))) NU.out (by omega) (by simp) ?_; intro v1 wA own1 gr1; have hfA : Fr w1 wA := Below.grown (Fr.drew (Fr.alloc (Fr.refl w1) _)) gr1 (by simp) (fun k hk => by simp [Value.ownBlock] at hk; omega))
    | (refine step_append_row rfl _ _ rfl w1.heap.size (.slice (some ⟨w1.heap.size, 0, none⟩) 0 0) 0 [] rfl (show ((w1.alloc (.cells #[] 32)).alloc (.cells #[.int .i64 bk, .int .i64 bn, .string sb] 32)).drew.ownsRow w1.heap.size 32 3 _ 0 (rowV []) from (World.ownsRow_lit w1 #[] 0 (Nat.le_refl _) (by decide) rfl).alloc _) u l rfl (IsRow.fr HU1.out (Fr.drew (Fr.alloc (Fr.alloc (Fr.refl w1) _) _))) NU.out (by omega) (by simp; omega) ?_; intro v1 wA own1 gr1; have hfA : Fr w1 wA := Below.grown (Fr.drew (Fr.alloc (Fr.alloc (Fr.refl w1) _) _)) gr1 (by simp; omega) (fun k hk => by simp [Value.ownBlock] at hk; omega); have hsrc : IsRow wA (.slice (some ⟨w1.heap.size + 1, 0, none⟩) 1 1) [⟨bk, bn, sb⟩] := row_grown (IsRow.fr (lit1' w1 (.cells #[] 32) ⟨bk, bn, sb⟩) (Fr.drew (Fr.refl _))) (by simp) gr1 (by simp [Value.ownBlock]))
    | (refine step_append_row rfl _ _ rfl w1.heap.size (.slice (some ⟨w1.heap.size + 1, 0, none⟩) 0 0) 0 [] rfl (show ((w1.alloc (.cells #[.int .i64 bk, .int .i64 bn, .string sb] 32)).alloc (.cells #[] 32)).drew.ownsRow w1.heap.size 32 3 _ 0 (rowV []) from own_lit1 w1 (.cells #[.int .i64 bk, .int .i64 bn, .string sb] 32)) u l rfl (IsRow.fr HU1.out (Fr.drew (Fr.alloc (Fr.alloc (Fr.refl w1) _) _))) NU.out (by omega) (by simp; omega) ?_; intro v1 wA own1 gr1; have hfA : Fr w1 wA := Below.grown (Fr.drew (Fr.alloc (Fr.alloc (Fr.refl w1) _) _)) gr1 (by simp; omega) (fun k hk => by simp [Value.ownBlock] at hk; omega); have hsrc : IsRow wA (.slice (some ⟨w1.heap.size, 0, none⟩) 1 1) [⟨bk, bn, sb⟩] := row_grown (IsRow.fr (lit1 w1 ⟨bk, bn, sb⟩) (Fr.drew (Fr.alloc (Fr.refl _) _))) (by simp) gr1 (by simp [Value.ownBlock]))
    | (refine step_append_row rfl _ _ rfl w1.heap.size v1 _ l rfl (own1.alloc _) (.slice (some ⟨wA.heap.size, 0, none⟩) 1 1) [⟨bk, bn, sb⟩] rfl (lit1 wA ⟨bk, bn, sb⟩) (Or.inr ⟨_, _, _, rfl⟩) (by simp; omega) (by have := Fr.size hfA; simp; omega) ?_; intro v2 wB own2 gr2; have hfB : Fr w1 wB := Below.grown (Fr.alloc hfA _) gr2 (by have := Fr.size hfA; simp; omega) (fun k hk => (own1.lt k hk).1))
    | (refine step_append_row rfl _ _ rfl w1.heap.size v1 _ l rfl own1 _ [⟨bk, bn, sb⟩] rfl hsrc (Or.inr ⟨_, _, _, rfl⟩) (by simp; omega) (by have := Fr.size hfA; omega) ?_; intro v2 wB own2 gr2; have hfB : Fr w1 wB := Below.grown hfA gr2 (Fr.size hfA) (fun k hk => (own1.lt k hk).1))
    | (go_at_call 23; refine (C2.out _ _ (row_of_own (l := l ++ [⟨bk, bn, sb⟩]) own2)).mono ?_; rintro _ wC ⟨rfl, hfC1⟩; have hfC : Fr w1 wC := Fr.trans hfB hfC1))
  all_goals (
    have B3 : Hid (Box2 wC w.heap.size ak an bk bn sa sb) := Box2.fr HB.out hfC
    have F3 : Hid (Fr w wC) := Fr.trans F1.out hfC
    clear a0 a1 a2 b0 b1 b2 own1 hfA own2 hfB hfC1 hfC gr1 gr2 HB HBd HU1 F1 NU
    try clear hsrc
    have c3 := C3.out
    have c4 := fun W => C4.out _ _ (lit1 W ⟨bk, bn, sb⟩)
    simp only at c4
    clear C2 C3 C4
    obtain ⟨a0, a1, a2, b0, b1, b2⟩ := B3.out
    go_wp2_with (go_at_call 24; refine (c3 _).mono ?_)
    rintro _ w4 ⟨rfl, hf4⟩
    have B4 : Hid (Box2 w4 w.heap.size ak an bk bn sa sb) := Box2.fr B3.out hf4
    have F4 : Hid (Fr w w4) := Fr.trans F3.out hf4
    clear a0 a1 a2 b0 b1 b2 hf4 B3 F3 c3
    obtain ⟨a0, a1, a2, b0, b1, b2⟩ := B4.out
    go_wp2_with (go_at_call 23; refine (c4 _).mono ?_)
    rintro _ w5 ⟨rfl, hf5⟩
    have B5 : Hid (Box2 w5 w.heap.size ak an bk bn sa sb) := Box2.fr B4.out (Fr.trans (Fr.alloc (Fr.refl _) _) hf5)
    have F5 : Hid (Fr w w5) := Fr.trans F4.out (Fr.trans (Fr.alloc (Fr.refl _) _) hf5)
    clear a0 a1 a2 b0 b1 b2 hf5 B4 F4 c4
    go_wp2_with (go_at_call 10; refine (logicBegun_any _).mono ?_)
    rintro _ w6 ⟨rfl, hf6⟩
    have B6 : Hid (Box2 w6 w.heap.size ak an bk bn sa sb) := Box2.fr B5.out hf6
    have F6 : Hid (Fr w w6) := Fr.trans F5.out hf6
    clear hf6 B5 F5
    obtain ⟨a0, a1, a2, b0, b1, b2⟩ := B6.out
    have hfit := HFIT.out
    clear HFIT B6
    rcases hfit with he | ⟨rfl, he | ⟨rfl, he | ⟨rfl, he | ⟨rfl, hxy, rfl, hb | ⟨rfl, hy⟩⟩⟩⟩⟩
    · have q : ((e : Int) != 0) = true := by simp; omega
      have q' : ¬ ((e : Int) = 0) := by omega
      clear he
      go_wp2_with fail
      go_ret
      exact ⟨rfl, F6.out⟩
    · have q : ((f : Int) != 0) = true := by simp; omega
      have q' : ¬ ((f : Int) = 0) := by omega
      clear he
      go_wp2_with fail
      go_ret
      exact ⟨rfl, F6.out⟩
    · have q : ((g : Int) != 0) = true := by simp; omega
      have q' : ¬ ((g : Int) = 0) := by omega
      clear he
      go_wp2_with fail
      go_ret
      exact ⟨rfl, F6.out⟩
    · have q : ((h : Int) != 0) = true := by simp; omega
      have q' : ¬ ((h : Int) = 0) := by omega
      clear he
      go_wp2_with fail
      go_ret
      exact ⟨rfl, F6.out⟩
    · go_wp2_with fail
      go_ret
      exact ⟨rfl, F6.out⟩
    · go_wp2_with fail
      go_ret
      exact ⟨rfl, F6.out⟩)

theorem Try.bytesVal : Try.prog.bytesOf 32 = 32 := by kernel_rfl
theorem open_nilrow {H : Type} {enc : TypeId × Value → H} {W : World} {base : Nat} {r : Reach} {v : Value} {d : DataW H} {p : List MemPlace} (hval : Value.okWide Try.prog W r base 33 v)
    (h : DataW.Trod enc Try.prog W 0 (fun _ => true) true 33 v d p) : NilOrRow v := by
  obtain ⟨a0, len0, cap0, rfl⟩ := okWide_slice Try.underlying33 hval
  obtain ⟨fuel, hf⟩ := h
  rcases Deep.open_slice Try.underlying33 hf with ⟨hcs, hx⟩ | ⟨a, len, cap, m, n, D, Pl, hcs, _⟩
  · simp only [Value.cells] at hcs
    simp at hcs
    obtain ⟨rfl, rfl, rfl⟩ := hcs
    exact Or.inl rfl
  · simp only [Value.cells] at hcs
    simp at hcs
    obtain ⟨rfl, rfl, rfl⟩ := hcs
    exact Or.inr ⟨a, _, _, rfl⟩

theorem sm_in (a b : VM.Vl) : LG.sm a b = 0 ∨ LG.sm a b = 1 ∨ LG.sm a b = 2 := by
  unfold LG.sm
  repeat' split
  all_goals omega
theorem bt_sm {a b : VM.Vl} (h : VM.chkAll [a, b] = 0) : LG.bt a b b = LG.sm a b := by
  have h2 : VM.chkAll [b, a] = 0 := (LG.chk_two b a).2 ⟨((LG.chk_two a b).1 h).2, ((LG.chk_two a b).1 h).1⟩
  unfold LG.bt
  by_cases hn : a.k = 0 ∨ b.k = 0
  · have e1 : LG.lt a b = 1 := if_pos hn
    have e2 : LG.lt b a = 1 := if_pos (by omega)
    have e3 : LG.sm a b = 1 := if_pos hn
    rw [e1, e2, e3]
    rfl
  · have e1 : LG.lt a b = if CM.cmp a b < 0 then 2 else 0 := if_neg hn
    have e2 : LG.lt b a = if CM.cmp b a < 0 then 2 else 0 := if_neg (by omega)
    have e3 : LG.sm a b = if CM.cmp a b = 0 then 2 else 0 := if_neg hn
    rw [e1, e2, e3, LG.cmp_ok h, LG.cmp_ok h2, LG.ord_anti a b]
    rcases Int.lt_trichotomy (CM.ord a b) 0 with o | o | o
    · rw [if_pos o, if_neg (by omega), if_neg (by omega)]; rfl
    · rw [if_neg (by omega), if_neg (by omega), if_pos o]; rfl
    · rw [if_neg (by omega), if_pos (by omega), if_neg (by omega)]; rfl
theorem any_one (a b : VM.Vl) : LG.any ([b].map (LG.sm a)) = LG.sm a b := by
  show LG.or (LG.sm a b) 0 = _
  rw [LG.or_nought, LG.kn_of (sm_in a b)]

theorem fits (a b : VM.Vl) (l : List VM.Vl) : Fits b.k (LG.in2 a l) (LG.in2 a (l ++ [b])) (LG.bt2 a b b) (LG.in2 a [b]) (LG.inErr a l) (LG.inErr a (l ++ [b])) (VM.chkAll [a, b, b]) (LG.inErr a [b]) := by
  unfold Fits
  by_cases he : LG.inErr a l = 0
  · refine Or.inr ⟨he, ?_⟩
    by_cases hf : LG.inErr a (l ++ [b]) = 0
    · refine Or.inr ⟨hf, ?_⟩
      by_cases hg : VM.chkAll [a, b, b] = 0
      · refine Or.inr ⟨hg, ?_⟩
        by_cases hh : LG.inErr a [b] = 0
        · refine Or.inr ⟨hh, ?_⟩
          have e1 : LG.in2 a l = LG.inn a l := if_pos he
          have e2 : LG.in2 a (l ++ [b]) = LG.inn a (l ++ [b]) := if_pos hf
          have e3 : LG.bt2 a b b = LG.bt a b b := if_pos hg
          have e4 : LG.in2 a [b] = LG.inn a [b] := if_pos hh
          have e5 : LG.inn a (l ++ [b]) = LG.or (LG.inn a l) (LG.sm a b) := by
            unfold LG.inn
            rw [List.map_append, LG.any_app, any_one]
          have e6 : LG.inn a [b] = LG.sm a b := any_one a b
          have hab : VM.chkAll [a, b] = 0 := by
            rw [LG.chk_two]
            unfold VM.chkAll VM.chkAll VM.chkAll at hg
            by_cases h1 : VM.chk a = 0
            · by_cases h2 : VM.chk b = 0
              · exact ⟨h1, h2⟩
              · simp [h1, h2] at hg
            · simp [h1] at hg
          rw [e1, e2, e3, e4, e5, e6, bt_sm hab]
          have i1 := LG.any_in (l.map (LG.sm a))
          have i2 := sm_in a b
          have e7 : LG.or (LG.inn a l) (LG.sm a b) = max (LG.inn a l) (LG.sm a b) := by
            show max (LG.kn (LG.any (l.map (LG.sm a)))) (LG.kn (LG.sm a b)) = _
            rw [LG.kn_of i1, LG.kn_of i2]
            rfl
          rw [e7]
          refine ⟨by omega, rfl, ?_⟩
          by_cases hk : b.k = 0
          · refine Or.inr ⟨hk, ?_⟩
            have : LG.sm a b = 1 := if_pos (Or.inr hk)
            simp only [bne_iff_ne, ne_eq]
            rw [this]
            have i3 : LG.inn a l = 0 ∨ LG.inn a l = 1 ∨ LG.inn a l = 2 := i1
            omega
          · exact Or.inl (by simpa using hk)
        · exact Or.inl hh
      · exact Or.inl hg
    · exact Or.inl hf
  · exact Or.inl he

theorem walk (a b : VM.Vl) (u : Value) (l : List VM.Vl) (w : World) (ha : a.s.size ≤ maxLen) (hb : b.s.size ≤ maxLen) (hu : IsRow w u l) (sl : ∀ x ∈ l, x.s.size ≤ maxLen) (hs : l.length * 32 ≤ 140737488351232) (nu : NilOrRow u) :
    Calls Try.prog 9 #[a.val, b.val, u] w fun e w' => e = .returned (.bool true) ∧ Fr w w' :=
  core a.k a.n b.k b.n a.s b.s u l _ _ _ _ _ _ _ _ w (fits a b l) hu nu hs
    (fun W r hr => In_any a r l W hr (by omega)) (fun W r hr => In_any a r (l ++ [b]) W hr (by simp; omega)) (fun W => Between_any a b b W) (fun W r hr => In_any a r [b] W hr (by simp))

set_option maxRecDepth 100000 in
theorem lifted (os : Os) (started : os.Started) (H : Type) (enc : TypeId × Value → H) :
    ReturnsInHanded {} Try.checked os 9 .any (Rows.asksMoreSpec.pre6 enc Try.prog Try.f9 Rows.asksMoreRow.domain false) (Rows.asksMoreSpec.post enc Try.prog Try.f9 false true false false) := by
  refine returnsInHanded_of_change_sized (C := Try.checked) own started (by kernel_rfl) Try.func9
    (ChangeSpec.witness6 (enc := enc) (C := Try.checked) false ⟨#[], #[.agg #[.int .i64 0, .int .i64 0, .string ByteArray.empty], .agg #[.int .i64 0, .int .i64 0, .string ByteArray.empty], .slice none 0 0], []⟩ 8 (by kernel_rfl) (by kernel_rfl) (by kernel_rfl) (by kernel_rfl)) ?_
  intro W base args ds gs before hval0 hW hcnd hsz0 _
  have hval : ∀ (j : Nat) t v, Try.f9.params[j]? = some t → args[j]? = some v → Value.okWide Try.prog W .any base t v := hval0
  have hsz : (DataW.weightsEach Try.prog (Try.f9.params.toList ++ Rows.asksMoreSpec.plain.varTypes Try.prog) (ds ++ gs)).all (· ≤ reachBytes) = true := hsz0
  have hW' := hW
  obtain ⟨p, q, hA0, hV, rfl, hfz, hnd⟩ := hW
  have hA : DataW.TrodAll enc Try.prog W 0 (fun _ => true) true Try.f9.params.toList args.toList ds p := hA0
  rw [Try.params9] at hA hval hsz
  obtain ⟨v0, vs0, d0, ds0, p0, q0, hargs, rfl, rfl, h0, r0⟩ := trodAll_cons hA
  obtain ⟨v1, vs1, d1, ds1, p1, q1, rfl, rfl, rfl, h1, r1⟩ := trodAll_cons r0
  obtain ⟨v2, vs2, d2, ds2, p2, q2, rfl, rfl, rfl, h2, r2⟩ := trodAll_cons r1
  obtain ⟨rfl, rfl, rfl⟩ := trodAll_nil r2
  obtain rfl : args = #[v0, v1, v2] := by cases args; simp_all
  obtain ⟨rfl, rfl⟩ := trodVars_none hV
  obtain ⟨a0, rfl, wd0⟩ := open_val (hval 0 32 v0 rfl rfl) h0
  obtain ⟨a1, rfl, wd1⟩ := open_val (hval 1 32 v1 rfl rfl) h1
  obtain ⟨l2, rw2, wd2, ln2, sl2, dd2⟩ := open_row (hval 2 33 v2 rfl rfl) h2
  have b2 : l2.length * 32 ≤ 140737488351232 := by
    rcases dd2 with ⟨_, rfl⟩ | ⟨es, sp, hd, hl⟩
    · simp
    · have h := sized_slice hsz (j := 2) (t := 33) rfl (by rw [hd]; rfl) Try.underlying33
      rw [Try.bytesVal] at h
      unfold reachBytes at h
      omega
  clear hA0 hval0 hsz0
  refine (walk a0 a1 v2 l2 W wd0 wd1 rw2 sl2 b2 (open_nilrow (hval 2 33 v2 rfl rfl) h2)).mono fun e W' ⟨he, bel⟩ => ?_
  subst he
  exact ⟨_, rfl, _, _, _, [], _, [], hW', trodAll_mk1 (shut_bool Try.underlying4 _), (trodAll_cons_mk (shut_val h0 bel) (trodAll_cons_mk (shut_val h1 bel) (trodAll_cons_mk (shut_row h2 bel) trodAll_mk0))), rfl, Below.frame bel _, fun h => by cases h⟩

theorem over : Rows.asksMoreRow.holds Try.pinned (OpenSpec.ofChange Rows.asksMoreSpec) :=
  OpenClaim.holds_of_wide 9 Try.f9 rfl rfl rfl rfl rfl rfl rfl ⟨rfl, rfl, rfl, rfl, rfl⟩ rfl rfl rfl rfl rfl (by kernel_rfl) Try.func9 (by kernel_rfl)
    (of_decide_eq_true (by kernel_rfl)) (by unfold Func.isWrapper; first | (rw [if_pos (by decide +kernel)]; kernel_rfl) | (rw [if_neg (by decide +kernel)]; exact ⟨rfl, rfl⟩))
    (fun os started H enc _ => lifted os started H enc)

end Go.Proofs.Ytppbmkkkjjkiiaa.asksMoreProof
namespace Go.Proofs.Ytppbmkkkjjkiiaa
theorem asksMore_holds : Rows.AsksMoreSaid := asksMoreProof.over
#print axioms asksMore_holds
end Go.Proofs.Ytppbmkkkjjkiiaa
