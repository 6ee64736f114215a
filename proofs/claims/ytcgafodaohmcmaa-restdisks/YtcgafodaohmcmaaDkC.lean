/-
  What Write of package disk answers, for every disk.
-/
import Derived.Test.YtcgafodaohmcmaaDkK
namespace Go.Proofs.Ytcgafodaohmcmaa
open Go.ChangeShapes Go.WideShapes Go.ChangeAt Go.RowKit
set_option linter.unusedVariables false
set_option linter.unusedSimpArgs false
set_option maxRecDepth 100000

namespace JN
theorem write_eq (d : D) (n : Int) (t : B) : writeD d n t = if dchk d = 0 then if w1 n t = 0 then if d.wt.length = 48 then (none, 2) else (⟨d.pg, d.wt ++ [⟨n, t⟩]⟩, 0) else (none, w1 n t) else (none, dchk d) := by
  unfold writeD w1
  by_cases h1 : n < 0 ∨ 31 < n
  · simp [h1]
  · by_cases h2 : 260 < t.size
    · simp [h1, h2]
    · simp [h1, h2]
end JN
theorem own_keep {B n sz : Nat} {T : TypeId} {v : Value} {xs : List Value} {w w' : World} (h : w.ownsRow B T sz v n xs) (hk : ∀ (k : Nat) (cur : Array Value), B ≤ k → w.heap[k]? = some (.cells cur T (0, 0)) → w'.heap[k]? = w.heap[k]?) : w'.ownsRow B T sz v n xs := by
  refine ⟨h.1, ?_⟩
  rcases h.2 with h0 | ⟨g, cap, cur, h1, h2, h3, h4⟩
  · exact Or.inl h0
  · exact Or.inr ⟨g, cap, cur, h1, h2, (hk g cur h2 h3).trans h3, h4⟩
theorem own_fr {B n sz : Nat} {T : TypeId} {v : Value} {xs : List Value} {w w' : World} (h : w.ownsRow B T sz v n xs) (f : Fr w w') : w'.ownsRow B T sz v n xs :=
  own_keep h fun k cur _ hk => f.block k (Array.getElem?_eq_some_iff.1 hk).1
theorem own_low {A B n sz : Nat} {T : TypeId} {v : Value} {xs : List Value} {w : World} (h : w.ownsRow B T sz v n xs) (hAB : A ≤ B) : w.ownsRow A T sz v n xs := by
  refine ⟨h.1, ?_⟩
  rcases h.2 with h0 | ⟨g, cap, cur, h1, h2, h3, h4⟩
  · exact Or.inl h0
  · exact Or.inr ⟨g, cap, cur, h1, Nat.le_trans hAB h2, h3, h4⟩
theorem own_base {B n sz : Nat} {T : TypeId} {v : Value} {xs : List Value} {w : World} (h : w.ownsRow B T sz v n xs) : ∀ g, v.ownBlock = some g → B ≤ g := by
  intro g hg
  rcases h.2 with ⟨rfl, _⟩ | ⟨g', cap, cur, rfl, h2, h3, _⟩
  · cases hg
  · simp only [Value.ownBlock, Option.some.injEq] at hg
    subst hg
    exact h2
theorem own_slice {B n sz : Nat} {T : TypeId} {v : Value} {xs : List Value} {w : World} (h : w.ownsRow B T sz v n xs) : ∃ a c, v = .slice a n c := by
  rcases h.2 with ⟨rfl, h0⟩ | ⟨g', cap, cur, rfl, h2, h3, _⟩
  · exact ⟨none, 0, by rw [h0]⟩
  · exact ⟨_, _, rfl⟩
/-- a store into a block of another type -/
theorem own_setO {B n sz b i : Nat} {T T' : TypeId} {v u : Value} {xs : List Value} {arr : Array Value} {w : World} (h : w.ownsRow B T sz v n xs) (hb : Blk w b arr T') (hne : T' ≠ T) : (w.setCell ⟨b, i, none⟩ u).ownsRow B T sz v n xs := by
  refine own_keep h fun k cur _ hk => ?_
  have hkb : b ≠ k := by
    intro e
    subst e
    have := hb.symm.trans hk
    simp only [Option.some.injEq, Obj.cells.injEq] at this
    exact hne this.2.1
  simp only [World.setCell, Array.getElem?_modify]
  rw [if_neg hkb]
theorem own_set2 {B n sz b : Nat} {T T' : TypeId} {v x y x' y' : Value} {xs : List Value} {w : World} (h : w.ownsRow B T sz v n xs) (hb : Blk w b #[x, y] T') (hne : T' ≠ T) : ((w.setCell ⟨b, 0, none⟩ x').setCell ⟨b, 1, none⟩ y').ownsRow B T sz v n xs :=
  own_setO (own_setO h hb hne) (hb.set 0 x') hne
/-- a disk whose rows the call made -/
structure OwnD (B : Nat) (w : World) (p q : Value) (d : JN.D) : Prop where
  pg : w.ownsRow B 9 1 p d.pg.length (flat cdP d.pg)
  wt : w.ownsRow B 27 2 q d.wt.length (flat cdW d.wt)
theorem OwnD.fr {B : Nat} {w w' : World} {p q : Value} {d : JN.D} (h : OwnD B w p q d) (f : Fr w w') : OwnD B w' p q d := ⟨own_fr h.pg f, own_fr h.wt f⟩
theorem OwnD.is {B : Nat} {w : World} {p q : Value} {d : JN.D} (h : OwnD B w p q d) : IsD w p q d := ⟨isL_own h.pg, isL_own h.wt⟩
theorem own_none (B : Nat) (w : World) : OwnD B w (.slice none 0 0) (.slice none 0 0) JN.none := ⟨World.ownsRow_nil _ _ _ _, World.ownsRow_nil _ _ _ _⟩
/-- what a call answers that answers a disk -/
def DAns (r : JN.D × Nat) (w : World) (e : Ending) (w' : World) : Prop :=
  ∃ p q, e = .returned (.tuple #[.agg #[p, q], .int .i64 r.2]) ∧ OwnD w.heap.size w' p q r.1 ∧ Fr w w'

set_option maxHeartbeats 2000000 in
theorem write_any (p q : Value) (d : JN.D) (no : Int) (s : ByteArray) (w : World) (hr : IsD w p q d) (hb1 : d.pg.length ≤ 9223372036854775806) :
    Calls Try.prog 5 #[.agg #[p, q], .int .i64 no, .string s] w fun e w' => DAns (JN.writeD d no s) w e w' := by
  have c := fun W (f : Fr w W) => check_any p q d W (hr.fr f) hb1
  have hE := JN.write_eq d no s
  have hok : JN.dchk d = 0 → d.pg.length ≤ 32 ∧ d.wt.length ≤ 48 := fun h => ⟨((JN.dchk_ok d).1 h).len, ((JN.dchk_ok d).1 h).many⟩
  generalize hy : JN.dchk d = y at c hE hok
  clear hy
  by_cases h0 : y = 0
  · subst h0
    obtain ⟨h32, h48⟩ := hok rfl
    simp only [if_true] at hE
    generalize hu : JN.w1 no s = u at hE
    have cw := fun W => checkWrite_any no s W
    rw [hu] at cw
    clear hu hok
    by_cases hu : u = 0
    · subst hu
      simp only [if_true] at hE
      have h48' : (d.wt.length : Int) ≤ 48 := by omega
      by_cases h4 : d.wt.length = 48
      · rw [if_pos h4] at hE
        rw [hE]
        have hq := hr.2
        obtain ⟨aq, cq, rfl, _, _⟩ := hq
        have hl4 : ((d.wt.length : Int) == 48) = true := by rw [h4]; rfl
        clear hE h4
        go_enter Try.func5, Try.ntmps5
        go_wp2_with fail
        refine (c _ (((Fr.refl w).alloc _).alloc _)).mono ?_
        rintro _ w1 ⟨rfl, f1⟩
        have b0 := ((Blk.new w #[p, .slice aq d.wt.length cq] 25).old (.cells #[.slice none 0 0, .slice none 0 0] 25)).fr f1
        have b1 := (Blk.new (w.alloc (.cells #[p, .slice aq d.wt.length cq] 25)) #[.slice none 0 0, .slice none 0 0] 25).fr f1
        rw [World.size_alloc] at b1
        obtain ⟨k0, k1, _, _⟩ := b0.two
        obtain ⟨k2, k3, z2, z3⟩ := b1.two
        have ff : Fr w w1 := (((Fr.refl w).alloc _).alloc _).trans f1
        have HB := hideP b1
        have HF := hideP ff
        clear b0 b1 f1 ff
        go_wp2_with fail
        refine (cw _).mono ?_
        rintro _ w1 ⟨rfl, rfl⟩
        go_wp2_with fail
        refine bodyPost_ret (v := .tuple #[.agg #[.slice none 0 0, .slice none 0 0], .int .i64 (2 : Int)]) ?_ rfl ?_
        · obtain ⟨q0, q1, _, _⟩ := (HB.out.set2 (.slice none 0 0) (.slice none 0 0)).two
          simp [results, Try.results5, go_sem, q0, q1]
        · exact ⟨_, _, rfl, own_none _ _, HF.out.set2 _ (by omega) _ _⟩
      · rw [if_neg h4] at hE
        rw [hE]
        clear hE
        obtain ⟨i0, hi, hz0, hz1, hz2⟩ := info_parts Try.infoW
        obtain ⟨pg, wt⟩ := d
        simp only at *
        have cq := fun W (f : Fr w W) => cloneW_any q wt W (hr.2.fr f) (by omega)
        have cp := fun W (f : Fr w W) => cloneS_any p pg W (hr.1.fr f) (by omega)
        obtain ⟨aq, kq, rfl, _, _⟩ := hr.2
        have hl4 : ((wt.length : Int) == 48) = false := by simp; omega
        clear hr
        go_enter Try.func5, Try.ntmps5
        go_wp2_with fail
        refine (c _ (((Fr.refl w).alloc _).alloc _)).mono ?_
        rintro _ w1 ⟨rfl, f1⟩
        have b0 := ((Blk.new w #[p, .slice aq wt.length kq] 25).old (.cells #[.slice none 0 0, .slice none 0 0] 25)).fr f1
        have b1 := (Blk.new (w.alloc (.cells #[p, .slice aq wt.length kq] 25)) #[.slice none 0 0, .slice none 0 0] 25).fr f1
        rw [World.size_alloc] at b1
        obtain ⟨k0, k1, _, _⟩ := b0.two
        have ff : Fr w w1 := (((Fr.refl w).alloc _).alloc _).trans f1
        have HB0 := hideP b0
        have HB1 := hideP b1
        have HF := hideP ff
        clear b0 b1 f1 ff
        go_wp2_with fail
        refine (cw _).mono ?_
        rintro _ w1 ⟨rfl, rfl⟩
        go_wp2_with fail
        refine (cq _ HF.out).mono ?_
        rintro _ w2 ⟨v1, rfl, ho, f2⟩
        have HO := hideP ho
        have HF2 := hideP f2
        clear k0 k1 ho f2
        go_wp2_with (at_builtin; refine wpList_append_own _ rfl _ _ 23 rfl w1.heap.size 27 i0 (.agg #[.int .i64 0, .string ⟨#[]⟩]) 2 24 Try.underlying23 hi hz0 hz1 hz2 rfl (by decide) _ _ _ rfl (own_fr HO.out ((Fr.refl w2).alloc (.cells #[.int .i64 no, .string s] 27))) ⟨w2.heap.size, 0, none⟩ 1 1 [.int .i64 no, .string s] rfl ?qc1 ?qc2 ?qc3 ?qc4 ?qc5 ?qc6 ?_)
        case qc1 => rfl
        case qc2 =>
          intro j u hj
          rw [Addr.add_lit, Nat.zero_add]
          exact (Blk.new w2 #[.int .i64 no, .string s] 27).cell j (by simpa using hj)
        case qc3 => intro u hu; simp at hu; rcases hu with rfl | rfl <;> rfl
        case qc4 => unfold maxLen; omega
        case qc5 => omega
        case qc6 => have := HF2.out.size; simp; omega
        intro v2 w3 hown hgrow hnil
        have f3 : Fr w1 w3 := Below.grown (HF2.out.alloc _) hgrow (by have := HF2.out.size; simp; omega) (own_base HO.out)
        have ho2 : w3.ownsRow w1.heap.size 27 2 v2 (wt.length + 1) (flat cdW (wt ++ [(⟨no, s⟩ : JN.W)])) := by
          rw [flat_app]; exact hown
        obtain ⟨a2, c2, rfl⟩ := own_slice ho2
        have HO2 := hideP ho2
        have HF3 := hideP f3
        obtain ⟨k0, k1, _, _⟩ := (HB0.out.fr f3).two
        clear hown hgrow hnil f3 ho2
        go_wp2_with fail
        refine (cp _ (HF.out.trans HF3.out)).mono ?_
        rintro _ w4 ⟨v3, rfl, ho3, f4⟩
        obtain ⟨a3, c3, rfl⟩ := own_slice ho3
        have HO3 := hideP ho3
        have HF4 := hideP f4
        have HB2 := hideP ((HB1.out.fr HF3.out).fr f4)
        obtain ⟨k2, k3, z2, z3⟩ := HB2.out.two
        clear k0 k1 ho3 f4
        go_wp2_with fail
        refine bodyPost_ret (v := .tuple #[.agg #[.slice a3 pg.length c3, .slice a2 (wt.length + 1) c2], .int .i64 (0 : Int)]) ?_ rfl ?_
        · obtain ⟨q0, q1, _, _⟩ := HB2.out.put2 (.slice a3 pg.length c3) (.slice a2 (wt.length + 1) c2)
          change (results Try.f5 _).run Try.prog (put2 w4 _ _ _) = .ok _ (put2 w4 _ _ _)
          simp [results, Try.results5, go_sem, q0, q1]
        · refine ⟨_, _, rfl, ⟨?_, ?_⟩, ((HF.out.trans HF3.out).trans HF4.out).set2 _ (by omega) _ _⟩
          · exact own_set2 (own_low HO3.out (HF.out.trans HF3.out).size) HB2.out (by decide)
          · simp only [List.length_append, List.length_cons, List.length_nil]
            exact own_set2 (own_low (own_fr HO2.out HF4.out) HF.out.size) HB2.out (by decide)
    · rw [if_neg hu] at hE
      rw [hE]
      have hne : ((u : Int) != 0) = true := by simp; omega
      have hne2 : ¬ ((u : Int) = 0) := by omega
      clear hE
      go_enter Try.func5, Try.ntmps5
      go_wp2_with fail
      refine (c _ (((Fr.refl w).alloc _).alloc _)).mono ?_
      rintro _ w1 ⟨rfl, f1⟩
      have b1 := (Blk.new (w.alloc (.cells #[p, q] 25)) #[.slice none 0 0, .slice none 0 0] 25).fr f1
      rw [World.size_alloc] at b1
      obtain ⟨k2, k3, z2, z3⟩ := b1.two
      have ff : Fr w w1 := (((Fr.refl w).alloc _).alloc _).trans f1
      have HB := hideP b1
      have HF := hideP ff
      clear b1 f1 ff
      go_wp2_with fail
      refine (cw _).mono ?_
      rintro _ w1 ⟨rfl, rfl⟩
      go_wp2_with fail
      refine bodyPost_ret (v := .tuple #[.agg #[.slice none 0 0, .slice none 0 0], .int .i64 (u : Int)]) ?_ rfl ?_
      · obtain ⟨q0, q1, _, _⟩ := (HB.out.set2 (.slice none 0 0) (.slice none 0 0)).two
        simp [results, Try.results5, go_sem, q0, q1]
      · exact ⟨_, _, rfl, own_none _ _, HF.out.set2 _ (by omega) _ _⟩
  · rw [if_neg h0] at hE
    rw [hE]
    have hne : ((y : Int) != 0) = true := by simp; omega
    have hne2 : ¬ ((y : Int) = 0) := by omega
    clear hE hok
    go_enter Try.func5, Try.ntmps5
    go_wp2_with fail
    refine (c _ (((Fr.refl w).alloc _).alloc _)).mono ?_
    rintro _ w1 ⟨rfl, f1⟩
    have b1 := (Blk.new (w.alloc (.cells #[p, q] 25)) #[.slice none 0 0, .slice none 0 0] 25).fr f1
    rw [World.size_alloc] at b1
    obtain ⟨k2, k3, z2, z3⟩ := b1.two
    have ff : Fr w w1 := (((Fr.refl w).alloc _).alloc _).trans f1
    have HB := hideP b1
    have HF := hideP ff
    clear b1 f1 ff
    go_wp2_with fail
    refine bodyPost_ret (v := .tuple #[.agg #[.slice none 0 0, .slice none 0 0], .int .i64 (y : Int)]) ?_ rfl ?_
    · obtain ⟨q0, q1, _, _⟩ := (HB.out.set2 (.slice none 0 0) (.slice none 0 0)).two
      simp [results, Try.results5, go_sem, q0, q1]
    · exact ⟨_, _, rfl, own_none _ _, HF.out.set2 _ (by omega) _ _⟩
end Go.Proofs.Ytcgafodaohmcmaa
