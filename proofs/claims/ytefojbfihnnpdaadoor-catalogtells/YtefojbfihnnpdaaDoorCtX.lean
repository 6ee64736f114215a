/-
  SameCols, SameSchema, SameSchemas of things that are alike; the small makers of values.
-/
import Derived.Test.YtefojbfihnnpdaaDoorSameE
namespace Go.Proofs.YtefojbfihnnpdaaDoor
open Go.ChangeShapes Go.WideShapes Go.ChangeAt Go.RowKit
set_option linter.unusedVariables false
set_option linter.unusedSimpArgs false
set_option maxRecDepth 100000
set_option maxHeartbeats 2000000

theorem sameCols_eq (v u : Value) (l : List CT.Cl) (w : World) (hv : IsL cdC w v l) (hu : IsL cdC w u l) (hl : l.length ≤ 9223372036854775806) :
    Calls Tryd.prog 49 #[v, u] w fun e w' => e = .returned (.bool true) ∧ Fr w w' := by
  obtain ⟨a, cap, rfl, _, hcs⟩ := hv
  obtain ⟨a2, cap2, rfl, _, hcs2⟩ := hu
  have HC := hideP hcs
  have HC2 := hideP hcs2
  clear hcs hcs2
  go_enter Tryd.func49, Tryd.ntmps49
  go_wp2_with fail
  go_loopw [5] (fun iv wr => ∃ i : Nat, iv = .int .i64 i ∧ i ≤ l.length ∧ Fr w wr) (fun iv _ => l.length - (intOf iv).toNat)
  case atStart => exact ⟨0, rfl, by omega, Fr.refl _⟩
  case round =>
    obtain ⟨i, rfl, hi, hfr⟩ := hrel
    by_cases hlt : i < l.length
    · obtain ⟨b, o, rfl, hb, hc⟩ : ∃ b o, a = some ⟨b, o, none⟩ ∧ b < w.heap.size ∧ At cdC w b o l := by
        rcases HC.out with h | h
        · subst h; simp at hlt
        · exact h
      obtain ⟨b2, o2, rfl, hb2, hc2⟩ : ∃ b o, a2 = some ⟨b, o, none⟩ ∧ b < w.heap.size ∧ At cdC w b o l := by
        rcases HC2.out with h | h
        · subst h; simp at hlt
        · exact h
      obtain ⟨c0, c1, c2, c3⟩ := (hc.fr hb hfr).co i hlt
      obtain ⟨d0, d1, d2, d3⟩ := (hc2.fr hb2 hfr).co i hlt
      generalize l[i] = x at c0 c1 c2 c3 d0 d1 d2 d3
      obtain ⟨n, k, p, q⟩ := x
      simp only at c0 c1 c2 c3 d0 d1 d2 d3
      have hlt' : (i : Int) < (l.length : Int) := by omega
      have HF := hideP hfr
      clear hc hc2 hfr
      go_wp2_with fail
      go_region
      go_wp2_with fail
      go_roundw
      case rel => exact ⟨i + 1, by go_num, by omega, Fr.drew HF.out⟩
      case measure => simp [intOf]; omega
    · obtain rfl : i = l.length := by omega
      go_wp2_with fail
      go_ret
      exact ⟨rfl, hfr⟩
theorem sameSchema_eq (id : Int) (n : ByteArray) (a a2 : Option Addr) (c c2 k k2 : Nat) (l : List CT.Cl) (w : World) (hv : IsL cdC w (.slice a k c) l) (hu : IsL cdC w (.slice a2 k2 c2) l) (hl : l.length ≤ 9223372036854775806) :
    Calls Tryd.prog 37 #[.agg #[.int .i64 id, .string n, .slice a k c], .agg #[.int .i64 id, .string n, .slice a2 k2 c2]] w fun e w' => e = .returned (.bool true) ∧ Fr w w' := by
  obtain ⟨W0, hW0⟩ : ∃ W0, (w.alloc (.cells #[.int .i64 id, .string n, .slice a k c] 39)).alloc (.cells #[.int .i64 id, .string n, .slice a2 k2 c2] 39) = W0 := ⟨_, rfl⟩
  have f0 : Fr w W0 := by rw [← hW0]; exact ((Fr.refl w).alloc _).alloc _
  have b0 : Blk W0 w.heap.size #[.int .i64 id, .string n, .slice a k c] 39 := by rw [← hW0]; exact (Blk.new w _ _).old _
  have b1 : Blk W0 (w.heap.size + 1) #[.int .i64 id, .string n, .slice a2 k2 c2] 39 := by
    have := Blk.new (w.alloc (.cells #[.int .i64 id, .string n, .slice a k c] 39)) #[.int .i64 id, .string n, .slice a2 k2 c2] 39
    rw [World.size_alloc, hW0] at this; exact this
  have cc := sameCols_eq _ _ l W0 (hv.fr f0) (hu.fr f0) hl
  have k0 := b0.cell 0 rfl
  have k1 := b0.cell 1 rfl
  have k2 := b0.cell 2 rfl
  have v0 := b1.cell 0 rfl
  have v1 := b1.cell 1 rfl
  have v2 := b1.cell 2 rfl
  have HF0 := hideP f0
  clear f0 b0 b1 hv hu
  go_enter Tryd.func37, Tryd.ntmps37
  go_wp2_with fail
  refine cc.mono ?_
  rintro _ w1 ⟨rfl, f1⟩
  have F1 := hideP (HF0.out.trans f1)
  clear f1 cc
  go_wp2_with fail
  go_ret
  exact ⟨rfl, F1.out⟩
theorem vInt_any (n : Int) (w : World) : Calls Tryd.prog 32 #[.int .i64 n] w fun e w' => e = .returned (.agg #[.int .i64 1, .int .i64 n, .string ⟨#[]⟩]) ∧ Fr w w' := by
  go_enter Tryd.func32, Tryd.ntmps32
  go_wp2
  refine bodyPost_ret (v := .agg #[.int .i64 1, .int .i64 n, .string ⟨#[]⟩]) (by simp [results, Tryd.results32, go_sem]) rfl ?_
  exact ⟨rfl, (Fr.refl _).alloc _⟩
theorem vText_any (s : ByteArray) (w : World) : Calls Tryd.prog 30 #[.string s] w fun e w' => e = .returned (.agg #[.int .i64 2, .int .i64 0, .string s]) ∧ Fr w w' := by
  go_enter Tryd.func30, Tryd.ntmps30
  go_wp2
  refine bodyPost_ret (v := .agg #[.int .i64 2, .int .i64 0, .string s]) (by simp [results, Tryd.results30, go_sem]) rfl ?_
  exact ⟨rfl, (Fr.refl _).alloc _⟩
theorem vBlob_any (s : ByteArray) (w : World) : Calls Tryd.prog 33 #[.string s] w fun e w' => e = .returned (.agg #[.int .i64 3, .int .i64 0, .string s]) ∧ Fr w w' := by
  go_enter Tryd.func33, Tryd.ntmps33
  go_wp2
  refine bodyPost_ret (v := .agg #[.int .i64 3, .int .i64 0, .string s]) (by simp [results, Tryd.results33, go_sem]) rfl ?_
  exact ⟨rfl, (Fr.refl _).alloc _⟩
theorem entry_any (n : Int) (a : Option Addr) (k c : Nat) (w : World) : Calls Tryd.prog 29 #[.int .i64 n, .slice a k c] w fun e w' => e = .returned (.agg #[.int .i64 n, .slice a k c]) ∧ Fr w w' := by
  go_enter Tryd.func29, Tryd.ntmps29
  go_wp2
  refine bodyPost_ret (v := .agg #[.int .i64 n, .slice a k c]) (by simp [results, Tryd.results29, go_sem]) rfl ?_
  exact ⟨rfl, (Fr.refl _).alloc _⟩
theorem entries_any (v : Value) (w : World) : Calls Tryd.prog 28 #[v] w fun e w' => e = .returned v ∧ Fr w w' := by
  go_enter Tryd.func28, Tryd.ntmps28
  go_wp2
  go_ret
  exact ⟨rfl, Fr.refl _⟩
theorem rowOf_any (v : Value) (w : World) : Calls Tryd.prog 31 #[v] w fun e w' => e = .returned v ∧ Fr w w' := by
  go_enter Tryd.func31, Tryd.ntmps31
  go_wp2
  go_ret
  exact ⟨rfl, Fr.refl _⟩
/-- the table of birds -/
def birdC : List CT.Cl := [⟨⟨#[105, 100]⟩, 1, true, true⟩, ⟨⟨#[110, 97, 109, 101]⟩, 2, false, false⟩, ⟨⟨#[110, 111, 116, 101]⟩, 0, false, false⟩]
def birdS : CT.Sc := ⟨2, ⟨#[98, 105, 114, 100, 115]⟩, birdC⟩
theorem lit_many {α : Type} (E : Cd α) (W : World) (l : List α) (T : TypeId) : IsL E (W.alloc (.cells (flat E l).toArray T)) (.slice (some ⟨W.heap.size, 0, none⟩) l.length l.length) l := by
  refine ⟨_, _, rfl, Nat.le_refl _, Or.inr ⟨W.heap.size, 0, rfl, by simp, ?_⟩⟩
  intro j u hu
  rw [Nat.zero_add]
  refine (Blk.new W (flat E l).toArray T).cell j ?_
  simpa using hu
theorem isL_blk {α : Type} {E : Cd α} {W : World} {b : Nat} {l : List α} {T : TypeId} (h : Blk W b (flat E l).toArray T) : IsL E W (.slice (some ⟨b, 0, none⟩) l.length l.length) l := by
  refine ⟨_, _, rfl, Nat.le_refl _, Or.inr ⟨b, 0, rfl, h.lt, ?_⟩⟩
  intro j u hu
  rw [Nat.zero_add]
  refine h.cell j ?_
  simpa using hu
theorem blk_oth3 {w : World} {b b' : Nat} {arr : Array Value} {T : TypeId} {x y z : Value} (h : Blk w b arr T) (hne : b' ≠ b) : Blk (put3 w b' x y z) b arr T :=
  ((h.other hne 0 x).other hne 1 y).other hne 2 z
theorem birds_any (w : World) : Calls Tryd.prog 27 #[] w fun e w' => ∃ b, e = .returned (.agg #[.int .i64 2, .string ⟨#[98, 105, 114, 100, 115]⟩, .slice (some ⟨b, 0, none⟩) 3 3]) ∧ IsL cdC w' (.slice (some ⟨b, 0, none⟩) 3 3) birdC ∧ Fr w w' := by
  obtain ⟨W0, hW0⟩ : ∃ W0, w.alloc (.cells #[.int .i64 0, .string ⟨#[]⟩, .slice none 0 0] 39) = W0 := ⟨_, rfl⟩
  have f0 : Fr w W0 := by rw [← hW0]; exact (Fr.refl w).alloc _
  have b0 : Blk W0 w.heap.size #[.int .i64 0, .string ⟨#[]⟩, .slice none 0 0] 39 := by rw [← hW0]; exact Blk.new w _ _
  obtain ⟨W1, hW1⟩ : ∃ W1, W0.alloc (.cells #[.string ⟨#[105, 100]⟩, .int .i64 1, .bool true, .bool true, .string ⟨#[110, 97, 109, 101]⟩, .int .i64 2, .bool false, .bool false, .string ⟨#[110, 111, 116, 101]⟩, .int .i64 0, .bool false, .bool false] 44) = W1 := ⟨_, rfl⟩
  have hl : Blk W1 W0.heap.size (flat cdC birdC).toArray 44 := by rw [← hW1]; exact Blk.new W0 _ _
  have hsz : W0.heap.size = w.heap.size + 1 := by rw [← hW0, World.size_alloc]
  have HSz := hideP hsz
  have b1 : Blk W1 w.heap.size #[.int .i64 0, .string ⟨#[]⟩, .slice none 0 0] 39 := by rw [← hW1]; exact b0.old _
  have f1 : Fr w W1 := by rw [← hW1]; exact f0.alloc _
  have v0 := b1.cell 0 rfl
  have v1 := b1.cell 1 rfl
  have v2 := b1.cell 2 rfl
  have y0 := b1.frozen 0
  have y1 := b1.frozen 1
  have y2 := b1.frozen 2
  have HB1 := hideP b1
  have HF1 := hideP f1
  have HL := hideP hl
  have HW1 := hideP hW1
  have HW0 := hideP hW0
  clear f0 b0 b1 f1 hl hsz
  go_enter Tryd.func27, Tryd.ntmps27
  go_wp2_with fail
  refine bodyPost_ret (v := .agg #[.int .i64 2, .string ⟨#[98, 105, 114, 100, 115]⟩, .slice (some ⟨W0.heap.size, 0, none⟩) 3 3]) ?_ rfl ⟨W0.heap.size, rfl, isL_blk (E := cdC) (l := birdC) (blk_oth3 (b' := w.heap.size) HL.out (by rw [HSz.out]; omega)), HF1.out.put3 w.heap.size (Nat.le_refl _) _ _ _⟩
  have bb := HB1.out.put3 (.int .i64 2) (.string ⟨#[98, 105, 114, 100, 115]⟩) (.slice (some ⟨W0.heap.size, 0, none⟩) 3 3)
  have r0 := bb.cell 0 rfl
  have r1 := bb.cell 1 rfl
  have r2 := bb.cell 2 rfl
  change (results Tryd.f27 _).run Tryd.prog (put3 W1 _ _ _ _) = .ok _ (put3 W1 _ _ _ _)
  simp [results, Tryd.results27, go_sem, r0, r1, r2]
theorem s6_after {w w' : World} {a0 a1 a2 a3 a4 a5 : Addr} {v0 v1 v2 v3 v4 v5 : Value} (f : Fr w w') (h : w.cell? a0 = some v0 ∧ w.cell? a1 = some v1 ∧ w.cell? a2 = some v2 ∧ w.cell? a3 = some v3 ∧ w.cell? a4 = some v4 ∧ w.cell? a5 = some v5) : w'.cell? a0 = some v0 ∧ w'.cell? a1 = some v1 ∧ w'.cell? a2 = some v2 ∧ w'.cell? a3 = some v3 ∧ w'.cell? a4 = some v4 ∧ w'.cell? a5 = some v5 :=
  ⟨(Below.cell f (World.block_lt_of_cell? _ _ h.1)).trans h.1, (Below.cell f (World.block_lt_of_cell? _ _ h.2.1)).trans h.2.1, (Below.cell f (World.block_lt_of_cell? _ _ h.2.2.1)).trans h.2.2.1, (Below.cell f (World.block_lt_of_cell? _ _ h.2.2.2.1)).trans h.2.2.2.1, (Below.cell f (World.block_lt_of_cell? _ _ h.2.2.2.2.1)).trans h.2.2.2.2.1, (Below.cell f (World.block_lt_of_cell? _ _ h.2.2.2.2.2)).trans h.2.2.2.2.2⟩
theorem sameSchemas_eq (v u : Value) (l : List CT.Sc) (w : World) (hv : IsSc w v l) (hu : IsSc w u l) (hl : l.length ≤ 9223372036854775806) (hr : ∀ s ∈ l, s.c.length ≤ 9223372036854775806) :
    Calls Tryd.prog 16 #[v, u] w fun e w' => e = .returned (.bool true) ∧ Fr w w' := by
  obtain ⟨ps, ⟨a, cap, rfl, _, hcs⟩, hp1, hk1⟩ := hv
  obtain ⟨qs, ⟨a2, cap2, rfl, _, hcs2⟩, hp2, hk2⟩ := hu
  have hpl : ps.length = l.length := by rw [← hp1, List.length_map]
  have hql : qs.length = l.length := by rw [← hp2, List.length_map]
  have HC := hideP hcs
  have HC2 := hideP hcs2
  have HP1 := hideP hp1
  have HP2 := hideP hp2
  have HK1 := hideP hk1
  have HK2 := hideP hk2
  have HR := hideP hr
  have HL1 := hideP hpl
  have HL2 := hideP hql
  rw [hpl, hql]
  clear hcs hcs2 hp1 hp2 hk1 hk2 hr hpl hql
  go_enter Tryd.func16, Tryd.ntmps16
  go_wp2_with fail
  go_loopw [5] (fun iv wr => ∃ i : Nat, iv = .int .i64 i ∧ i ≤ l.length ∧ Fr w wr) (fun iv _ => l.length - (intOf iv).toNat)
  case atStart => exact ⟨0, rfl, by omega, Fr.refl _⟩
  case round =>
    obtain ⟨i, rfl, hi, hfr⟩ := hrel
    by_cases hlt : i < l.length
    · have hl1 : i < ps.length := by rw [HL1.out]; exact hlt
      have hl2 : i < qs.length := by rw [HL2.out]; exact hlt
      obtain ⟨b, o, rfl, hb, hc⟩ : ∃ b o, a = some ⟨b, o, none⟩ ∧ b < w.heap.size ∧ At cdS w b o ps := by
        rcases HC.out with h | h
        · subst h; simp at hl1
        · exact h
      obtain ⟨b2, o2, rfl, hb2, hc2⟩ : ∃ b o, a2 = some ⟨b, o, none⟩ ∧ b < w.heap.size ∧ At cdS w b o qs := by
        rcases HC2.out with h | h
        · subst h; simp at hl2
        · exact h
      obtain ⟨c0, c1, c2⟩ := (hc.fr hb hfr).sc i hl1
      obtain ⟨d0, d1, d2⟩ := (hc2.fr hb2 hfr).sc i hl2
      have e1 : ps[i].1 = l[i] := by
        have e := HP1.out
        subst e
        rw [List.getElem_map]
      have e2 : qs[i].1 = l[i] := by
        have e := HP2.out
        simp only [← e, List.getElem_map]
      have k1 := HK1.out ps[i] (List.getElem_mem hl1)
      have k2 := HK2.out qs[i] (List.getElem_mem hl2)
      rw [e1] at c0 c1 k1
      rw [e2] at d0 d1 k2
      have hrl := HR.out l[i] (List.getElem_mem hlt)
      generalize ps[i].2 = s1 at c2 k1
      generalize qs[i].2 = s2 at d2 k2
      generalize l[i] = x at c0 c1 d0 d1 k1 k2 hrl
      obtain ⟨sa, sn, sc⟩ := s1
      obtain ⟨ta, tn, tc⟩ := s2
      obtain ⟨xi, xn, xc⟩ := x
      simp only [slV] at c0 c1 c2 d0 d1 d2 k1 k2 hrl
      have hss := fun W (f : Fr wr W) => sameSchema_eq xi xn sa ta sc tc sn tn xc W (k1.fr (hfr.trans f)) (k2.fr (hfr.trans f)) hrl
      have HSS := hideP hss
      have hlt' : (i : Int) < (l.length : Int) := by omega
      have HF := hideP hfr
      have HS6 := hideP (show wr.cell? ⟨b, o + i * 3, none⟩ = some (.int .i64 xi) ∧ wr.cell? ⟨b, o + i * 3 + 1, none⟩ = some (.string xn) ∧ wr.cell? ⟨b, o + i * 3 + 2, none⟩ = some (.slice sa sn sc) ∧ wr.cell? ⟨b2, o2 + i * 3, none⟩ = some (.int .i64 xi) ∧ wr.cell? ⟨b2, o2 + i * 3 + 1, none⟩ = some (.string xn) ∧ wr.cell? ⟨b2, o2 + i * 3 + 2, none⟩ = some (.slice ta tn tc) from ⟨c0, c1, c2, d0, d1, d2⟩)
      clear hc hc2 hfr hss e1 e2 k1 k2 c0 c1 c2 d0 d1 d2
      have hz := Fr.drew (Fr.refl wr)
      go_wp2_with fail
      go_region_held3 (fun W => W.cell? ⟨b, o + i * 3, none⟩ = some (.int .i64 xi) ∧ W.cell? ⟨b, o + i * 3 + 1, none⟩ = some (.string xn) ∧ W.cell? ⟨b, o + i * 3 + 2, none⟩ = some (.slice sa sn sc) ∧ W.cell? ⟨b2, o2 + i * 3, none⟩ = some (.int .i64 xi) ∧ W.cell? ⟨b2, o2 + i * 3 + 1, none⟩ = some (.string xn) ∧ W.cell? ⟨b2, o2 + i * 3 + 2, none⟩ = some (.slice ta tn tc)) (first | exact HS6.out | exact s6_after hz HS6.out) (first
        | (go_at_call 37; refine (HSS.out _ hz).mono ?_; rintro _ w2 ⟨rfl, f2⟩; replace hz := Fr.after' f2 hz; clear f2))
      all_goals (
        have F2 := hideP (HF.out.trans hz)
        go_wp2_with fail
        go_roundw
        case rel => exact ⟨i + 1, by go_num, by omega, F2.out⟩
        case measure => simp [intOf]; omega)
    · obtain rfl : i = l.length := by omega
      go_wp2_with fail
      go_ret
      exact ⟨rfl, hfr⟩
end Go.Proofs.YtefojbfihnnpdaaDoor
