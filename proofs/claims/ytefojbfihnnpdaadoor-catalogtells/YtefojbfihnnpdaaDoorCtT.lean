/-
  What tableOf of package catalog answers, for every entry.
-/
import Derived.Test.YtefojbfihnnpdaaDoorCtK
namespace Go.Proofs.YtefojbfihnnpdaaDoor
open Go.ChangeShapes Go.WideShapes Go.ChangeAt Go.RowKit
set_option linter.unusedVariables false
set_option linter.unusedSimpArgs false
set_option maxRecDepth 100000
set_option maxHeartbeats 4000000

namespace CT
def tabB (e : LF.En) : Bool := match e.2 with
  | [] => false
  | x :: r => decide (x.k = 2) && r.all colB
def tabA (e : LF.En) : Sc := match e.2 with
  | [] => ⟨0, ⟨#[]⟩, []⟩
  | x :: r => ⟨e.1, x.s, r.map colA⟩
end CT
theorem Tryd.infoCol : (Tryd.prog.info? 44).map (fun i => (i.zero, i.size, i.bytes)) = some (some (.agg #[.string ⟨#[]⟩, .int .i64 0, .bool false, .bool false]), 4, 32) := by kernel_rfl
theorem tableOf_bad0 (id : Int) (a : Option Addr) (cap : Nat) (w : World) :
    Calls Tryd.prog 21 #[.agg #[.int .i64 id, .slice a 0 cap]] w fun e w' => e = .returned (.tuple #[.agg #[.int .i64 0, .string ⟨#[]⟩, .slice none 0 0], .bool false]) ∧ Fr w w' := by
  obtain ⟨W0, hW0⟩ : ∃ W0, (w.alloc (.cells #[.int .i64 id, .slice a 0 cap] 53)).alloc (.cells #[.int .i64 0, .string ⟨#[]⟩, .slice none 0 0] 39) = W0 := ⟨_, rfl⟩
  have f0 : Fr w W0 := by rw [← hW0]; exact ((Fr.refl w).alloc _).alloc _
  have b0 : Blk W0 w.heap.size #[.int .i64 id, .slice a 0 cap] 53 := by rw [← hW0]; exact (Blk.new w _ _).old _
  have b1 : Blk W0 (w.heap.size + 1) #[.int .i64 0, .string ⟨#[]⟩, .slice none 0 0] 39 := by
    have := Blk.new (w.alloc (.cells #[.int .i64 id, .slice a 0 cap] 53)) #[.int .i64 0, .string ⟨#[]⟩, .slice none 0 0] 39
    rw [World.size_alloc, hW0] at this; exact this
  have k1 := b0.cell 1 rfl
  have v0 := b1.cell 0 rfl
  have v1 := b1.cell 1 rfl
  have v2 := b1.cell 2 rfl
  have y0 := b1.frozen 0
  have y1 := b1.frozen 1
  have y2 := b1.frozen 2
  have HB1 := hideP b1
  have HF0 := hideP f0
  clear f0 b0 b1
  go_enter Tryd.func21, Tryd.ntmps21
  go_wp2_with fail
  refine bodyPost_ret (v := .tuple #[.agg #[.int .i64 0, .string ⟨#[]⟩, .slice none 0 0], .bool false]) ?_ rfl ⟨rfl, HF0.out.put3 (w.heap.size + 1) (by omega) _ _ _⟩
  have bb := HB1.out.put3 (.int .i64 0) (.string ⟨#[]⟩) (.slice none 0 0)
  have r0 := bb.cell 0 rfl
  have r1 := bb.cell 1 rfl
  have r2 := bb.cell 2 rfl
  change (results Tryd.f21 _).run Tryd.prog (put3 W0 _ _ _ _) = .ok _ (put3 W0 _ _ _ _)
  simp [results, Tryd.results21, go_sem, r0, r1, r2]
theorem tableOf_bad1 (id : Int) (b o n cap : Nat) (x : VM.Vl) (w : World) (hx : x.k ≠ 2) (hb : b < w.heap.size) (hc : w.cell? ⟨b, o, none⟩ = some (.int .i64 x.k)) :
    Calls Tryd.prog 21 #[.agg #[.int .i64 id, .slice (some ⟨b, o, none⟩) (n + 1) cap]] w fun e w' => e = .returned (.tuple #[.agg #[.int .i64 0, .string ⟨#[]⟩, .slice none 0 0], .bool false]) ∧ Fr w w' := by
  obtain ⟨xk, xn, xs⟩ := x
  simp only at hx hc
  obtain ⟨W0, hW0⟩ : ∃ W0, (w.alloc (.cells #[.int .i64 id, .slice (some ⟨b, o, none⟩) (n + 1) cap] 53)).alloc (.cells #[.int .i64 0, .string ⟨#[]⟩, .slice none 0 0] 39) = W0 := ⟨_, rfl⟩
  have f0 : Fr w W0 := by rw [← hW0]; exact ((Fr.refl w).alloc _).alloc _
  have b0 : Blk W0 w.heap.size #[.int .i64 id, .slice (some ⟨b, o, none⟩) (n + 1) cap] 53 := by rw [← hW0]; exact (Blk.new w _ _).old _
  have b1 : Blk W0 (w.heap.size + 1) #[.int .i64 0, .string ⟨#[]⟩, .slice none 0 0] 39 := by
    have := Blk.new (w.alloc (.cells #[.int .i64 id, .slice (some ⟨b, o, none⟩) (n + 1) cap] 53)) #[.int .i64 0, .string ⟨#[]⟩, .slice none 0 0] 39
    rw [World.size_alloc, hW0] at this; exact this
  have k1 := b0.cell 1 rfl
  have c0 : W0.cell? ⟨b, o, none⟩ = some (.int .i64 xk) := (Below.cell f0 hb).trans hc
  have v0 := b1.cell 0 rfl
  have v1 := b1.cell 1 rfl
  have v2 := b1.cell 2 rfl
  have y0 := b1.frozen 0
  have y1 := b1.frozen 1
  have y2 := b1.frozen 2
  have HB1 := hideP b1
  have HF0 := hideP f0
  clear f0 b0 b1 hc hb
  have e1 : (xk != 2) = true := by simpa using hx
  have e2 : (((n + 1 : Nat) : Int) == 0) = false := by simp; omega
  have e3 : ((n : Int) + 1 == 0) = false := by simp; omega
  have e4 : (0 : Int) < (n : Int) + 1 := by omega
  go_enter Tryd.func21, Tryd.ntmps21
  go_wp2_with fail
  refine bodyPost_ret (v := .tuple #[.agg #[.int .i64 0, .string ⟨#[]⟩, .slice none 0 0], .bool false]) ?_ rfl ⟨rfl, HF0.out.put3 (w.heap.size + 1) (by omega) _ _ _⟩
  have bb := HB1.out.put3 (.int .i64 0) (.string ⟨#[]⟩) (.slice none 0 0)
  have r0 := bb.cell 0 rfl
  have r1 := bb.cell 1 rfl
  have r2 := bb.cell 2 rfl
  change (results Tryd.f21 _).run Tryd.prog (put3 W0 _ _ _ _) = .ok _ (put3 W0 _ _ _ _)
  simp [results, Tryd.results21, go_sem, r0, r1, r2]
theorem own_set1 {B n b i : Nat} {T T' : TypeId} {v x : Value} {ar : Array Value} {xs : List Value} {sz : Nat} {w : World} (h : w.ownsRow B T sz v n xs) (hb : Blk w b ar T') (hne : T ≠ T') : (w.setCell ⟨b, i, none⟩ x).ownsRow B T sz v n xs := by
  refine own_keep h fun k cur _ hk => ?_
  have hkb : b ≠ k := by
    intro e
    subst e
    have := hb.symm.trans hk
    simp at this
    exact hne this.2.symm
  simp only [World.setCell, Array.getElem?_modify, if_neg hkb]
theorem own_put3 {B n b : Nat} {T T' : TypeId} {v x y z x' y' z' : Value} {xs : List Value} {sz : Nat} {w : World} (h : w.ownsRow B T sz v n xs) (hb : Blk w b #[x, y, z] T') (hne : T ≠ T') : (put3 w b x' y' z').ownsRow B T sz v n xs := by
  refine own_keep h fun k cur _ hk => ?_
  have hkb : b ≠ k := by
    intro e
    subst e
    have := hb.symm.trans hk
    simp at this
    exact hne this.2.symm
  simp only [put3, World.setCell, Array.getElem?_modify, if_neg hkb]
def TAns (B : Nat) (id : Int) (n : ByteArray) (r : List VM.Vl) (e : Ending) (w' : World) : Prop :=
  (r.all CT.colB = true ∧ ∃ v, e = .returned (.tuple #[.agg #[.int .i64 id, .string n, v], .bool true]) ∧ w'.ownsRow B 44 4 v r.length (flat cdC (r.map CT.colA))) ∨ (r.all CT.colB = false ∧ e = .returned (.tuple #[.agg #[.int .i64 0, .string ⟨#[]⟩, .slice none 0 0], .bool false]))
theorem tableOf_good (id : Int) (b o cap : Nat) (xn : Int) (xs : ByteArray) (r : List VM.Vl) (w : World) (hb : b < w.heap.size) (hc : CellsAt w b o (⟨2, xn, xs⟩ :: r)) (hcap : r.length + 1 ≤ cap) (hr : r.length ≤ 1000000) (hs : ∀ x ∈ r, x.s.size ≤ 140737488355327) :
    Calls Tryd.prog 21 #[.agg #[.int .i64 id, .slice (some ⟨b, o, none⟩) (r.length + 1) cap]] w fun e w' => TAns w.heap.size id xs r e w' ∧ Fr w w' := by
  obtain ⟨W0, hW0⟩ : ∃ W0, (w.alloc (.cells #[.int .i64 id, .slice (some ⟨b, o, none⟩) (r.length + 1) cap] 53)).alloc (.cells #[.int .i64 0, .string ⟨#[]⟩, .slice none 0 0] 39) = W0 := ⟨_, rfl⟩
  have f0 : Fr w W0 := by rw [← hW0]; exact ((Fr.refl w).alloc _).alloc _
  have b0 : Blk W0 w.heap.size #[.int .i64 id, .slice (some ⟨b, o, none⟩) (r.length + 1) cap] 53 := by rw [← hW0]; exact (Blk.new w _ _).old _
  have b1 : Blk W0 (w.heap.size + 1) #[.int .i64 0, .string ⟨#[]⟩, .slice none 0 0] 39 := by
    have := Blk.new (w.alloc (.cells #[.int .i64 id, .slice (some ⟨b, o, none⟩) (r.length + 1) cap] 53)) #[.int .i64 0, .string ⟨#[]⟩, .slice none 0 0] 39
    rw [World.size_alloc, hW0] at this; exact this
  have hs0 : W0.heap.size = w.heap.size + 1 + 1 := by rw [← hW0, World.size_alloc, World.size_alloc]
  obtain ⟨c0, _, c2⟩ := (hc.fr hb f0) 0 (by simp)
  simp only [List.getElem_cons_zero, Nat.zero_mul, Nat.add_zero] at c0 c2
  have k0 := b0.cell 0 rfl
  have k1 := b0.cell 1 rfl
  have HS4 := hideP (show W0.cell? ⟨w.heap.size, 0, none⟩ = some (.int .i64 id) ∧ W0.cell? ⟨w.heap.size, 1, none⟩ = some (.slice (some ⟨b, o, none⟩) (r.length + 1) cap) ∧ W0.cell? ⟨b, o + 2, none⟩ = some (.string xs) ∧ W0.cell? ⟨b, o, none⟩ = some (.int .i64 2) from ⟨k0, k1, c2, c0⟩)
  have HB0 := hideP b0
  have HB1 := hideP b1
  have HF0 := hideP f0
  have HS0 := hideP hs0
  have HC := hideP hc
  have HBl := hideP hb
  have HSx := hideP hs
  have HW0 := hideP hW0
  clear f0 b0 b1 hc hb hs0 hs
  obtain ⟨n, hn⟩ : ∃ n, r.length = n := ⟨_, rfl⟩
  have HN := hideP hn
  rw [hn] at hcap hr HB0 HS4 HW0 hW0 k1 ⊢
  clear hn
  have e2 : (((n + 1 : Nat) : Int) == 0) = false := by simp; omega
  have e3 : ((n : Int) + 1 == 0) = false := by simp; omega
  have e4 : (0 : Int) < (n : Int) + 1 := by omega
  have e5 : (1 : Int) ≤ (n : Int) + 1 := by omega
  have e6 : (n : Int) + 1 ≤ (cap : Int) := by omega
  have hz1 := Fr.drew (Fr.refl W0)
  go_enter Tryd.func21, Tryd.ntmps21
  go_upto_region 3 with fail
  try rw [HW0.out]
  clear hW0 k0 k1 c0 c2
  go_region_held3 (fun W => W.cell? ⟨w.heap.size, 0, none⟩ = some (.int .i64 id) ∧ W.cell? ⟨w.heap.size, 1, none⟩ = some (.slice (some ⟨b, o, none⟩) (n + 1) cap) ∧ W.cell? ⟨b, o + 2, none⟩ = some (.string xs) ∧ W.cell? ⟨b, o, none⟩ = some (.int .i64 2)) (first | exact HS4.out | exact s4_after hz1 HS4.out | exact s4_after (Fr.alloc hz1 _) HS4.out | exact s4_after (Fr.drew (Fr.alloc (Fr.refl W0) _)) HS4.out) (first | fail)
  obtain ⟨N4, hN4⟩ : ∃ N4, W0.heap.size = N4 := ⟨_, rfl⟩
  obtain ⟨W1, hW1⟩ : ∃ W1, (W0.alloc (.cells #[.int .i64 id, .string xs, .slice none 0 0] 39)).drew = W1 := ⟨_, rfl⟩
  have f1 : Fr W0 W1 := by rw [← hW1]; exact Fr.drew ((Fr.refl W0).alloc _)
  have b4 : Blk W1 N4 #[.int .i64 id, .string xs, .slice none 0 0] 39 := by rw [← hW1, ← hN4]; exact (Blk.new W0 _ _).fr (Fr.drew (Fr.refl _))
  have F1 := hideP (HF0.out.trans f1)
  have HB4 := hideP b4
  have HR1 := hideP (HB1.out.fr f1)
  have k1 := (HB0.out.fr f1).cell 1 rfl
  have HNs : Hid (N4 = w.heap.size + 1 + 1) := by unfold Hid; rw [← hN4]; exact HS0.out
  have HO1 : Hid (W1.ownsRow w.heap.size 44 4 (.slice none 0 0) 0 (flat cdC [])) := ⟨rfl, Or.inl ⟨rfl, rfl⟩⟩
  rw [hN4]
  try rw [hW1]
  clear f1 b4 hN4 hW1 HB0 HB1 HS4 HW0 hz1
  obtain ⟨j0, hj0, jz0, jz1, jz2⟩ := info_parts Tryd.infoCol
  go_upto_region 5 with fail
  · go_loopw [6, 7, 8, 34] (fun _ _ _ iv wr => ∃ (i : Nat) (v : Value), iv = .int .i64 i ∧ i ≤ n ∧ Fr w wr ∧ wr.ownsRow w.heap.size 44 4 v i (flat cdC ((r.take i).map CT.colA)) ∧ Blk wr N4 #[.int .i64 id, .string xs, v] 39 ∧ Blk wr (w.heap.size + 1) #[.int .i64 0, .string ⟨#[]⟩, .slice none 0 0] 39 ∧ (r.take i).all CT.colB = true) (fun _ _ _ iv _ => n - (intOf iv).toNat)
    case atStart => exact ⟨0, _, rfl, Nat.zero_le _, F1.out, HO1.out, HB4.out, HR1.out, rfl⟩
    case round =>
      obtain ⟨i, v, rfl, hi, hfr, hown, hb4, hb1, hall⟩ := hrel
      obtain ⟨av, ocap, rfl⟩ := own_slice hown
      generalize wr = wo at *
      have HFr := hideP hfr
      have HOw := hideP hown
      have HQ4 := hideP hb4
      have HQ1 := hideP hb1
      have HAl := hideP hall
      clear hfr hown hb4 hb1 hall
      by_cases hlt : i < n
      · exfalso; omega
      · obtain rfl : i = n := by omega
        have hlt' : ((i : Int) < (i : Int)) = False := by simp
        have hri : r.take i = r := by rw [← HN.out]; exact List.take_length
        have q0 := HQ4.out.cell 0 rfl
        have q1 := HQ4.out.cell 1 rfl
        have q2 := HQ4.out.cell 2 rfl
        have v0 := HQ1.out.cell 0 rfl
        have v1 := HQ1.out.cell 1 rfl
        have v2 := HQ1.out.cell 2 rfl
        have y0 := HQ1.out.frozen 0
        have y1 := HQ1.out.frozen 1
        have y2 := HQ1.out.frozen 2
        have HRi := hideP hri
        clear hri
        go_wp2_with fail
        refine bodyPost_ret (v := .tuple #[.agg #[.int .i64 id, .string xs, .slice av i ocap], .bool true]) ?_ rfl ?_
        · have bb := HQ1.out.put3 (.int .i64 id) (.string xs) (.slice av i ocap)
          have r0 := bb.cell 0 rfl
          have r1 := bb.cell 1 rfl
          have r2 := bb.cell 2 rfl
          change (results Tryd.f21 _).run Tryd.prog (put3 wo _ _ _ _) = .ok _ (put3 wo _ _ _ _)
          simp [results, Tryd.results21, go_sem, r0, r1, r2]
        · refine ⟨Or.inl ⟨by rw [← HRi.out]; exact HAl.out, _, rfl, ?_⟩, HFr.out.put3 (w.heap.size + 1) (by omega) _ _ _⟩
          have h := HOw.out
          rw [HRi.out] at h
          rw [HN.out]
          exact own_put3 h HQ1.out (by decide)
  · go_loopw [6, 7, 8, 34] (fun _ _ _ iv wr => ∃ (i : Nat) (v : Value), iv = .int .i64 i ∧ i ≤ n ∧ Fr w wr ∧ wr.ownsRow w.heap.size 44 4 v i (flat cdC ((r.take i).map CT.colA)) ∧ Blk wr N4 #[.int .i64 id, .string xs, v] 39 ∧ Blk wr (w.heap.size + 1) #[.int .i64 0, .string ⟨#[]⟩, .slice none 0 0] 39 ∧ (r.take i).all CT.colB = true) (fun _ _ _ iv _ => n - (intOf iv).toNat)
    case atStart => exact ⟨0, _, rfl, Nat.zero_le _, F1.out, HO1.out, HB4.out, HR1.out, rfl⟩
    case round =>
      obtain ⟨i, v, rfl, hi, hfr, hown, hb4, hb1, hall⟩ := hrel
      obtain ⟨av, ocap, rfl⟩ := own_slice hown
      generalize wr = wo at *
      have HFr := hideP hfr
      have HOw := hideP hown
      have HQ4 := hideP hb4
      have HQ1 := hideP hb1
      have HAl := hideP hall
      clear hfr hown hb4 hb1 hall
      by_cases hlt : i < n
      · have hlt' : (i : Int) < (n : Int) := by omega
        have hir : i < r.length := by rw [HN.out]; exact hlt
        obtain ⟨c0, c1, c2⟩ := (HC.out.fr HBl.out HFr.out) (i + 1) (by rw [List.length_cons]; omega)
        simp only [List.getElem_cons_succ] at c0 c1 c2
        rw [show o + (i + 1) * 3 = o + 3 + i * 3 by omega] at c0 c1 c2
        have hsx := HSx.out r[i] (List.getElem_mem hir)
        have cc := fun W => columnOf_any r[i] W hsx
        have htk : r.take (i + 1) = r.take i ++ [r[i]] := List.take_succ_eq_append_getElem hir
        have hal2 : (r.take (i + 1)).all CT.colB = CT.colB r[i] := by rw [htk, List.all_append, HAl.out]; simp
        have hmp : (r.take (i + 1)).map CT.colA = (r.take i).map CT.colA ++ [CT.colA r[i]] := by rw [htk, List.map_append]; rfl
        have hno : CT.colB r[i] = false → r.all CT.colB = false := fun h => by
          cases e : r.all CT.colB with
          | false => rfl
          | true => rw [List.all_eq_true.1 e r[i] (List.getElem_mem hir)] at h; cases h
        generalize CT.colA r[i] = ca at cc hmp
        generalize CT.colB r[i] = cb at cc hal2 hno
        generalize r[i].k = xk1 at cc c0
        generalize r[i].n = xn1 at cc c1
        generalize r[i].s = xs1 at cc c2
        have HA2 := hideP hal2
        have HMp := hideP hmp
        have HNo := hideP hno
        clear hsx htk hal2 hmp hno
        obtain ⟨yn, yk, ynn, yu⟩ := ca
        simp only [colV] at cc
        go_wp2_with fail
        refine (cc _).mono ?_
        rintro _ w3 ⟨rfl, f3⟩
        have FA : Hid (Fr wo (w3.alloc (.cells #[.string yn, .int .i64 yk, .bool ynn, .bool yu] 44))) := (((Fr.refl wo).alloc _).trans f3).alloc _
        have HB7 := hideP (Blk.new w3 #[.string yn, .int .i64 yk, .bool ynn, .bool yu] 44)
        clear f3 cc c0 c1 c2
        cases cb with
        | false =>
          have hno := HNo.out rfl
          have HNo2 := hideP hno
          have q1 := HQ1.out.fr FA.out
          have v0 := q1.cell 0 rfl
          have v1 := q1.cell 1 rfl
          have v2 := q1.cell 2 rfl
          have y0 := q1.frozen 0
          have y1 := q1.frozen 1
          have y2 := q1.frozen 2
          have HQ := hideP q1
          clear q1 hno
          go_wp2_with fail
          refine bodyPost_ret (v := .tuple #[.agg #[.int .i64 0, .string ⟨#[]⟩, .slice none 0 0], .bool false]) ?_ rfl ⟨Or.inr ⟨HNo2.out, rfl⟩, (HFr.out.trans FA.out).put3 (w.heap.size + 1) (by omega) _ _ _⟩
          have bb := HQ.out.put3 (.int .i64 0) (.string ⟨#[]⟩) (.slice none 0 0)
          have r0 := bb.cell 0 rfl
          have r1 := bb.cell 1 rfl
          have r2 := bb.cell 2 rfl
          change (results Tryd.f21 _).run Tryd.prog (put3 (w3.alloc _) _ _ _ _) = .ok _ (put3 (w3.alloc _) _ _ _ _)
          simp [results, Tryd.results21, go_sem, r0, r1, r2]
        | true =>
          obtain ⟨wL, hwL⟩ : ∃ wL, w3.alloc (.cells #[.string yn, .int .i64 yk, .bool ynn, .bool yu] 44) = wL := ⟨_, rfl⟩
          rw [hwL] at FA HB7
          have hsL : wL.heap.size = w3.heap.size + 1 := by rw [← hwL, World.size_alloc]
          have z0 := HB7.out.cell 0 rfl
          have z1 := HB7.out.cell 1 rfl
          have z2 := HB7.out.cell 2 rfl
          have z3 := HB7.out.cell 3 rfl
          have hq4 := HQ4.out.fr FA.out
          have z4 := hq4.cell 2 rfl
          have HQL := hideP hq4
          have HLit := hideP (lit_one cdC wL ⟨yn, yk, ynn, yu⟩ 44)
          have HOL := hideP (own_fr HOw.out (FA.out.alloc (.cells #[.string yn, .int .i64 yk, .bool ynn, .bool yu] 44)))
          have hwo : w.heap.size ≤ wL.heap.size := (HFr.out.trans FA.out).size
          have HFL := hideP ((HFr.out.trans FA.out).alloc (.cells #[.string yn, .int .i64 yk, .bool ynn, .bool yu] 44))
          have HSL := hideP hsL
          clear hq4 hsL
          go_wp2_with (at_builtin; go_loud (refine wpList_append_L cdC rfl _ _ 37 44 j0 _ 32 rfl Tryd.underlying37 hj0 jz0 jz1 jz2 rfl w.heap.size _ i _ rfl HOL.out (.slice (some ⟨wL.heap.size, 0, none⟩) 1 1) [⟨yn, yk, ynn, yu⟩] rfl HLit.out ?c3 ?c4 ?c5 ?_))
          case c3 => unfold maxLen; simp; omega
          case c4 => simp; omega
          case c5 => simp; omega
          intro v2 wB own2 gr2
          obtain ⟨a2, m2, o2, rfl⟩ := own_slice' own2
          have hb := own_block HOL.out
          have hne : ∀ (bk : Nat) (ar : Array Value), Blk (wL.alloc (.cells #[.string yn, .int .i64 yk, .bool ynn, .bool yu] 44)) bk ar 39 → (Value.slice av i ocap).ownBlock ≠ some bk := by
            intro bk ar hk e
            obtain ⟨cur, hcur⟩ := hb _ e
            have := hk.symm.trans hcur
            simp at this
          have g4 := (HQL.out.old (.cells #[.string yn, .int .i64 yk, .bool ynn, .bool yu] 44))
          have g4' := g4.grown gr2 (hne _ _ g4)
          have g1 := (HQ1.out.fr FA.out).old (.cells #[.string yn, .int .i64 yk, .bool ynn, .bool yu] 44)
          have g1' := g1.grown gr2 (hne _ _ g1)
          have G4 := hideP g4'
          have G1 := hideP g1'
          have FB : Hid (Fr w wB) := Below.grown HFL.out gr2 (by simp; omega) (own_base HOL.out)
          have OB := hideP own2
          have x2 := g4'.cell 2 rfl
          have t2 := g4'.frozen 2
          clear hb hne g4 g4' g1 g1' gr2 own2 hwL z0 z1 z2 z3 z4
          go_wp2_with fail
          go_roundw
          case rel =>
            refine ⟨i + 1, _, by go_num, by omega, FB.out.setC N4 2 _ (by rw [HNs.out]; omega), ?_, G4.out.set 2 _, G1.out.other (by rw [HNs.out]; omega) 2 _, HA2.out⟩
            rw [HMp.out]
            have h := OB.out
            rw [← List.map_take] at h
            exact own_set1 h G4.out (by decide)
          case measure => simp [intOf]; omega
      · obtain rfl : i = n := by omega
        have hlt' : ((i : Int) < (i : Int)) = False := by simp
        have hri : r.take i = r := by rw [← HN.out]; exact List.take_length
        have q0 := HQ4.out.cell 0 rfl
        have q1 := HQ4.out.cell 1 rfl
        have q2 := HQ4.out.cell 2 rfl
        have v0 := HQ1.out.cell 0 rfl
        have v1 := HQ1.out.cell 1 rfl
        have v2 := HQ1.out.cell 2 rfl
        have y0 := HQ1.out.frozen 0
        have y1 := HQ1.out.frozen 1
        have y2 := HQ1.out.frozen 2
        have HRi := hideP hri
        clear hri
        go_wp2_with fail
        refine bodyPost_ret (v := .tuple #[.agg #[.int .i64 id, .string xs, .slice av i ocap], .bool true]) ?_ rfl ?_
        · have bb := HQ1.out.put3 (.int .i64 id) (.string xs) (.slice av i ocap)
          have r0 := bb.cell 0 rfl
          have r1 := bb.cell 1 rfl
          have r2 := bb.cell 2 rfl
          change (results Tryd.f21 _).run Tryd.prog (put3 wo _ _ _ _) = .ok _ (put3 wo _ _ _ _)
          simp [results, Tryd.results21, go_sem, r0, r1, r2]
        · refine ⟨Or.inl ⟨by rw [← HRi.out]; exact HAl.out, _, rfl, ?_⟩, HFr.out.put3 (w.heap.size + 1) (by omega) _ _ _⟩
          have h := HOw.out
          rw [HRi.out] at h
          rw [HN.out]
          exact own_put3 h HQ1.out (by decide)
end Go.Proofs.YtefojbfihnnpdaaDoor
