/-
  Seal of a right page.
-/
import Derived.Test.YtfjdialbjbomdaaDoorPgD
namespace Go.Proofs.YtfjdialbjbomdaaDoor
open Go.ChangeShapes Go.WideShapes Go.ChangeAt Go.RowKit
set_option linter.unusedVariables false
set_option linter.unusedSimpArgs false

/-- four bytes of a box as a list -/
structure Fv (w : World) (g : Nat) (m : List UInt8) : Prop where
  len : m.length = 4
  at_ : w.heap[g]? = some (.cells (byteV m).toArray 45 (0, 0))
theorem copy_four (W : World) (b g : Nat) (l m : List UInt8) (ty : TypeId) (h : Sht W b l) (hg : Fv W g m) :
    ∃ W', (Builtin.copy_ #[44, 44] ty #[.slice (some ⟨b, 252, none⟩) 4 4, .slice (some ⟨g, 0, none⟩) 4 4]).run Tryd.prog W = .ok (goInt 4) W' ∧ Sht W' b (lay l 252 m) ∧ ∀ B, B ≤ b → Below B W W' := by
  have hl := hg.len
  have hr := run_copy_row (P := Tryd.prog) W 44 44 ty 5 b 252 4 4 ⟨g, 0, none⟩ 4 4 _ 42 (byteV m) Tryd.underlying44 Tryd.sizeByte h.at_ (by rw [byteV_len]; exact hl) (by
    intro j v hv
    have e : (⟨g, 0, none⟩ : Addr).add j = ⟨g, j, none⟩ := by unfold Addr.add; split <;> simp_all
    rw [e, Lib.cell_of_heap hg.at_]
    simpa using hv) (by have := h.len; rw [List.size_toArray, byteV_len, byteV_len]; omega) (by
    intro v hv
    obtain ⟨x, _, rfl⟩ := List.mem_map.1 hv
    rfl)
  rw [byteV_len, hl] at hr
  refine ⟨_, hr, ?_, fun B hB => below_setRow (Below.refl B W) hB _⟩
  have := h.copy 252 m (by omega)
  rw [hl] at this
  exact this

theorem sum_four (b : Nat) (l : List UInt8) (w : World) (h : Sht w b l) : ∀ m0 m1 m2 m3 : UInt8, PG.four (SM.more 0 (l.take 252)) = [m0, m1, m2, m3] →
    Calls Tryd.prog 19 #[.pointer (some ⟨b, 0, none⟩)] w fun e w' => e = .returned (.agg #[.int .u8 (m0.toNat : Int), .int .u8 (m1.toNat : Int), .int .u8 (m2.toNat : Int), .int .u8 (m3.toNat : Int)]) ∧ Fr w w' := by
  intro m0 m1 m2 m3 hm
  refine (sum_any b l w h).mono ?_
  rintro _ w' ⟨rfl, hf⟩
  refine ⟨?_, hf⟩
  unfold fourV
  rw [hm]
  rfl
theorem four_box {W : World} {d : Nat} {m0 m1 m2 m3 : UInt8} (hg : W.heap[d]? = some (.cells #[.int .u8 0, .int .u8 0, .int .u8 0, .int .u8 0] 45 (0, 0))) :
    W.cell? ⟨d, 0, none⟩ = some (.int .u8 0) ∧ W.cell? ⟨d, 1, none⟩ = some (.int .u8 0) ∧ W.cell? ⟨d, 2, none⟩ = some (.int .u8 0) ∧ W.cell? ⟨d, 3, none⟩ = some (.int .u8 0) ∧
    W.frozen? ⟨d, 0, none⟩ = false ∧ W.frozen? ⟨d, 1, none⟩ = false ∧ W.frozen? ⟨d, 2, none⟩ = false ∧ W.frozen? ⟨d, 3, none⟩ = false ∧
    Fv ((((W.setCell ⟨d, 0, none⟩ (.int .u8 (m0.toNat : Int))).setCell ⟨d, 1, none⟩ (.int .u8 (m1.toNat : Int))).setCell ⟨d, 2, none⟩ (.int .u8 (m2.toNat : Int))).setCell ⟨d, 3, none⟩ (.int .u8 (m3.toNat : Int))) d [m0, m1, m2, m3] ∧
    Below d W ((((W.setCell ⟨d, 0, none⟩ (.int .u8 (m0.toNat : Int))).setCell ⟨d, 1, none⟩ (.int .u8 (m1.toNat : Int))).setCell ⟨d, 2, none⟩ (.int .u8 (m2.toNat : Int))).setCell ⟨d, 3, none⟩ (.int .u8 (m3.toNat : Int))) := by
  refine ⟨(Lib.cell_of_heap hg _).trans rfl, (Lib.cell_of_heap hg _).trans rfl, (Lib.cell_of_heap hg _).trans rfl, (Lib.cell_of_heap hg _).trans rfl, Lib.frozen_of_heap hg _, Lib.frozen_of_heap hg _, Lib.frozen_of_heap hg _, Lib.frozen_of_heap hg _, ⟨rfl, ?_⟩, ?_⟩
  · have h1 := setCell_eq_setRow W d 0 _ _ _ (.int .u8 (m0.toNat : Int)) hg
    have g1 := setRow_heap W d _ (#[.int .u8 (m0.toNat : Int), .int .u8 0, .int .u8 0, .int .u8 0]) _ _ hg
    rw [show (#[Value.int .u8 0, .int .u8 0, .int .u8 0, .int .u8 0]).setIfInBounds 0 (.int .u8 (m0.toNat : Int)) = #[.int .u8 (m0.toNat : Int), .int .u8 0, .int .u8 0, .int .u8 0] from rfl] at h1
    rw [← h1] at g1
    have h2 := setCell_eq_setRow _ d 1 _ _ _ (.int .u8 (m1.toNat : Int)) g1
    have g2 := setRow_heap _ d _ (#[.int .u8 (m0.toNat : Int), .int .u8 (m1.toNat : Int), .int .u8 0, .int .u8 0]) _ _ g1
    rw [show (#[Value.int .u8 (m0.toNat : Int), .int .u8 0, .int .u8 0, .int .u8 0]).setIfInBounds 1 (.int .u8 (m1.toNat : Int)) = #[.int .u8 (m0.toNat : Int), .int .u8 (m1.toNat : Int), .int .u8 0, .int .u8 0] from rfl] at h2
    rw [← h2] at g2
    have h3 := setCell_eq_setRow _ d 2 _ _ _ (.int .u8 (m2.toNat : Int)) g2
    have g3 := setRow_heap _ d _ (#[.int .u8 (m0.toNat : Int), .int .u8 (m1.toNat : Int), .int .u8 (m2.toNat : Int), .int .u8 0]) _ _ g2
    rw [show (#[Value.int .u8 (m0.toNat : Int), .int .u8 (m1.toNat : Int), .int .u8 0, .int .u8 0]).setIfInBounds 2 (.int .u8 (m2.toNat : Int)) = #[.int .u8 (m0.toNat : Int), .int .u8 (m1.toNat : Int), .int .u8 (m2.toNat : Int), .int .u8 0] from rfl] at h3
    rw [← h3] at g3
    have h4 := setCell_eq_setRow _ d 3 _ _ _ (.int .u8 (m3.toNat : Int)) g3
    have g4 := setRow_heap _ d _ (#[.int .u8 (m0.toNat : Int), .int .u8 (m1.toNat : Int), .int .u8 (m2.toNat : Int), .int .u8 (m3.toNat : Int)]) _ _ g3
    rw [show (#[Value.int .u8 (m0.toNat : Int), .int .u8 (m1.toNat : Int), .int .u8 (m2.toNat : Int), .int .u8 0]).setIfInBounds 3 (.int .u8 (m3.toNat : Int)) = #[.int .u8 (m0.toNat : Int), .int .u8 (m1.toNat : Int), .int .u8 (m2.toNat : Int), .int .u8 (m3.toNat : Int)] from rfl] at h4
    rw [← h4] at g4
    exact g4
  · exact Below.setCell (Below.setCell (Below.setCell (Below.setCell (Below.refl d W) (Nat.le_refl _) _) (Nat.le_refl _) _) (Nat.le_refl _) _) (Nat.le_refl _) _
set_option maxRecDepth 100000 in
set_option maxHeartbeats 400000 in
theorem seal_ok (p : PG.Pg) (w : World) (h : PG.chk p = 0) : Calls Tryd.prog 9 #[pgV p] w fun e w' => e = .returned (.tuple #[.string ⟨(PG.sld p).toArray⟩, .int .i64 0]) ∧ Fr w w' := by
  have hc := fun W => check_any p W
  obtain ⟨k1, k2, k3, k4⟩ := PG.chk_ok h
  have hfin := raw_sld h
  obtain ⟨_, hrl⟩ := raw_front h
  rw [h] at hc
  obtain ⟨no, kind, owner, body⟩ := p
  obtain ⟨N, rfl⟩ := Int.eq_ofNat_of_zero_le k1.1
  obtain ⟨K, rfl⟩ := Int.eq_ofNat_of_zero_le (show 0 ≤ kind by simp only at k2; omega)
  obtain ⟨O, rfl⟩ := Int.eq_ofNat_of_zero_le k3.1
  simp only [Int.toNat_natCast] at hfin hrl k1 k2 k3 k4
  unfold pgV at hc ⊢
  simp only at *
  have hsz := mk_size body
  have hsl : (⟨body.toArray⟩ : ByteArray).data.toList = body := rfl
  obtain ⟨s, hs⟩ : ∃ s : ByteArray, s = ⟨body.toArray⟩ := ⟨_, rfl⟩
  rw [← hs] at hsz hsl hc ⊢
  obtain ⟨W0, hW0⟩ : ∃ W0, w.alloc (.cells #[.int .i64 (N : Int), .int .i64 (K : Int), .int .i64 (O : Int), .string s] 23) = W0 := ⟨_, rfl⟩
  have f0 : Fr w W0 := by rw [← hW0]; exact (Fr.refl w).alloc _
  have b0 : Bp W0 w.heap.size (N : Int) (K : Int) (O : Int) s := by rw [← hW0]; exact Bp.new _ _ _ _ _
  have HW : Hid _ := hW0
  have HS : Hid _ := hfin
  have HR : Hid _ := hrl
  have hz := zero_sheet
  clear hW0 h hfin hrl hs
  go_enter Tryd.func9, Tryd.ntmps9
  go_wp2_with fail
  rw [HW.out]
  refine (hc _).mono ?_
  rintro _ w1 ⟨rfl, f1⟩
  have HF : Hid (Fr w w1) := f0.trans f1
  have b1 := b0.fr f1
  obtain ⟨g, hg⟩ : ∃ g, w.heap.size = g := ⟨_, rfl⟩
  rw [hg] at b1 ⊢
  have HG : Hid _ := hg
  clear hc f0 f1 b0 HW hg
  obtain ⟨W2, hW2⟩ : ∃ W2, w1.alloc (.cells (byteV nought256).toArray 42) = W2 := ⟨_, rfl⟩
  have s2 : Sht W2 w1.heap.size nought256 := by rw [← hW2]; exact Sht.made _
  have f2 : Fr w1 W2 := by rw [← hW2]; exact (Fr.refl w1).alloc _
  have c0 := (b1.fr f2).c0
  obtain ⟨b, hb⟩ : ∃ b, w1.heap.size = b := ⟨_, rfl⟩
  rw [hb] at s2
  have t1 := setTwo_int b 0 (N : Int) N rfl 0 rfl 1 rfl _ W2 s2 (by decide) (by omega)
  have S2 : Hid _ := s2
  have F2 : Hid _ := f2
  clear s2 f2
  go_wp2_with fail
  refine t1.mono ?_
  rintro _ w3 ⟨rfl, s3, f3⟩
  obtain ⟨L3, hL3⟩ : ∃ L, (nought256.set 0 (UInt8.ofNat (N / 256))).set 1 (UInt8.ofNat N) = L := ⟨_, rfl⟩
  rw [hL3] at s3
  have HL3 : Hid _ := hL3
  clear hL3
  have F3 : Hid (Fr w1 w3) := Below.trans F2.out (by rw [hb]; exact f3)
  clear f3 t1 F2 S2 c0 hW2 hz
  have c1 := (b1.fr F3.out).c1
  have hK : (K : Int) < 256 := by omega
  obtain ⟨y2, d2⟩ : ∃ v, w3.cell? ⟨b, 2, none⟩ = some v := ⟨_, s3.cell 2 (by rw [s3.len]; decide)⟩
  have z2 := s3.fz 2
  have s4 := s3.set 2 (UInt8.ofNat K)
  have hv : (.int .u8 ((UInt8.ofNat K).toNat : Int) : Value) = .int .u8 (K : Int) := by
    rw [UInt8.toNat_ofNat']; congr 1; omega
  rw [hv] at s4
  have f4 : Fr w1 (w3.setCell ⟨b, 2, none⟩ (.int .u8 (K : Int))) := Below.setCell (p := ⟨b, 2, none⟩) F3.out (by rw [hb]; exact Nat.le_refl _) _
  have e2 := (b1.fr f4).c2
  obtain ⟨w4, hw4⟩ : ∃ w4, w3.setCell ⟨b, 2, none⟩ (.int .u8 (K : Int)) = w4 := ⟨_, rfl⟩
  rw [hw4] at s4 f4 e2
  have t2 := setTwo_int b 3 (O : Int) O rfl 3 rfl 4 rfl _ w4 s4 (by decide) (by omega)
  have F4 : Hid _ := f4
  clear s3 f4 F3 hv s4
  go_wp2_with fail
  refine t2.mono ?_
  rintro _ w5 ⟨rfl, s5, f5⟩
  obtain ⟨L5, hL5⟩ : ∃ L, ((L3.set 2 (UInt8.ofNat K)).set 3 (UInt8.ofNat (O / 256))).set 4 (UInt8.ofNat O) = L := ⟨_, rfl⟩
  rw [hL5] at s5
  have HL5 : Hid _ := hL5
  clear hL5
  have F5 : Hid (Fr w1 w5) := Below.trans F4.out (by rw [hb]; exact f5)
  clear f5 t2 F4 c1 d2 z2 e2 hw4
  have c3 := (b1.fr F5.out).c3
  have t3 := setTwo_int b 5 (body.length : Int) body.length rfl 5 rfl 6 rfl _ w5 s5 (by decide) (by omega)
  clear s5
  go_wp2_with fail
  refine t3.mono ?_
  rintro _ w6 ⟨rfl, s6, f6⟩
  obtain ⟨L6, hL6⟩ : ∃ L, (L5.set 5 (UInt8.ofNat (body.length / 256))).set 6 (UInt8.ofNat body.length) = L := ⟨_, rfl⟩
  rw [hL6] at s6
  have HL6 : Hid _ := hL6
  clear hL6
  have F6 : Hid (Fr w1 w6) := Below.trans F5.out (by rw [hb]; exact f6)
  clear f6 t3 F5 c3
  have c3 := (b1.fr F6.out).c3
  obtain ⟨w7, hr7, s7, f7⟩ := copy_str w6.drew b 7 249 249 _ s 3 s6.drew (by omega) (by omega)
  have HRW : Hid (lay L6 7 body = rawOf N K O body) := by
    unfold Hid rawOf
    rw [HL3.out, HL5.out, HL6.out]
  rw [hsl, HRW.out] at s7
  have F7 : Hid (Fr w1 w7) := Below.trans (Fr.drew F6.out) (by rw [hb]; exact f7 b (Nat.le_refl _))
  obtain ⟨R, hR⟩ : ∃ R, rawOf N K O body = R := ⟨_, rfl⟩
  rw [hR] at HS HR s7
  have S7 : Hid (Sht w7 b R) := s7
  clear s6 s7 f7 F6 hR HRW HL3 HL5 HL6 hsl
  have c8 := sum_four b R w7 S7.out
  go_wp2_with fail
  go_region
  clear hr7 c3
  obtain ⟨c, hc⟩ : ∃ c, SM.more 0 (R.take 252) = c := ⟨_, rfl⟩
  rw [hc] at c8 HS
  obtain ⟨m0, m1, m2, m3, hm⟩ : ∃ m0 m1 m2 m3, PG.four c = [m0, m1, m2, m3] := ⟨_, _, _, _, rfl⟩
  rw [hm] at HS
  have c9 := c8 m0 m1 m2 m3 hm
  have HM : Hid _ := hm
  clear c8 hc hm
  go_wp2_with fail
  refine c9.mono ?_
  rintro _ w8 ⟨rfl, f8⟩
  have F8 : Hid (Fr w1 w8) := F7.out.trans f8
  have s8 := S7.out.fr f8
  clear f8 c9 F7 S7
  obtain ⟨d, hd⟩ : ∃ d, w8.heap.size = d := ⟨_, rfl⟩
  have hbd : b < d := by rw [← hd]; exact s8.lt
  obtain ⟨W9, hW9⟩ : ∃ W9, w8.alloc (.cells #[.int .u8 0, .int .u8 0, .int .u8 0, .int .u8 0] 45) = W9 := ⟨_, rfl⟩
  have hg9 : W9.heap[d]? = some (.cells #[.int .u8 0, .int .u8 0, .int .u8 0, .int .u8 0] 45 (0, 0)) := by rw [← hW9, ← hd]; exact heap_alloc_new w8 _
  have f9 : Fr w8 W9 := by rw [← hW9]; exact (Fr.refl w8).alloc _
  obtain ⟨q0, q1, q2, q3, z0, z1, z2, z3, hfv, hbe⟩ := four_box (m0 := m0) (m1 := m1) (m2 := m2) (m3 := m3) hg9
  obtain ⟨Wa, hWa⟩ : ∃ Wa, (((W9.setCell ⟨d, 0, none⟩ (.int .u8 (m0.toNat : Int))).setCell ⟨d, 1, none⟩ (.int .u8 (m1.toNat : Int))).setCell ⟨d, 2, none⟩ (.int .u8 (m2.toNat : Int))).setCell ⟨d, 3, none⟩ (.int .u8 (m3.toNat : Int)) = Wa := ⟨_, rfl⟩
  rw [hWa] at hfv hbe
  have fa : Fr w8 Wa := Below.trans f9 (by rw [hd]; exact hbe)
  have sa := s8.fr fa
  have Fa : Hid (Fr w1 Wa) := F8.out.trans fa
  obtain ⟨Wb, hrb, sb, fb⟩ := copy_four Wa.drew b d R [m0, m1, m2, m3] 3 sa.drew ⟨hfv.len, hfv.at_⟩
  have Fb : Hid (Fr w1 Wb) := Below.trans (Fr.drew Fa.out) (by rw [hb]; exact fb b (Nat.le_refl _))
  have hcv := conv_sht sb 256 256 (Nat.le_refl _)
  rw [HS.out] at hcv
  clear F8 s8 hg9 f9 hfv hbe fa sa fb sb Fa
  go_wp2_with fail
  go_region
  trace_state
  go_wp2_with fail
  go_ret2
  exact ⟨rfl, HF.out.trans Fb.out⟩
end Go.Proofs.YtfjdialbjbomdaaDoor
