/-
  setTwo, two and sum of a sheet.
-/
import Derived.Test.YtfjdialbjbomdaaDoorPgA
namespace Go.Proofs.YtfjdialbjbomdaaDoor
open Go.ChangeShapes Go.WideShapes Go.ChangeAt Go.RowKit
set_option linter.unusedVariables false
set_option linter.unusedSimpArgs false

set_option maxRecDepth 100000 in
set_option maxHeartbeats 2000000 in
theorem setTwo_any (b k n : Nat) (l : List UInt8) (w : World) (h : Sht w b l) (hk : k + 1 < 256) (hn : n < 65536) :
    Calls Tryd.prog 18 #[.pointer (some ⟨b, 0, none⟩), .int .i64 (k : Int), .int .i64 (n : Int)] w fun e w' => e = .returned (.tuple #[]) ∧ Sht w' b ((l.set k (UInt8.ofNat (n / 256))).set (k + 1) (UInt8.ofNat n)) ∧ ∀ B, B ≤ b → Below B w w' := by
  obtain ⟨x0, c0⟩ : ∃ v, w.cell? ⟨b, k, none⟩ = some v := ⟨_, h.cell k (by rw [h.len]; omega)⟩
  obtain ⟨x1, c1⟩ : ∃ v, w.cell? ⟨b, k + 1, none⟩ = some v := ⟨_, h.cell (k + 1) (by rw [h.len]; omega)⟩
  have z0 := h.fz k
  have z1 := h.fz (k + 1)
  have kk : (k : Int) + 1 < 256 := by omega
  have HS : Hid _ := h
  clear h
  go_enter Tryd.func18, Tryd.ntmps18
  go_wp2_with fail
  go_region
  go_wp2_with fail
  have hv1 : (.int .u8 ((n : Int) / 256) : Value) = .int .u8 ((UInt8.ofNat (n / 256)).toNat : Int) := by
    rw [UInt8.toNat_ofNat']; congr 1; omega
  have hv2 : (.int .u8 ((n : Int) % 256) : Value) = .int .u8 ((UInt8.ofNat n).toNat : Int) := by
    rw [UInt8.toNat_ofNat']; congr 1
  refine bodyPost_end (v := .tuple #[]) (results_none rfl _ _ _) rfl ⟨rfl, ?_, fun B hB => Below.drew (Below.setCell (Below.setCell (Below.refl B w) hB _) hB _)⟩
  rw [hv1, hv2]
  exact Sht.drew ((HS.out.set k _).set (k + 1) _)

set_option maxRecDepth 100000 in
set_option maxHeartbeats 2000000 in
theorem two_any (b k : Nat) (l : List UInt8) (w : World) (h : Sht w b l) (hk : k + 1 < 256) :
    Calls Tryd.prog 21 #[.pointer (some ⟨b, 0, none⟩), .int .i64 (k : Int)] w fun e w' => e = .returned (.int .i64 (PG.num l k : Int)) ∧ Fr w w' := by
  have hl := h.len
  have c0 := h.cell k (by omega)
  have c1 := h.cell (k + 1) (by omega)
  have e0 : PG.num l k = (l[k]'(by omega)).toNat * 256 + (l[k + 1]'(by omega)).toNat := by
    unfold PG.num
    rw [List.getD_eq_getElem?_getD, List.getElem?_eq_getElem (by omega), List.getD_eq_getElem?_getD, List.getElem?_eq_getElem (by omega)]
    rfl
  have b0 := (l[k]'(by omega)).toNat_lt
  have b1 := (l[k + 1]'(by omega)).toNat_lt
  generalize (l[k]'(by omega)).toNat = x at *
  generalize (l[k + 1]'(by omega)).toNat = y at *
  have HE : Hid _ := e0
  have kk : (k : Int) + 1 < 256 := by omega
  clear e0 hl
  generalize PG.num l k = z at *
  go_enter Tryd.func21, Tryd.ntmps21
  go_wp2_with fail
  go_region
  go_wp2_with fail
  go_ret
  exact ⟨ret_int (by rw [HE.out]; push_cast; rfl), (Fr.refl _).drew⟩

/-- the first bytes of a sheet as a text -/
theorem conv_sht {w : World} {b : Nat} {l : List UInt8} (h : Sht w b l) (n cap : Nat) (hn : n ≤ 256) :
    (convert 44 9 (.slice (some ⟨b, 0, none⟩) n cap)).run Tryd.prog w = .ok (.string ⟨(l.take n).toArray⟩) w := by
  have hl : (l.take n).length = n := by rw [List.length_take, h.len]; omega
  have := run_convert_bytes_back (P := Tryd.prog) w 44 9 5 ⟨b, 0, none⟩ cap (l.take n) Tryd.underlying44 Tryd.underlying5 Tryd.underlying9 (by
    intro j hj
    have e : (⟨b, 0, none⟩ : Addr).add j = ⟨b, j, none⟩ := by unfold Addr.add; split <;> simp_all
    rw [e, h.cell j (by rw [hl] at hj; rw [h.len]; omega), List.getElem_take])
  rw [hl] at this
  exact this
/-- the four bytes of a sum -/
def fourV (c : Nat) : List Value := byteV (PG.four c)

set_option maxRecDepth 100000 in
set_option maxHeartbeats 2000000 in
theorem sum_any (b : Nat) (l : List UInt8) (w : World) (h : Sht w b l) :
    Calls Tryd.prog 19 #[.pointer (some ⟨b, 0, none⟩)] w fun e w' => e = .returned (.agg (fourV (SM.more 0 (l.take 252))).toArray) ∧ Fr w w' := by
  obtain ⟨W0, hW0⟩ : ∃ W0, w.alloc (.cells #[.int .u8 0, .int .u8 0, .int .u8 0, .int .u8 0] 45) = W0 := ⟨_, rfl⟩
  have f0 : Fr w W0 := by rw [← hW0]; exact (Fr.refl w).alloc _
  have hcv := conv_sht (h.fr ((Fr.refl w).alloc (.cells #[.int .u8 0, .int .u8 0, .int .u8 0, .int .u8 0] 45))) 252 256 (by decide)
  have hof := of_any ⟨(l.take 252).toArray⟩ W0 (by rw [mk_size, List.length_take]; unfold maxLen; omega)
  rw [dl_mk] at hof
  have hcl := SM.more_lt (show 0 < 4294967296 by decide) (l.take 252)
  generalize SM.more 0 (l.take 252) = c at *
  generalize (⟨(l.take 252).toArray⟩ : ByteArray) = S at *
  have hg : W0.heap[w.heap.size]? = some (.cells #[.int .u8 0, .int .u8 0, .int .u8 0, .int .u8 0] 45 (0, 0)) := by rw [← hW0]; exact heap_alloc_new w _
  have q0 : W0.cell? ⟨w.heap.size, 0, none⟩ = some (.int .u8 0) := (Lib.cell_of_heap hg _).trans rfl
  have q1 : W0.cell? ⟨w.heap.size, 1, none⟩ = some (.int .u8 0) := (Lib.cell_of_heap hg _).trans rfl
  have q2 : W0.cell? ⟨w.heap.size, 2, none⟩ = some (.int .u8 0) := (Lib.cell_of_heap hg _).trans rfl
  have q3 : W0.cell? ⟨w.heap.size, 3, none⟩ = some (.int .u8 0) := (Lib.cell_of_heap hg _).trans rfl
  have z0 : W0.frozen? ⟨w.heap.size, 0, none⟩ = false := Lib.frozen_of_heap hg _
  have z1 : W0.frozen? ⟨w.heap.size, 1, none⟩ = false := Lib.frozen_of_heap hg _
  have z2 : W0.frozen? ⟨w.heap.size, 2, none⟩ = false := Lib.frozen_of_heap hg _
  have z3 : W0.frozen? ⟨w.heap.size, 3, none⟩ = false := Lib.frozen_of_heap hg _
  have HV : Hid ((fourV c).toArray = #[.int .u8 ((c : Int) % 256), .int .u8 ((c : Int) / 256 % 256), .int .u8 ((c : Int) / 65536 % 256), .int .u8 ((c : Int) / 16777216)]) := by
    unfold Hid fourV PG.four byteV
    simp only [List.map_cons, List.map_nil, UInt8.toNat_ofNat']
    congr 1
    simp only [List.cons.injEq, Value.int.injEq, true_and, and_true]
    omega
  have HW : Hid _ := hW0
  have HF : Hid _ := f0
  clear hW0 f0 hg
  go_enter Tryd.func19, Tryd.ntmps19
  go_wp2_with fail
  rw [HW.out]
  refine hof.mono ?_
  rintro _ w1 ⟨rfl, rfl⟩
  go_wp2_with fail
  refine bodyPost_ret (v := .agg #[.int .u8 ((c : Int) % 256), .int .u8 ((c : Int) / 256 % 256), .int .u8 ((c : Int) / 65536 % 256), .int .u8 ((c : Int) / 16777216)]) (by simp [results, Tryd.results19, go_sem, q0, q1, q2, q3]) rfl ?_
  refine ⟨by rw [HV.out], ?_⟩
  exact Below.setCell (Below.setCell (Below.setCell (Below.setCell HF.out (Nat.le_refl _) _) (Nat.le_refl _) _) (Nat.le_refl _) _) (Nat.le_refl _) _
end Go.Proofs.YtfjdialbjbomdaaDoor
