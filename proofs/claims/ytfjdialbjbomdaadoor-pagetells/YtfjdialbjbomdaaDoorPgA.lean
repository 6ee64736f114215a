/-
  A sheet of 256 bytes as a plain list; Check, isPlace, setTwo, two, sum of package page.
-/
import Derived.Test.YtfjdialbjbomdaaDoorSumWalks
import Derived.Test.YtfjdialbjbomdaaDoorPgM
import Derived.Laws.CopyOwn
import Derived.Deep.RegionHeld3
namespace Go.Proofs.YtfjdialbjbomdaaDoor
open Go.ChangeShapes Go.WideShapes Go.ChangeAt Go.RowKit
set_option linter.unusedVariables false
set_option linter.unusedSimpArgs false

theorem byteV_get (l : List UInt8) (j : Nat) (h : j < l.length) : (byteV l).toArray[j]? = some (.int .u8 (l[j].toNat : Int)) := by simp [byteV, h]
/-- a block holds these 256 bytes -/
structure Sht (w : World) (b : Nat) (l : List UInt8) : Prop where
  len : l.length = 256
  at_ : w.heap[b]? = some (.cells (byteV l).toArray 42 (0, 0))
theorem Sht.lt {w : World} {b : Nat} {l : List UInt8} (h : Sht w b l) : b < w.heap.size := (Array.getElem?_eq_some_iff.1 h.at_).1
theorem Sht.cell {w : World} {b : Nat} {l : List UInt8} (h : Sht w b l) (j : Nat) (hj : j < l.length) : w.cell? ⟨b, j, none⟩ = some (.int .u8 (l[j].toNat : Int)) := by
  rw [Lib.cell_of_heap h.at_]; exact byteV_get l j hj
theorem Sht.fz {w : World} {b : Nat} {l : List UInt8} (h : Sht w b l) (j : Nat) : w.frozen? ⟨b, j, none⟩ = false := Lib.frozen_of_heap h.at_ j
theorem Sht.fr {w w' : World} {b : Nat} {l : List UInt8} (h : Sht w b l) (f : Fr w w') : Sht w' b l := ⟨h.len, (f.block _ h.lt).trans h.at_⟩
theorem byteV_set (l : List UInt8) (i : Nat) (v : UInt8) : (byteV l).toArray.setIfInBounds i (.int .u8 (v.toNat : Int)) = (byteV (l.set i v)).toArray := by
  apply Array.toList_inj.1
  rw [Array.toList_setIfInBounds]
  show (byteV l).set i _ = byteV (l.set i v)
  unfold byteV
  rw [List.map_set]
theorem Sht.set {w : World} {b : Nat} {l : List UInt8} (h : Sht w b l) (i : Nat) (v : UInt8) : Sht (w.setCell ⟨b, i, none⟩ (.int .u8 (v.toNat : Int))) b (l.set i v) := by
  refine ⟨by rw [List.length_set]; exact h.len, ?_⟩
  rw [setCell_eq_setRow w b i _ _ _ _ h.at_, setRow_heap w b _ _ _ _ h.at_, byteV_set]
theorem Sht.drew {w : World} {b : Nat} {l : List UInt8} (h : Sht w b l) : Sht w.drew b l := ⟨h.len, h.at_⟩
def nought256 : List UInt8 := List.replicate 256 0
theorem zero_sheet (w : World) : (zeroValue 42).run Tryd.prog w = .ok (.agg (byteV nought256).toArray) w := by kernel_rfl
theorem Sht.made (w : World) : Sht (w.alloc (.cells (byteV nought256).toArray 42)) w.heap.size nought256 := ⟨by unfold nought256; rw [List.length_replicate], heap_alloc_new w _⟩

/-- a page as the program holds it -/
def pgV (p : PG.Pg) : Value := .agg #[.int .i64 p.no, .int .i64 p.kind, .int .i64 p.owner, .string ⟨p.body.toArray⟩]
theorem mk_size (l : List UInt8) : (⟨l.toArray⟩ : ByteArray).size = l.length := by
  show l.toArray.size = _
  simp
theorem dl_mk (l : List UInt8) : (⟨l.toArray⟩ : ByteArray).data.toList = l := rfl
theorem dl_eq (s : ByteArray) : (⟨s.data.toList.toArray⟩ : ByteArray) = s := by cases s; rfl
theorem dl_len (s : ByteArray) : s.data.toList.length = s.size := by rw [Array.length_toList]; rfl

set_option maxRecDepth 100000 in
set_option maxHeartbeats 1000000 in
theorem isPlace_any (n : Int) (w : World) : Calls Tryd.prog 20 #[.int .i64 n] w fun e w' => e = .returned (.bool (decide (0 ≤ n ∧ n ≤ 31))) ∧ w' = w := by
  by_cases h0 : n < 0
  · have e : decide (0 ≤ n ∧ n ≤ 31) = false := by simp; omega
    rw [e]
    clear e
    go_enter Tryd.func20, Tryd.ntmps20
    go_wp2_with fail
    go_ret
    exact ⟨rfl, rfl⟩
  · by_cases h1 : n < 32
    · have e : decide (0 ≤ n ∧ n ≤ 31) = true := by simp; omega
      rw [e]
      have h2 : 0 ≤ n := by omega
      clear e h0
      go_enter Tryd.func20, Tryd.ntmps20
      go_wp2_with fail
      go_ret
      exact ⟨rfl, rfl⟩
    · have e : decide (0 ≤ n ∧ n ≤ 31) = false := by simp; omega
      rw [e]
      have h2 : 0 ≤ n := by omega
      clear e h0
      go_enter Tryd.func20, Tryd.ntmps20
      go_wp2_with fail
      go_ret
      exact ⟨rfl, rfl⟩

set_option maxRecDepth 100000 in
set_option maxHeartbeats 2000000 in
theorem check_any (p : PG.Pg) (w : World) : Calls Tryd.prog 15 #[pgV p] w fun e w' => e = .returned (.int .i64 (PG.chk p)) ∧ Fr w w' := by
  obtain ⟨no, kind, owner, body⟩ := p
  have hc := fun W => isPlace_any no W
  have hsz := mk_size body
  unfold pgV PG.chk
  simp only
  generalize (⟨body.toArray⟩ : ByteArray) = s at *
  rw [← hsz]
  clear hsz
  by_cases h0 : no < 0 ∨ 31 < no
  · rw [if_pos h0]
    have e : decide (0 ≤ no ∧ no ≤ 31) = false := by simp; omega
    rw [e] at hc
    clear e h0
    go_enter Tryd.func15, Tryd.ntmps15
    go_wp2_with fail
    refine (hc _).mono ?_
    rintro _ w1 ⟨rfl, rfl⟩
    go_wp2_with fail
    go_ret
    exact ⟨rfl, (Fr.refl _).alloc _⟩
  rw [if_neg h0]
  have e : decide (0 ≤ no ∧ no ≤ 31) = true := by simp; omega
  rw [e] at hc
  clear e h0
  by_cases h1 : kind < 1 ∨ 4 < kind
  · rw [if_pos h1]
    by_cases h2 : kind < 1
    · clear h1
      go_enter Tryd.func15, Tryd.ntmps15
      go_wp2_with fail
      refine (hc _).mono ?_
      rintro _ w1 ⟨rfl, rfl⟩
      go_wp2_with fail
      go_ret
      exact ⟨rfl, (Fr.refl _).alloc _⟩
    · have h3 : 4 < kind := by omega
      have h4 : 1 ≤ kind := by omega
      clear h1 h2
      go_enter Tryd.func15, Tryd.ntmps15
      go_wp2_with fail
      refine (hc _).mono ?_
      rintro _ w1 ⟨rfl, rfl⟩
      go_wp2_with fail
      go_ret
      exact ⟨rfl, (Fr.refl _).alloc _⟩
  rw [if_neg h1]
  have k1 : 1 ≤ kind := by omega
  have k2 : kind ≤ 4 := by omega
  clear h1
  by_cases h1 : owner < 0 ∨ 999 < owner
  · rw [if_pos h1]
    by_cases h2 : owner < 0
    · clear h1
      go_enter Tryd.func15, Tryd.ntmps15
      go_wp2_with fail
      refine (hc _).mono ?_
      rintro _ w1 ⟨rfl, rfl⟩
      go_wp2_with fail
      go_ret
      exact ⟨rfl, (Fr.refl _).alloc _⟩
    · have h3 : 999 < owner := by omega
      have h4 : 0 ≤ owner := by omega
      clear h1 h2
      go_enter Tryd.func15, Tryd.ntmps15
      go_wp2_with fail
      refine (hc _).mono ?_
      rintro _ w1 ⟨rfl, rfl⟩
      go_wp2_with fail
      go_ret
      exact ⟨rfl, (Fr.refl _).alloc _⟩
  rw [if_neg h1]
  have o1 : 0 ≤ owner := by omega
  have o2 : owner ≤ 999 := by omega
  clear h1
  by_cases h1 : 245 < s.size
  · rw [if_pos h1]
    have h2 : (245 : Int) < (s.size : Int) := by omega
    clear h1
    go_enter Tryd.func15, Tryd.ntmps15
    go_wp2_with fail
    refine (hc _).mono ?_
    rintro _ w1 ⟨rfl, rfl⟩
    go_wp2_with fail
    go_ret
    exact ⟨rfl, (Fr.refl _).alloc _⟩
  · rw [if_neg h1]
    have h2 : (s.size : Int) ≤ 245 := by omega
    clear h1
    go_enter Tryd.func15, Tryd.ntmps15
    go_wp2_with fail
    refine (hc _).mono ?_
    rintro _ w1 ⟨rfl, rfl⟩
    go_wp2_with fail
    go_ret
    exact ⟨rfl, (Fr.refl _).alloc _⟩
end Go.Proofs.YtfjdialbjbomdaaDoor
