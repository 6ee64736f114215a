/-
  Seal.
-/
import Derived.Test.YtfjdialbjbomdaaDoorPgC
namespace Go.Proofs.YtfjdialbjbomdaaDoor
open Go.ChangeShapes Go.WideShapes Go.ChangeAt Go.RowKit
set_option linter.unusedVariables false
set_option linter.unusedSimpArgs false

/-- what the sheet holds ahead of its sum -/
def rawOf (N K O : Nat) (body : List UInt8) : List UInt8 := lay (((((((nought256.set 0 (UInt8.ofNat (N / 256))).set 1 (UInt8.ofNat N)).set 2 (UInt8.ofNat K)).set 3 (UInt8.ofNat (O / 256))).set 4 (UInt8.ofNat O)).set 5 (UInt8.ofNat (body.length / 256))).set 6 (UInt8.ofNat body.length)) 7 body
theorem nought_split : nought256 = 0 :: 0 :: 0 :: 0 :: 0 :: 0 :: 0 :: List.replicate 249 0 := rfl
theorem raw_eq (N K O : Nat) (body : List UInt8) : rawOf N K O body = UInt8.ofNat (N / 256) :: UInt8.ofNat N :: UInt8.ofNat K :: UInt8.ofNat (O / 256) :: UInt8.ofNat O :: UInt8.ofNat (body.length / 256) :: UInt8.ofNat body.length :: (body ++ List.replicate (249 - body.length) 0) := by
  unfold rawOf lay
  rw [nought_split]
  generalize hR : List.replicate 249 (0 : UInt8) = R
  simp only [List.set_cons_zero, List.set_cons_succ, List.take_succ_cons, List.take_zero, List.cons_append, List.nil_append]
  rw [show 7 + body.length = body.length + 1 + 1 + 1 + 1 + 1 + 1 + 1 by omega]
  simp only [List.drop_succ_cons]
  rw [← hR, List.drop_replicate]
theorem raw_front {p : PG.Pg} (h : PG.chk p = 0) : (rawOf p.no.toNat p.kind.toNat p.owner.toNat p.body).take 252 = PG.front p ∧ (rawOf p.no.toNat p.kind.toNat p.owner.toNat p.body).length = 256 := by
  have hb := (PG.chk_ok h).2.2.2
  rw [raw_eq]
  refine ⟨?_, by simp; omega⟩
  unfold PG.front PG.two PG.noughts
  rw [show (252 : Nat) = 245 + 1 + 1 + 1 + 1 + 1 + 1 + 1 from rfl]
  simp only [List.take_succ_cons, List.cons_append, List.nil_append]
  rw [List.take_append, List.take_of_length_le hb, List.take_replicate, show min (245 - p.body.length) (249 - p.body.length) = 245 - p.body.length by omega]
theorem raw_sld {p : PG.Pg} (h : PG.chk p = 0) : (lay (rawOf p.no.toNat p.kind.toNat p.owner.toNat p.body) 252 (PG.four (SM.more 0 ((rawOf p.no.toNat p.kind.toNat p.owner.toNat p.body).take 252)))).take 256 = PG.sld p := by
  obtain ⟨h1, h2⟩ := raw_front h
  generalize rawOf p.no.toNat p.kind.toNat p.owner.toNat p.body = R at *
  unfold lay
  rw [h1]
  have e4 : (PG.four (SM.more 0 (PG.front p))).length = 4 := rfl
  rw [e4, List.drop_of_length_le (by omega), List.append_nil]
  have := PG.seal_len h
  unfold PG.sld at this ⊢
  rw [List.take_of_length_le (by omega)]

/-- a box of a page -/
structure Bp (w : World) (g : Nat) (no kind owner : Int) (s : ByteArray) : Prop where
  at_ : w.heap[g]? = some (.cells #[.int .i64 no, .int .i64 kind, .int .i64 owner, .string s] 23 (0, 0))
theorem Bp.new (w : World) (a b c : Int) (s : ByteArray) : Bp (w.alloc (.cells #[.int .i64 a, .int .i64 b, .int .i64 c, .string s] 23)) w.heap.size a b c s := ⟨heap_alloc_new w _⟩
theorem Bp.lt {w : World} {g : Nat} {a b c : Int} {s : ByteArray} (h : Bp w g a b c s) : g < w.heap.size := (Array.getElem?_eq_some_iff.1 h.at_).1
theorem Bp.fr {w w' : World} {g : Nat} {a b c : Int} {s : ByteArray} (h : Bp w g a b c s) (f : Fr w w') : Bp w' g a b c s := ⟨(f.block _ h.lt).trans h.at_⟩
theorem Bp.c0 {w : World} {g : Nat} {a b c : Int} {s : ByteArray} (h : Bp w g a b c s) : w.cell? ⟨g, 0, none⟩ = some (.int .i64 a) := (Lib.cell_of_heap h.at_ _).trans rfl
theorem Bp.c1 {w : World} {g : Nat} {a b c : Int} {s : ByteArray} (h : Bp w g a b c s) : w.cell? ⟨g, 1, none⟩ = some (.int .i64 b) := (Lib.cell_of_heap h.at_ _).trans rfl
theorem Bp.c2 {w : World} {g : Nat} {a b c : Int} {s : ByteArray} (h : Bp w g a b c s) : w.cell? ⟨g, 2, none⟩ = some (.int .i64 c) := (Lib.cell_of_heap h.at_ _).trans rfl
theorem Bp.c3 {w : World} {g : Nat} {a b c : Int} {s : ByteArray} (h : Bp w g a b c s) : w.cell? ⟨g, 3, none⟩ = some (.string s) := (Lib.cell_of_heap h.at_ _).trans rfl
theorem Bp.z {w : World} {g : Nat} {a b c : Int} {s : ByteArray} (h : Bp w g a b c s) (i : Nat) : w.frozen? ⟨g, i, none⟩ = false := Lib.frozen_of_heap h.at_ i
/-- what Seal answers -/
def slV (p : PG.Pg) : Value := .tuple #[.string ⟨(PG.sealE p).1.toArray⟩, .int .i64 ((PG.sealE p).2 : Int)]

set_option maxRecDepth 100000 in
set_option maxHeartbeats 4000000 in
theorem seal_bad (p : PG.Pg) (w : World) (h : PG.chk p ≠ 0) : Calls Tryd.prog 9 #[pgV p] w fun e w' => e = .returned (.tuple #[.string ⟨#[]⟩, .int .i64 (PG.chk p : Int)]) ∧ Fr w w' := by
  have hc := fun W => check_any p W
  obtain ⟨no, kind, owner, body⟩ := p
  unfold pgV at hc ⊢
  simp only at *
  have hx := fun W : World => Bp.new W no kind owner ⟨body.toArray⟩
  generalize (⟨body.toArray⟩ : ByteArray) = s at *
  generalize PG.chk ⟨no, kind, owner, body⟩ = c at *
  obtain ⟨W0, hW0⟩ : ∃ W0, w.alloc (.cells #[.int .i64 no, .int .i64 kind, .int .i64 owner, .string s] 23) = W0 := ⟨_, rfl⟩
  have f0 : Fr w W0 := by rw [← hW0]; exact (Fr.refl w).alloc _
  have HW : Hid _ := hW0
  have e1 : ((c : Int) != 0) = true := by simp; omega
  have e2 : ¬ ((c : Int) = 0) := by omega
  clear hW0 h hx
  go_enter Tryd.func9, Tryd.ntmps9
  go_wp2_with fail
  rw [HW.out]
  refine (hc _).mono ?_
  rintro _ w1 ⟨rfl, f1⟩
  go_wp2_with fail
  go_ret2
  exact ⟨rfl, f0.trans f1⟩

theorem setTwo_int (b k : Nat) (n : Int) (N : Nat) (hn : n = (N : Int)) (ki : Int) (hk : ki = (k : Int)) (j : Nat) (hj : k + 1 = j) (l : List UInt8) (w : World) (h : Sht w b l) (hk2 : k + 1 < 256) (hn2 : N < 65536) :
    Calls Tryd.prog 18 #[.pointer (some ⟨b, 0, none⟩), .int .i64 ki, .int .i64 n] w fun e w' => e = .returned (.tuple #[]) ∧ Sht w' b ((l.set k (UInt8.ofNat (N / 256))).set j (UInt8.ofNat N)) ∧ Below b w w' := by
  subst hn hk hj
  exact (setTwo_any b k N l w h hk2 hn2).mono fun e w' ⟨h1, h2, h3⟩ => ⟨h1, h2, h3 b (Nat.le_refl _)⟩
end Go.Proofs.YtfjdialbjbomdaaDoor
