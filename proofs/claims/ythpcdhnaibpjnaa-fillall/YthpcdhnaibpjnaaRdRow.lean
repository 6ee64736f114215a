/-
  The reader of package record: a row.
-/
import Derived.Test.YthpcdhnaibpjnaaRdVal
namespace Go.Proofs.Ythpcdhnaibpjnaa
open Go.ChangeShapes Go.WideShapes Go.ChangeAt Go.RowKit
set_option linter.unusedVariables false
set_option linter.unusedSimpArgs false

/-- a row in memory from block B on -/
def IsRowB (B : Nat) (w : World) (v : Value) (l : List VM.Vl) : Prop :=
  ∃ (a : Option Addr) (cap : Nat), v = .slice a l.length cap ∧ (l = [] ∨ ∃ b o, a = some ⟨b, o, none⟩ ∧ B ≤ b ∧ b < w.heap.size ∧ CellsAt w b o l ∧ ∃ cur, w.heap[b]? = some (.cells cur 66 (0, 0)))
theorem IsRowB.row {B : Nat} {w : World} {v : Value} {l : List VM.Vl} (h : IsRowB B w v l) : IsRow w v l := by
  obtain ⟨a, cap, rfl, h0 | ⟨b, o, rfl, hB, hb, hc, _⟩⟩ := h
  · exact ⟨a, cap, rfl, Or.inl h0⟩
  · exact ⟨_, cap, rfl, Or.inr ⟨b, o, rfl, hb, hc⟩⟩
theorem IsRowB.setCell {B : Nat} {w : World} {v : Value} {l : List VM.Vl} (h : IsRowB B w v l) (p : Addr) (hp : p.block < B) (u : Value) : IsRowB B (w.setCell p u) v l := by
  obtain ⟨a, cap, rfl, h0 | ⟨b, o, rfl, hB, hb, hc, cur, ht⟩⟩ := h
  · exact ⟨a, cap, rfl, Or.inl h0⟩
  · refine ⟨_, cap, rfl, Or.inr ⟨b, o, rfl, hB, by rw [size_set]; exact hb, ?_, cur, (Below.heap_setCell w p u b (by omega)).trans ht⟩⟩
    intro i hi
    have e : ∀ j, (w.setCell p u).cell? ⟨b, j, none⟩ = w.cell? ⟨b, j, none⟩ := fun j => World.cell?_of_block (w := w) (Below.heap_setCell w p u b (by omega))
    rw [e, e, e]
    exact hc i hi

theorem IsRowB.mono {B C : Nat} {w : World} {v : Value} {l : List VM.Vl} (h : IsRowB B w v l) (hc : C ≤ B) : IsRowB C w v l := by
  obtain ⟨a, cap, rfl, h0 | ⟨b, o, rfl, hB, h2⟩⟩ := h
  · exact ⟨a, cap, rfl, Or.inl h0⟩
  · exact ⟨_, cap, rfl, Or.inr ⟨b, o, rfl, by omega, h2⟩⟩
/-- blocks of values are as they were -/
theorem IsRowB.keep {B : Nat} {w w' : World} {v : Value} {l : List VM.Vl} (h : IsRowB B w v l) (hk : ∀ (k : Nat) (cur : Array Value), w.heap[k]? = some (.cells cur 66 (0, 0)) → w'.heap[k]? = w.heap[k]?) : IsRowB B w' v l := by
  obtain ⟨a, cap, rfl, h0 | ⟨b, o, rfl, hB, hb, hc, cur, ht⟩⟩ := h
  · exact ⟨a, cap, rfl, Or.inl h0⟩
  · have e := hk b cur ht
    have ht' := e.trans ht
    refine ⟨_, cap, rfl, Or.inr ⟨b, o, rfl, hB, (Array.getElem?_eq_some_iff.1 ht').1, ?_, cur, ht'⟩⟩
    intro i hi
    have ec : ∀ j, w'.cell? ⟨b, j, none⟩ = w.cell? ⟨b, j, none⟩ := fun j => World.cell?_of_block (w := w) e
    rw [ec, ec, ec]
    exact hc i hi
theorem IsRowB.fr {B : Nat} {w w' : World} {v : Value} {l : List VM.Vl} (h : IsRowB B w v l) (f : Fr w w') : IsRowB B w' v l :=
  h.keep fun k cur hk => f.block k (Array.getElem?_eq_some_iff.1 hk).1

/-- block g has room for n values, and these stand in it first -/
def Blk (w : World) (g n : Nat) (l : List VM.Vl) : Prop :=
  ∃ cur, w.heap[g]? = some (.cells cur 66 (0, 0)) ∧ cur.size = n * 3 ∧
    ∀ i (h : i < l.length), cur[i * 3]? = some (.int .i64 l[i].k) ∧ cur[i * 3 + 1]? = some (.int .i64 l[i].n) ∧ cur[i * 3 + 2]? = some (.string l[i].s)

theorem Blk.lt {w : World} {g n : Nat} {l : List VM.Vl} (h : Blk w g n l) : g < w.heap.size := by
  obtain ⟨cur, h1, _⟩ := h
  exact (Array.getElem?_eq_some_iff.1 h1).1
theorem Blk.other {w w' : World} {g n : Nat} {l : List VM.Vl} (h : Blk w g n l) (e : w'.heap[g]? = w.heap[g]?) : Blk w' g n l := by
  obtain ⟨cur, h1, h2⟩ := h
  exact ⟨cur, e.trans h1, h2⟩
theorem Blk.cells {w : World} {g n : Nat} {l : List VM.Vl} (h : Blk w g n l) : CellsAt w g 0 l := by
  obtain ⟨cur, h1, h2, h3⟩ := h
  intro i hi
  obtain ⟨a, b, c⟩ := h3 i hi
  rw [Nat.zero_add]
  exact ⟨(Lib.cell_of_heap h1 _).trans a, (Lib.cell_of_heap h1 _).trans b, (Lib.cell_of_heap h1 _).trans c⟩
theorem Blk.room {w : World} {g n : Nat} {l : List VM.Vl} (h : Blk w g n l) {j : Nat} (hj : j < n * 3) : (∃ v, w.cell? ⟨g, j, none⟩ = some v) ∧ w.frozen? ⟨g, j, none⟩ = false := by
  obtain ⟨cur, h1, h2, h3⟩ := h
  refine ⟨⟨cur[j]'(by omega), ?_⟩, Lib.frozen_of_heap h1 j⟩
  rw [Lib.cell_of_heap h1]
  exact Array.getElem?_eq_getElem (by omega)
theorem Blk.put {w : World} {g n : Nat} {l : List VM.Vl} (h : Blk w g n l) (hn : l.length < n) (x : VM.Vl) :
    Blk (((w.setCell ⟨g, l.length * 3, none⟩ (.int .i64 x.k)).setCell ⟨g, l.length * 3 + 1, none⟩ (.int .i64 x.n)).setCell ⟨g, l.length * 3 + 2, none⟩ (.string x.s)) g n (l ++ [x]) := by
  obtain ⟨cur, h1, h2, h3⟩ := h
  refine ⟨((cur.setIfInBounds (l.length * 3) (.int .i64 x.k)).setIfInBounds (l.length * 3 + 1) (.int .i64 x.n)).setIfInBounds (l.length * 3 + 2) (.string x.s), ?_, by simp [h2], ?_⟩
  · simp only [World.setCell, Array.getElem?_modify, if_pos, h1]
    rfl
  · intro i hi
    rw [List.length_append] at hi
    simp only [List.length_cons, List.length_nil] at hi
    by_cases hl : i < l.length
    · rw [List.getElem_append_left hl]
      obtain ⟨a, b, c⟩ := h3 i hl
      simp only [Array.getElem?_setIfInBounds]
      refine ⟨?_, ?_, ?_⟩
      · rw [if_neg (by omega), if_neg (by omega), if_neg (by omega)]; exact a
      · rw [if_neg (by omega), if_neg (by omega), if_neg (by omega)]; exact b
      · rw [if_neg (by omega), if_neg (by omega), if_neg (by omega)]; exact c
    · obtain rfl : i = l.length := by omega
      simp only [List.getElem_concat_length]
      simp only [Array.getElem?_setIfInBounds, Array.size_setIfInBounds]
      refine ⟨?_, ?_, ?_⟩
      · rw [if_neg (by omega), if_neg (by omega), if_pos trivial, if_pos (by omega)]
      · rw [if_neg (by omega), if_pos trivial, if_pos (by omega)]
      · rw [if_pos trivial, if_pos (by omega)]

theorem Try.infoVal : (Try.prog.info? 66).map (fun i => (i.zero, i.size, i.bytes)) = some (some (.agg #[.int .i64 0, .int .i64 0, .string ⟨#[]⟩]), 3, 32) := by kernel_rfl

set_option maxRecDepth 100000 in
set_option maxHeartbeats 1000000 in
theorem row_any (r : Nat) (l : List UInt8) (w : World) (h : RdAt w r l) (hl : l.length ≤ 9223372036854775807) :
    Calls Try.prog 58 #[.pointer (some ⟨r, 0, none⟩)] w (Gv r w (RM.row l) fun xs e w' => ∃ v, e = .returned v ∧ IsRowB w.heap.size w' v xs) := by
  have hlt := h.lt
  have hi := count_any r 8 l w h hl (by decide)
  unfold RM.row
  clear h
  match hx : RM.cnt 8 l with
  | .error c =>
    rw [hx] at hi
    have Hx : Hid _ := hx
    clear hx
    simp only
    go_enter Try.func58, Try.ntmps58
    go_wp2_with (go_at_call 64; refine hi.mono ?_)
    rintro e w2 ⟨rfl, hm⟩
    go_wp2_with fail
    exact ⟨rfl, rfl, hm⟩
  | .ok (n, t) =>
    rw [hx] at hi
    have ht := RM.cnt_le hx
    have Hx : Hid _ := hx
    clear hx
    simp only
    obtain ⟨i0, hi0, hz0, hz1, hz2⟩ := info_parts Try.infoVal
    have hmk : ∀ W : World, (Instr.makeSlice 41 (.int .i64 (n : Int)) (.int .i64 (n : Int))).run Try.prog W = .ok (.slice (some ⟨W.heap.size, 0, none⟩) n n) (W.alloc (.cells (madeCells #[.int .i64 0, .int .i64 0, .string ⟨#[]⟩] (n * 3)) 66)) := by
      intro W
      have hr := run_make (P := Try.prog) W 41 66 i0 _ Try.underlying41 hi0 hz0 .i64 .i64 n n (by omega) (Int.le_refl _) (by rw [hz2]; omega) (by omega)
      simp only [Int.toNat_natCast, hz1] at hr
      exact hr
    go_enter Try.func58, Try.ntmps58
    go_wp2_with (go_at_call 64; refine hi.mono ?_)
    rintro e w2 ⟨rfl, hr2, hm⟩
    have HM : Hid _ := hm.alloc (.cells (madeCells #[.int .i64 0, .int .i64 0, .string ⟨#[]⟩] (n * 3)) 66)
    have HR : Hid _ := hr2.alloc (.cells (madeCells #[.int .i64 0, .int .i64 0, .string ⟨#[]⟩] (n * 3)) 66)
    have hrg : r < w2.heap.size := hr2.lt
    have hwg : w.heap.size ≤ w2.heap.size := hm.size
    have HB : Hid (Blk (w2.alloc (.cells (madeCells #[.int .i64 0, .int .i64 0, .string ⟨#[]⟩] (n * 3)) 66)) w2.heap.size n []) := by
      refine ⟨madeCells #[.int .i64 0, .int .i64 0, .string ⟨#[]⟩] (n * 3), ?_, size_madeCells _ _, fun i hi => by simp at hi⟩
      show (w2.heap.push _)[w2.heap.size]? = _
      rw [Array.getElem?_push_size]
    clear hi hr2 hm hi0 hz0 hz1 hz2
    go_wp2_with fail
    clear hmk
    generalize hg : w2.heap.size = g at *
    generalize hw3 : w2.alloc (.cells (madeCells #[.int .i64 0, .int .i64 0, .string ⟨#[]⟩] (n * 3)) 66) = w3 at *
    go_loopw [10] (fun iv wr => ∃ (i : Nat) (xs : List VM.Vl) (u : List UInt8), iv = .int .i64 i ∧ xs.length = i ∧ i ≤ n ∧ u.length ≤ l.length ∧ RM.vls n t = RM.pre xs (RM.vls (n - i) u) ∧ RdAt wr r u ∧ Mv r w wr ∧ Blk wr g n xs) (fun iv _ => n - (intOf iv).toNat)
    case atStart => exact ⟨0, [], t, rfl, rfl, Nat.zero_le _, ht.1, by rw [RM.pre_nil, Nat.sub_zero], HR.out, HM.out, HB.out⟩
    case round =>
      obtain ⟨i, xs, u, rfl, hxi, hin, hul, hv, hra, hmv, hbl⟩ := hrel
      by_cases hlt2 : i < n
      · have hva := value_any r u wr hra (by omega)
        have hgr : g ≠ r := by omega
        have hgw : g < wr.heap.size := hbl.lt
        have hni : n - i = (n - i - 1) + 1 := by omega
        rw [hni] at hv
        match hy : RM.vl u with
        | .error c =>
          rw [hy] at hva
          have HV : Hid _ := hv.trans (RM.vls_err hy xs)
          have HM1 : Hid _ := hmv
          clear hv hy hra hmv hbl hni
          go_wp2_with (go_at_call 65; refine hva.mono ?_)
          rintro e w4 ⟨rfl, hm⟩
          have HM2 : Hid _ := Mv.trans HM1.out hm
          clear hm hva
          go_wp2_with fail
          rw [HV.out]
          exact ⟨rfl, rfl, HM2.out⟩
        | .ok (x, u2) =>
          rw [hy] at hva
          have hu2 := RM.vl_le hy
          have HV : Hid _ := hv.trans (RM.vls_ok hy xs)
          have HM1 : Hid _ := hmv
          have HBL : Hid _ := hbl
          clear hv hy hra hmv hbl hni
          obtain ⟨xk, xn, xs'⟩ := x
          go_wp2_with (go_at_call 65; refine hva.mono ?_)
          rintro e w4 ⟨rfl, hr4, hm⟩
          have hb4 : Blk w4 g n xs := Blk.other HBL.out (hm.2 g hgw hgr)
          have hp := hb4.put (by omega) ⟨xk, xn, xs'⟩
          rw [hxi] at hp
          have HP : Hid (Blk (((w4.setCell ⟨g, i * 3, none⟩ (.int .i64 xk)).setCell ⟨g, i * 3 + 1, none⟩ (.int .i64 xn)).setCell ⟨g, i * 3 + 2, none⟩ (.string xs')) g n (xs ++ [⟨xk, xn, xs'⟩])) := hp
          clear hp
          obtain ⟨⟨v0, k0⟩, z0⟩ := hb4.room (j := i * 3) (by omega)
          obtain ⟨⟨v1, k1⟩, z1⟩ := hb4.room (j := i * 3 + 1) (by omega)
          obtain ⟨⟨v2, k2⟩, z2⟩ := hb4.room (j := i * 3 + 2) (by omega)
          have HM2 : Hid _ := Mv.trans HM1.out hm
          have HR4 : Hid _ := hr4
          clear hm hva hr4 hb4 HM1 HBL
          unfold VM.Vl.val
          simp only
          go_wp2_with fail
          go_roundw
          case rel =>
            refine ⟨i + 1, xs ++ [⟨xk, xn, xs'⟩], u2, by go_num, by simp [hxi], by omega, by omega, ?_, ?_, ?_, HP.out⟩
            · rw [HV.out, Nat.sub_sub]
            · exact RdAt.setOther (RdAt.setOther (RdAt.setOther HR4.out _ _ (by simp; omega)) _ _ (by simp; omega)) _ _ (by simp; omega)
            · exact Mv.setNew (Mv.setNew (Mv.setNew HM2.out _ (by simp; omega) _) _ (by simp; omega) _) _ (by simp; omega) _
          case measure => simp [intOf]; omega
      · obtain rfl : i = n := by omega
        have HV : Hid _ := hv
        have HBL : Hid _ := hbl
        have HRA : Hid _ := hra
        have HMV : Hid _ := hmv
        clear hv hbl hra hmv
        go_wp2_with fail
        go_ret
        rw [HV.out, Nat.sub_self]
        unfold RM.vls RM.pre
        simp only [List.append_nil]
        refine ⟨⟨_, rfl, some ⟨g, 0, none⟩, i, ?_, ?_⟩, HRA.out, HMV.out⟩
        · rw [hxi]; rfl
        · obtain ⟨cur, hcur, _⟩ := HBL.out
          exact Or.inr ⟨g, 0, rfl, by omega, Blk.lt HBL.out, Blk.cells HBL.out, cur, hcur⟩
end Go.Proofs.Ythpcdhnaibpjnaa
