/-
  The reader of package record: a value of a key.
-/
import Derived.Test.YtpalikdnpchdeaaKTx
namespace Go.Proofs.Ytpalikdnpchdeaa
open Go.ChangeShapes Go.WideShapes Go.ChangeAt Go.RowKit
set_option linter.unusedVariables false
set_option linter.unusedSimpArgs false

theorem setCell_alloc (w : World) (o : Obj) (r : Nat) (v : Value) (h : r < w.heap.size) : (w.alloc o).setCell ⟨r, 0, none⟩ v = (w.setCell ⟨r, 0, none⟩ v).alloc o :=
  World.setCell_alloc_past (w := w) o r 0 v h

set_option maxRecDepth 100000 in
set_option maxHeartbeats 1000000 in
theorem keyValue_null (r : Nat) (b : UInt8) (t : List UInt8) (w : World) (h : RdAt w r (b :: t)) (hl : (b :: t).length ≤ 140737488351232) (hb : b.toNat = 5) :
    Calls Try.prog 62 #[.pointer (some ⟨r, 0, none⟩)] w (Gv r w (KR.kv (b :: t)) fun x e _ => e = .returned x.val) := by
  unfold KR.kv
  simp only [if_pos hb]
  have hlt := h.lt
  have hn := next_cons r 1 b t _ (h.alloc (.cells #[.int .i64 0, .int .i64 0, .string ⟨#[]⟩] 52)) (by omega)
  rw [hb] at hn
  have hmv : Mv r w ((w.setCell ⟨r, 0, none⟩ (.string ⟨t.toArray⟩)).alloc (.cells #[.int .i64 0, .int .i64 0, .string ⟨#[]⟩] 52)) := ((Mv.refl _ _).set 0 _).alloc _
  have HMV : Hid _ := hmv
  have HR : Hid (RdAt ((w.setCell ⟨r, 0, none⟩ (.string ⟨t.toArray⟩)).alloc (.cells #[.int .i64 0, .int .i64 0, .string ⟨#[]⟩] 52)) r t) := (h.set t).alloc _
  have hw0 : (w.alloc (.cells #[.int .i64 0, .int .i64 0, .string ⟨#[]⟩] 52)).setCell ⟨r, 0, none⟩ (.string ⟨t.toArray⟩) = (w.setCell ⟨r, 0, none⟩ (.string ⟨t.toArray⟩)).alloc (.cells #[.int .i64 0, .int .i64 0, .string ⟨#[]⟩] 52) := setCell_alloc _ _ _ _ hlt
  have HT : Hid _ := top_set w ⟨r, 0, none⟩ (.string ⟨t.toArray⟩) (.cells #[.int .i64 0, .int .i64 0, .string ⟨#[]⟩] 52)
  rw [hw0] at hn
  clear hmv h hw0
  go_enter Try.func62, Try.ntmps62
  go_wp2_with (go_at_call 67; refine hn.mono ?_; rintro e w1 ⟨rfl, hr1, hw1⟩; rw [← Hid.out hw1] at HMV HR HT; have k0 : w1.cell? ⟨w.heap.size, 0, none⟩ = some (.int .i64 0) := (Lib.cell_of_heap HT.out _).trans rfl; have k1 : w1.cell? ⟨w.heap.size, 1, none⟩ = some (.int .i64 0) := (Lib.cell_of_heap HT.out _).trans rfl; have k2 : w1.cell? ⟨w.heap.size, 2, none⟩ = some (.string ⟨#[]⟩) := (Lib.cell_of_heap HT.out _).trans rfl; have z0 : w1.frozen? ⟨w.heap.size, 0, none⟩ = false := Lib.frozen_of_heap HT.out 0; have z1 : w1.frozen? ⟨w.heap.size, 1, none⟩ = false := Lib.frozen_of_heap HT.out 1; have z2 : w1.frozen? ⟨w.heap.size, 2, none⟩ = false := Lib.frozen_of_heap HT.out 2; have HR1 : Hid _ := hr1; clear hr1)
  have q := put3_heap HT.out (.int .i64 0) (.int .i64 0) (.string ⟨#[]⟩)
  have q0 := Lib.cell_of_heap q (j := 0)
  have q1 := Lib.cell_of_heap q (j := 1)
  have q2 := Lib.cell_of_heap q (j := 2)
  refine bodyPost_ret (v := .agg #[.int .i64 0, .int .i64 0, .string ⟨#[]⟩]) ?_ rfl ?_
  · change (results Try.f62 _).run Try.prog (put3 w1 w.heap.size _ _ _) = .ok _ (put3 w1 w.heap.size _ _ _)
    simp [results, Try.results62, go_sem, q0, q1, q2]
  · exact ⟨rfl, RdAt.put3 HR1.out (by omega) _ _ _, Mv.put3 HMV.out (Nat.le_refl _) _ _ _⟩

set_option maxRecDepth 100000 in
set_option maxHeartbeats 1000000 in
theorem keyValue_int (r : Nat) (b : UInt8) (t : List UInt8) (w : World) (h : RdAt w r (b :: t)) (hl : (b :: t).length ≤ 140737488351232) (hb : b.toNat = 16) :
    Calls Try.prog 62 #[.pointer (some ⟨r, 0, none⟩)] w (Gv r w (KR.kv (b :: t)) fun x e _ => e = .returned x.val) := by
  unfold KR.kv
  simp only [if_neg (show ¬ b.toNat = 5 by omega), if_pos hb]
  have hlt := h.lt
  have hn := next_cons r 1 b t _ (h.alloc (.cells #[.int .i64 0, .int .i64 0, .string ⟨#[]⟩] 52)) (by omega)
  rw [hb] at hn
  have hmv : Mv r w ((w.setCell ⟨r, 0, none⟩ (.string ⟨t.toArray⟩)).alloc (.cells #[.int .i64 0, .int .i64 0, .string ⟨#[]⟩] 52)) := ((Mv.refl _ _).set 0 _).alloc _
  have hw0 : (w.alloc (.cells #[.int .i64 0, .int .i64 0, .string ⟨#[]⟩] 52)).setCell ⟨r, 0, none⟩ (.string ⟨t.toArray⟩) = (w.setCell ⟨r, 0, none⟩ (.string ⟨t.toArray⟩)).alloc (.cells #[.int .i64 0, .int .i64 0, .string ⟨#[]⟩] 52) := setCell_alloc _ _ _ _ hlt
  have HMV : Hid _ := hmv
  have HT : Hid _ := top_set w ⟨r, 0, none⟩ (.string ⟨t.toArray⟩) (.cells #[.int .i64 0, .int .i64 0, .string ⟨#[]⟩] 52)
  rw [hw0] at hn
  have htl : t.length ≤ 140737488351232 := by simp only [List.length_cons] at hl; omega
  clear hmv h hw0
  unfold KR.kn
  match hx : KR.ki t with
  | .error c =>
    go_enter Try.func62, Try.ntmps62
    have Hx : Hid _ := hx
    clear hx
    go_wp2_with (go_at_call 67; refine hn.mono ?_; rintro e w1 ⟨rfl, hr1, hw1⟩)
    rw [← Hid.out hw1] at HMV HT
    have hi := keyInt_any r t w1 hr1 (by omega)
    rw [Hx.out] at hi
    clear hr1 hn
    go_wp2_with (go_at_call 76; refine hi.mono ?_)
    rintro e w2 ⟨rfl, hm⟩
    go_wp2_with fail
    exact ⟨rfl, rfl, Mv.trans HMV.out hm⟩
  | .ok (y, t2) =>
    go_enter Try.func62, Try.ntmps62
    have Hx : Hid _ := hx
    clear hx
    go_wp2_with (go_at_call 67; refine hn.mono ?_; rintro e w1 ⟨rfl, hr1, hw1⟩)
    rw [← Hid.out hw1] at HMV HT
    have hi := keyInt_any r t w1 hr1 (by omega)
    rw [Hx.out] at hi
    have hz : w.heap.size < w1.heap.size := (Array.getElem?_eq_some_iff.1 HT.out).1
    clear hr1 hn
    go_wp2_with (go_at_call 76; refine hi.mono ?_)
    rintro e w2 ⟨rfl, hr2, hm⟩
    have hbk := (hm.2 _ hz (by omega)).trans HT.out
    have k0 : w2.cell? ⟨w.heap.size, 0, none⟩ = some (.int .i64 0) := by rw [Lib.cell_of_heap hbk]; rfl
    have k1 : w2.cell? ⟨w.heap.size, 1, none⟩ = some (.int .i64 0) := by rw [Lib.cell_of_heap hbk]; rfl
    have k2 : w2.cell? ⟨w.heap.size, 2, none⟩ = some (.string ⟨#[]⟩) := by rw [Lib.cell_of_heap hbk]; rfl
    have z0 : w2.frozen? ⟨w.heap.size, 0, none⟩ = false := Lib.frozen_of_heap hbk 0
    have z1 : w2.frozen? ⟨w.heap.size, 1, none⟩ = false := Lib.frozen_of_heap hbk 1
    have z2 : w2.frozen? ⟨w.heap.size, 2, none⟩ = false := Lib.frozen_of_heap hbk 2
    have HM : Hid _ := Mv.trans HMV.out hm
    have HR : Hid _ := hr2
    have HB : Hid _ := hbk
    clear hm hr2 hi hbk
    go_wp2_with fail
    have q := put3_heap HB.out (.int .i64 1) (.int .i64 y) (.string ⟨#[]⟩)
    have q0 := Lib.cell_of_heap q (j := 0)
    have q1 := Lib.cell_of_heap q (j := 1)
    have q2 := Lib.cell_of_heap q (j := 2)
    refine bodyPost_ret (v := .agg #[.int .i64 1, .int .i64 y, .string ⟨#[]⟩]) ?_ rfl ?_
    · change (results Try.f62 _).run Try.prog (put3 w2 w.heap.size _ _ _) = .ok _ (put3 w2 w.heap.size _ _ _)
      simp [results, Try.results62, go_sem, q0, q1, q2]
    · exact ⟨rfl, RdAt.put3 HR.out (by omega) _ _ _, Mv.put3 HM.out (Nat.le_refl _) _ _ _⟩

set_option maxRecDepth 100000 in
set_option maxHeartbeats 1000000 in
theorem keyValue_text (r : Nat) (b : UInt8) (t : List UInt8) (w : World) (h : RdAt w r (b :: t)) (hl : (b :: t).length ≤ 140737488351232) (hb : b.toNat = 32) :
    Calls Try.prog 62 #[.pointer (some ⟨r, 0, none⟩)] w (Gv r w (KR.kv (b :: t)) fun x e _ => e = .returned x.val) := by
  unfold KR.kv
  simp only [if_neg (show ¬ b.toNat = 5 by omega), if_neg (show ¬ b.toNat = 16 by omega), if_pos hb]
  have hlt := h.lt
  have hn := next_cons r 1 b t _ (h.alloc (.cells #[.int .i64 0, .int .i64 0, .string ⟨#[]⟩] 52)) (by omega)
  rw [hb] at hn
  have hmv : Mv r w ((w.setCell ⟨r, 0, none⟩ (.string ⟨t.toArray⟩)).alloc (.cells #[.int .i64 0, .int .i64 0, .string ⟨#[]⟩] 52)) := ((Mv.refl _ _).set 0 _).alloc _
  have hw0 : (w.alloc (.cells #[.int .i64 0, .int .i64 0, .string ⟨#[]⟩] 52)).setCell ⟨r, 0, none⟩ (.string ⟨t.toArray⟩) = (w.setCell ⟨r, 0, none⟩ (.string ⟨t.toArray⟩)).alloc (.cells #[.int .i64 0, .int .i64 0, .string ⟨#[]⟩] 52) := setCell_alloc _ _ _ _ hlt
  have HMV : Hid _ := hmv
  have HT : Hid _ := top_set w ⟨r, 0, none⟩ (.string ⟨t.toArray⟩) (.cells #[.int .i64 0, .int .i64 0, .string ⟨#[]⟩] 52)
  rw [hw0] at hn
  have htl : t.length ≤ 140737488351232 := by simp only [List.length_cons] at hl; omega
  clear hmv h hw0
  unfold KR.kx
  match hx : KR.kt t [] with
  | .error c =>
    go_enter Try.func62, Try.ntmps62
    have Hx : Hid _ := hx
    clear hx
    go_wp2_with (go_at_call 67; refine hn.mono ?_; rintro e w1 ⟨rfl, hr1, hw1⟩)
    rw [← Hid.out hw1] at HMV HT
    have hi := keyText_any r t w1 hr1 htl
    rw [Hx.out] at hi
    clear hr1 hn
    go_wp2_with (go_at_call 77; refine hi.mono ?_)
    rintro e w2 ⟨rfl, hm⟩
    go_wp2_with fail
    exact ⟨rfl, rfl, Mv.trans HMV.out hm⟩
  | .ok (y, t2) =>
    go_enter Try.func62, Try.ntmps62
    have Hx : Hid _ := hx
    clear hx
    go_wp2_with (go_at_call 67; refine hn.mono ?_; rintro e w1 ⟨rfl, hr1, hw1⟩)
    rw [← Hid.out hw1] at HMV HT
    have hi := keyText_any r t w1 hr1 htl
    rw [Hx.out] at hi
    have hz : w.heap.size < w1.heap.size := (Array.getElem?_eq_some_iff.1 HT.out).1
    clear hr1 hn
    go_wp2_with (go_at_call 77; refine hi.mono ?_)
    rintro e w2 ⟨rfl, hr2, hm⟩
    have hbk := (hm.2 _ hz (by omega)).trans HT.out
    have k0 : w2.cell? ⟨w.heap.size, 0, none⟩ = some (.int .i64 0) := by rw [Lib.cell_of_heap hbk]; rfl
    have k1 : w2.cell? ⟨w.heap.size, 1, none⟩ = some (.int .i64 0) := by rw [Lib.cell_of_heap hbk]; rfl
    have k2 : w2.cell? ⟨w.heap.size, 2, none⟩ = some (.string ⟨#[]⟩) := by rw [Lib.cell_of_heap hbk]; rfl
    have z0 : w2.frozen? ⟨w.heap.size, 0, none⟩ = false := Lib.frozen_of_heap hbk 0
    have z1 : w2.frozen? ⟨w.heap.size, 1, none⟩ = false := Lib.frozen_of_heap hbk 1
    have z2 : w2.frozen? ⟨w.heap.size, 2, none⟩ = false := Lib.frozen_of_heap hbk 2
    have HM : Hid _ := Mv.trans HMV.out hm
    have HR : Hid _ := hr2
    have HB : Hid _ := hbk
    clear hm hr2 hi hbk
    go_wp2_with fail
    have q := put3_heap HB.out (.int .i64 2) (.int .i64 0) (.string ⟨y.toArray⟩)
    have q0 := Lib.cell_of_heap q (j := 0)
    have q1 := Lib.cell_of_heap q (j := 1)
    have q2 := Lib.cell_of_heap q (j := 2)
    refine bodyPost_ret (v := .agg #[.int .i64 2, .int .i64 0, .string ⟨y.toArray⟩]) ?_ rfl ?_
    · change (results Try.f62 _).run Try.prog (put3 w2 w.heap.size _ _ _) = .ok _ (put3 w2 w.heap.size _ _ _)
      simp [results, Try.results62, go_sem, q0, q1, q2]
    · exact ⟨rfl, RdAt.put3 HR.out (by omega) _ _ _, Mv.put3 HM.out (Nat.le_refl _) _ _ _⟩

set_option maxRecDepth 100000 in
set_option maxHeartbeats 1000000 in
theorem keyValue_blob (r : Nat) (b : UInt8) (t : List UInt8) (w : World) (h : RdAt w r (b :: t)) (hl : (b :: t).length ≤ 140737488351232) (hb : b.toNat = 48) :
    Calls Try.prog 62 #[.pointer (some ⟨r, 0, none⟩)] w (Gv r w (KR.kv (b :: t)) fun x e _ => e = .returned x.val) := by
  unfold KR.kv
  simp only [if_neg (show ¬ b.toNat = 5 by omega), if_neg (show ¬ b.toNat = 16 by omega), if_neg (show ¬ b.toNat = 32 by omega), if_pos hb]
  have hlt := h.lt
  have hn := next_cons r 1 b t _ (h.alloc (.cells #[.int .i64 0, .int .i64 0, .string ⟨#[]⟩] 52)) (by omega)
  rw [hb] at hn
  have hmv : Mv r w ((w.setCell ⟨r, 0, none⟩ (.string ⟨t.toArray⟩)).alloc (.cells #[.int .i64 0, .int .i64 0, .string ⟨#[]⟩] 52)) := ((Mv.refl _ _).set 0 _).alloc _
  have hw0 : (w.alloc (.cells #[.int .i64 0, .int .i64 0, .string ⟨#[]⟩] 52)).setCell ⟨r, 0, none⟩ (.string ⟨t.toArray⟩) = (w.setCell ⟨r, 0, none⟩ (.string ⟨t.toArray⟩)).alloc (.cells #[.int .i64 0, .int .i64 0, .string ⟨#[]⟩] 52) := setCell_alloc _ _ _ _ hlt
  have HMV : Hid _ := hmv
  have HT : Hid _ := top_set w ⟨r, 0, none⟩ (.string ⟨t.toArray⟩) (.cells #[.int .i64 0, .int .i64 0, .string ⟨#[]⟩] 52)
  rw [hw0] at hn
  have htl : t.length ≤ 140737488351232 := by simp only [List.length_cons] at hl; omega
  clear hmv h hw0
  unfold KR.kx
  match hx : KR.kt t [] with
  | .error c =>
    go_enter Try.func62, Try.ntmps62
    have Hx : Hid _ := hx
    clear hx
    go_wp2_with (go_at_call 67; refine hn.mono ?_; rintro e w1 ⟨rfl, hr1, hw1⟩)
    rw [← Hid.out hw1] at HMV HT
    have hi := keyText_any r t w1 hr1 htl
    rw [Hx.out] at hi
    clear hr1 hn
    go_wp2_with (go_at_call 77; refine hi.mono ?_)
    rintro e w2 ⟨rfl, hm⟩
    go_wp2_with fail
    exact ⟨rfl, rfl, Mv.trans HMV.out hm⟩
  | .ok (y, t2) =>
    go_enter Try.func62, Try.ntmps62
    have Hx : Hid _ := hx
    clear hx
    go_wp2_with (go_at_call 67; refine hn.mono ?_; rintro e w1 ⟨rfl, hr1, hw1⟩)
    rw [← Hid.out hw1] at HMV HT
    have hi := keyText_any r t w1 hr1 htl
    rw [Hx.out] at hi
    have hz : w.heap.size < w1.heap.size := (Array.getElem?_eq_some_iff.1 HT.out).1
    clear hr1 hn
    go_wp2_with (go_at_call 77; refine hi.mono ?_)
    rintro e w2 ⟨rfl, hr2, hm⟩
    have hbk := (hm.2 _ hz (by omega)).trans HT.out
    have k0 : w2.cell? ⟨w.heap.size, 0, none⟩ = some (.int .i64 0) := by rw [Lib.cell_of_heap hbk]; rfl
    have k1 : w2.cell? ⟨w.heap.size, 1, none⟩ = some (.int .i64 0) := by rw [Lib.cell_of_heap hbk]; rfl
    have k2 : w2.cell? ⟨w.heap.size, 2, none⟩ = some (.string ⟨#[]⟩) := by rw [Lib.cell_of_heap hbk]; rfl
    have z0 : w2.frozen? ⟨w.heap.size, 0, none⟩ = false := Lib.frozen_of_heap hbk 0
    have z1 : w2.frozen? ⟨w.heap.size, 1, none⟩ = false := Lib.frozen_of_heap hbk 1
    have z2 : w2.frozen? ⟨w.heap.size, 2, none⟩ = false := Lib.frozen_of_heap hbk 2
    have HM : Hid _ := Mv.trans HMV.out hm
    have HR : Hid _ := hr2
    have HB : Hid _ := hbk
    clear hm hr2 hi hbk
    go_wp2_with fail
    have q := put3_heap HB.out (.int .i64 3) (.int .i64 0) (.string ⟨y.toArray⟩)
    have q0 := Lib.cell_of_heap q (j := 0)
    have q1 := Lib.cell_of_heap q (j := 1)
    have q2 := Lib.cell_of_heap q (j := 2)
    refine bodyPost_ret (v := .agg #[.int .i64 3, .int .i64 0, .string ⟨y.toArray⟩]) ?_ rfl ?_
    · change (results Try.f62 _).run Try.prog (put3 w2 w.heap.size _ _ _) = .ok _ (put3 w2 w.heap.size _ _ _)
      simp [results, Try.results62, go_sem, q0, q1, q2]
    · exact ⟨rfl, RdAt.put3 HR.out (by omega) _ _ _, Mv.put3 HM.out (Nat.le_refl _) _ _ _⟩

set_option maxRecDepth 100000 in
set_option maxHeartbeats 1000000 in
theorem keyValue_bad (r : Nat) (b : UInt8) (t : List UInt8) (w : World) (h : RdAt w r (b :: t)) (hl : (b :: t).length ≤ 140737488351232) (h5 : b.toNat ≠ 5) (h16 : b.toNat ≠ 16) (h32 : b.toNat ≠ 32) (h48 : b.toNat ≠ 48) :
    Calls Try.prog 62 #[.pointer (some ⟨r, 0, none⟩)] w (Gv r w (KR.kv (b :: t)) fun x e _ => e = .returned x.val) := by
  unfold KR.kv
  simp only [if_neg h5, if_neg h16, if_neg h32, if_neg h48]
  have hlt := h.lt
  have hn := next_cons r 1 b t _ (h.alloc (.cells #[.int .i64 0, .int .i64 0, .string ⟨#[]⟩] 52)) (by omega)
  have hmv : Mv r w ((w.alloc (.cells #[.int .i64 0, .int .i64 0, .string ⟨#[]⟩] 52)).setCell ⟨r, 0, none⟩ (.string ⟨t.toArray⟩)) := ((Mv.refl _ _).alloc _).set 0 _
  have HMV : Hid _ := hmv
  have q1 : ((b.toNat : Int) == 5) = false := by simp; omega
  have q2 : ((b.toNat : Int) == 16) = false := by simp; omega
  have q3 : ((b.toNat : Int) == 32) = false := by simp; omega
  have q4 : ((b.toNat : Int) == 48) = false := by simp; omega
  clear h hmv
  go_enter Try.func62, Try.ntmps62
  go_wp2_with (go_at_call 67; refine hn.mono ?_; rintro e w1 ⟨rfl, hr1, hw1⟩)
  rw [← Hid.out hw1] at HMV
  exact ⟨rfl, rfl, HMV.out⟩

set_option maxRecDepth 100000 in
set_option maxHeartbeats 1000000 in
theorem keyValue_nil (r : Nat) (w : World) (h : RdAt w r []) :
    Calls Try.prog 62 #[.pointer (some ⟨r, 0, none⟩)] w (Gv r w (KR.kv []) fun x e _ => e = .returned x.val) := by
  unfold KR.kv
  have hn := next_nil r 1 _ (h.alloc (.cells #[.int .i64 0, .int .i64 0, .string ⟨#[]⟩] 52))
  clear h
  go_enter Try.func62, Try.ntmps62
  go_wp2_with (go_at_call 67; refine hn.mono ?_; rintro e w1 ⟨rfl, rfl⟩)
  exact ⟨rfl, rfl, (Mv.refl _ _).alloc _⟩

theorem keyValue_any (r : Nat) (l : List UInt8) (w : World) (h : RdAt w r l) (hl : l.length ≤ 140737488351232) :
    Calls Try.prog 62 #[.pointer (some ⟨r, 0, none⟩)] w (Gv r w (KR.kv l) fun x e _ => e = .returned x.val) := by
  cases l with
  | nil => exact keyValue_nil r w h
  | cons b t =>
    by_cases h5 : b.toNat = 5
    · exact keyValue_null r b t w h hl h5
    · by_cases h16 : b.toNat = 16
      · exact keyValue_int r b t w h hl h16
      · by_cases h32 : b.toNat = 32
        · exact keyValue_text r b t w h hl h32
        · by_cases h48 : b.toNat = 48
          · exact keyValue_blob r b t w h hl h48
          · exact keyValue_bad r b t w h hl h5 h16 h32 h48
end Go.Proofs.Ytpalikdnpchdeaa
