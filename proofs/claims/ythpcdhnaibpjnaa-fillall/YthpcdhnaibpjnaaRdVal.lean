/-
  The reader of package record: a value.
-/
import Derived.Test.YthpcdhnaibpjnaaRdNum
import Derived.Test.YthpcdhnaibpjnaaRowP
namespace Go.Proofs.Ythpcdhnaibpjnaa
open Go.ChangeShapes Go.WideShapes Go.ChangeAt Go.RowKit
set_option linter.unusedVariables false
set_option linter.unusedSimpArgs false

/-- a cell of a block that a reading left alone -/
theorem Mv.cell {r : Nat} {w w' : World} (h : Mv r w w') {b o : Nat} (hb : b < w.heap.size) (hr : b ≠ r) : w'.cell? ⟨b, o, none⟩ = w.cell? ⟨b, o, none⟩ :=
  World.cell?_of_block (w := w) (h.2 b hb hr)
theorem Mv.frozen {r : Nat} {w w' : World} (h : Mv r w w') {b o : Nat} (hb : b < w.heap.size) (hr : b ≠ r) : w'.frozen? ⟨b, o, none⟩ = w.frozen? ⟨b, o, none⟩ :=
  World.frozen?_of_block (w := w) (h.2 b hb hr)

theorem size_set (w : World) (p : Addr) (v : Value) : (w.setCell p v).heap.size = w.heap.size := by simp [World.setCell]
theorem top_set (w : World) (p : Addr) (v : Value) (o : Obj) : ((w.setCell p v).alloc o).heap[w.heap.size]? = some o := by
  show ((w.setCell p v).heap.push o)[w.heap.size]? = some o
  rw [← size_set w p v, Array.getElem?_push_size]
/-- three stores into a block of three cells -/
def put3 (w : World) (g : Nat) (a b c : Value) : World := ((w.setCell ⟨g, 0, none⟩ a).setCell ⟨g, 1, none⟩ b).setCell ⟨g, 2, none⟩ c
theorem put3_heap {w : World} {g : Nat} {x y z : Value} {T : TypeId} (h : w.heap[g]? = some (.cells #[x, y, z] T (0, 0))) (a b c : Value) : (put3 w g a b c).heap[g]? = some (.cells #[a, b, c] T (0, 0)) := by
  unfold put3
  simp only [World.setCell, Array.getElem?_modify, if_pos, h]
  rfl
theorem Mv.put3 {r : Nat} {a b : World} (h : Mv r a b) {g : Nat} (hg : a.heap.size ≤ g) (x y z : Value) : Mv r a (put3 b g x y z) :=
  ((h.setNew ⟨g, 0, none⟩ hg x).setNew ⟨g, 1, none⟩ hg y).setNew ⟨g, 2, none⟩ hg z
theorem RdAt.put3 {w : World} {r : Nat} {l : List UInt8} (h : RdAt w r l) {g : Nat} (hg : r ≠ g) (x y z : Value) : RdAt (put3 w g x y z) r l :=
  ((h.setOther ⟨g, 0, none⟩ x hg).setOther ⟨g, 1, none⟩ y hg).setOther ⟨g, 2, none⟩ z hg

set_option maxRecDepth 100000 in
set_option maxHeartbeats 1000000 in
theorem value_nil (r : Nat) (w : World) (h : RdAt w r []) :
    Calls Try.prog 65 #[.pointer (some ⟨r, 0, none⟩)] w (Gv r w (RM.vl []) fun x e _ => e = .returned x.val) := by
  unfold RM.vl
  have hn := next_any r 5 [] _ (h.alloc (.cells #[.int .i64 0, .int .i64 0, .string ⟨#[]⟩] 66)) (by decide)
  go_enter Try.func65, Try.ntmps65
  go_wp2_with (go_at_call 67; refine hn.mono ?_)
  exact ⟨rfl, rfl, (Mv.refl _ _).alloc _⟩

set_option maxRecDepth 100000 in
set_option maxHeartbeats 1000000 in
theorem value_zero (r : Nat) (b : UInt8) (t : List UInt8) (w : World) (h : RdAt w r (b :: t)) (hl : (b :: t).length ≤ 9223372036854775807) (hb : b.toNat = 0) :
    Calls Try.prog 65 #[.pointer (some ⟨r, 0, none⟩)] w (Gv r w (RM.vl (b :: t)) fun x e _ => e = .returned x.val) := by
  unfold RM.vl
  simp only [if_pos hb]
  have hlt := h.lt
  have hn := next_any r 5 (b :: t) _ (h.alloc (.cells #[.int .i64 0, .int .i64 0, .string ⟨#[]⟩] 66)) hl
  have hst := (h.alloc (.cells #[.int .i64 0, .int .i64 0, .string ⟨#[]⟩] 66)).set t
  go_enter Try.func65, Try.ntmps65
  go_wp2_with (go_at_call 67; refine hn.mono ?_)
  rintro e w1 (⟨h1, _⟩ | ⟨b', t', h1, rfl, rfl⟩)
  · cases h1
  · cases h1
    rw [hb]
    have HS : Hid _ := hst
    clear hst hn
    go_wp2_with fail
    refine bodyPost_ret (v := .agg #[.int .i64 0, .int .i64 0, .string ⟨#[]⟩]) (by simp [results, Try.results65, go_sem]) rfl ?_
    exact ⟨rfl, (h.set t).alloc _, ((Mv.refl _ _).set 0 _).alloc _⟩

set_option maxRecDepth 100000 in
set_option maxHeartbeats 1000000 in
theorem value_one (r : Nat) (b : UInt8) (t : List UInt8) (w : World) (h : RdAt w r (b :: t)) (hl : (b :: t).length ≤ 9223372036854775807) (hb : b.toNat = 1) :
    Calls Try.prog 65 #[.pointer (some ⟨r, 0, none⟩)] w (Gv r w (RM.vl (b :: t)) fun x e _ => e = .returned x.val) := by
  unfold RM.vl
  simp only [if_neg (show ¬ b.toNat = 0 by omega), if_pos hb]
  have hlt := h.lt
  have hn := next_any r 5 (b :: t) _ (h.alloc (.cells #[.int .i64 0, .int .i64 0, .string ⟨#[]⟩] 66)) hl
  have hst : RdAt ((w.setCell ⟨r, 0, none⟩ (.string ⟨t.toArray⟩)).alloc (.cells #[.int .i64 0, .int .i64 0, .string ⟨#[]⟩] 66)) r t := (h.set t).alloc _
  have hmv : Mv r w ((w.setCell ⟨r, 0, none⟩ (.string ⟨t.toArray⟩)).alloc (.cells #[.int .i64 0, .int .i64 0, .string ⟨#[]⟩] 66)) := ((Mv.refl _ _).set 0 _).alloc _
  have hi := numberI_any r t _ hst (by simp at hl; omega)
  have HMV : Hid _ := hmv
  clear hst h hmv
  unfold RM.nt
  have c0 : ((w.setCell ⟨r, 0, none⟩ (.string ⟨t.toArray⟩)).alloc (.cells #[.int .i64 0, .int .i64 0, .string ⟨#[]⟩] 66)).heap[w.heap.size]? = some (.cells #[.int .i64 0, .int .i64 0, .string ⟨#[]⟩] 66 (0, 0)) := by
    exact top_set _ _ _ _
  have hz : w.heap.size < ((w.setCell ⟨r, 0, none⟩ (.string ⟨t.toArray⟩)).alloc (.cells #[.int .i64 0, .int .i64 0, .string ⟨#[]⟩] 66)).heap.size := (Array.getElem?_eq_some_iff.1 c0).1
  have C0 : Hid _ := c0
  have HZ : Hid _ := hz
  clear c0 hz
  match hx : RM.nu t with
  | .error c =>
    rw [hx] at hi
    have Hx : Hid _ := hx
    clear hx
    simp only
    go_enter Try.func65, Try.ntmps65
    go_wp2_with (go_at_call 67; refine hn.mono ?_)
    rintro e w1 (⟨h1, _⟩ | ⟨b', t', h1, rfl, rfl⟩)
    · cases h1
    · cases h1
      rw [hb]
      clear hn
      go_wp2_with (go_at_call 68; refine hi.mono ?_)
      rintro e w2 ⟨rfl, hm⟩
      go_wp2_with fail
      exact ⟨rfl, rfl, Mv.trans HMV.out hm⟩
  | .ok (n, t2) =>
    rw [hx] at hi
    have Hx : Hid _ := hx
    clear hx
    simp only
    go_enter Try.func65, Try.ntmps65
    go_wp2_with (go_at_call 67; refine hn.mono ?_)
    rintro e w1 (⟨h1, _⟩ | ⟨b', t', h1, rfl, rfl⟩)
    · cases h1
    · cases h1
      rw [hb]
      clear hn
      go_wp2_with (go_at_call 68; refine hi.mono ?_)
      rintro e w2 ⟨rfl, hr2, hm⟩
      have hbk := (hm.2 _ HZ.out (by omega)).trans C0.out
      have k0 : w2.cell? ⟨w.heap.size, 0, none⟩ = some (.int .i64 0) := by rw [Lib.cell_of_heap hbk]; rfl
      have k1 : w2.cell? ⟨w.heap.size, 1, none⟩ = some (.int .i64 0) := by rw [Lib.cell_of_heap hbk]; rfl
      have k2 : w2.cell? ⟨w.heap.size, 2, none⟩ = some (.string ⟨#[]⟩) := by rw [Lib.cell_of_heap hbk]; rfl
      have z0 : w2.frozen? ⟨w.heap.size, 0, none⟩ = false := Lib.frozen_of_heap hbk 0
      have z1 : w2.frozen? ⟨w.heap.size, 1, none⟩ = false := Lib.frozen_of_heap hbk 1
      have z2 : w2.frozen? ⟨w.heap.size, 2, none⟩ = false := Lib.frozen_of_heap hbk 2
      have HM : Hid _ := Mv.trans HMV.out hm
      have HR : Hid _ := hr2
      have HB : Hid _ := hbk
      clear hm hr2 hi hbk
      go_wp2_with fail
      have q := put3_heap HB.out (.int .i64 1) (.int .i64 (RM.zag n)) (.string ⟨#[]⟩)
      have q0 := Lib.cell_of_heap q (j := 0)
      have q1 := Lib.cell_of_heap q (j := 1)
      have q2 := Lib.cell_of_heap q (j := 2)
      refine bodyPost_ret (v := .agg #[.int .i64 1, .int .i64 (RM.zag n), .string ⟨#[]⟩]) ?_ rfl ?_
      · change (results Try.f65 _).run Try.prog (put3 w2 w.heap.size _ _ _) = .ok _ (put3 w2 w.heap.size _ _ _)
        simp [results, Try.results65, go_sem, q0, q1, q2]
      · exact ⟨rfl, RdAt.put3 HR.out (by omega) _ _ _, Mv.put3 HM.out (Nat.le_refl _) _ _ _⟩

set_option maxRecDepth 100000 in
set_option maxHeartbeats 2000000 in
theorem value_text (r : Nat) (b : UInt8) (t : List UInt8) (w : World) (h : RdAt w r (b :: t)) (hl : (b :: t).length ≤ 9223372036854775807) (hb : b.toNat = 2 ∨ b.toNat = 3) :
    Calls Try.prog 65 #[.pointer (some ⟨r, 0, none⟩)] w (Gv r w (RM.vl (b :: t)) fun x e _ => e = .returned x.val) := by
  unfold RM.vl
  simp only [if_neg (show ¬ b.toNat = 0 by omega), if_neg (show ¬ b.toNat = 1 by omega), if_pos hb]
  have hlt := h.lt
  have hn := next_any r 5 (b :: t) _ (h.alloc (.cells #[.int .i64 0, .int .i64 0, .string ⟨#[]⟩] 66)) hl
  have hst : RdAt ((w.setCell ⟨r, 0, none⟩ (.string ⟨t.toArray⟩)).alloc (.cells #[.int .i64 0, .int .i64 0, .string ⟨#[]⟩] 66)) r t := (h.set t).alloc _
  have hmv : Mv r w ((w.setCell ⟨r, 0, none⟩ (.string ⟨t.toArray⟩)).alloc (.cells #[.int .i64 0, .int .i64 0, .string ⟨#[]⟩] 66)) := ((Mv.refl _ _).set 0 _).alloc _
  have hlt2 : t.length ≤ 9223372036854775807 := by simp at hl; omega
  have hi := count_any r 16 t _ hst hlt2 (by decide)
  have HMV : Hid _ := hmv
  clear hst h hmv
  unfold RM.tx
  have c0 : ((w.setCell ⟨r, 0, none⟩ (.string ⟨t.toArray⟩)).alloc (.cells #[.int .i64 0, .int .i64 0, .string ⟨#[]⟩] 66)).heap[w.heap.size]? = some (.cells #[.int .i64 0, .int .i64 0, .string ⟨#[]⟩] 66 (0, 0)) := by
    exact top_set _ _ _ _
  have hz : w.heap.size < ((w.setCell ⟨r, 0, none⟩ (.string ⟨t.toArray⟩)).alloc (.cells #[.int .i64 0, .int .i64 0, .string ⟨#[]⟩] 66)).heap.size := (Array.getElem?_eq_some_iff.1 c0).1
  have C0 : Hid _ := c0
  have HZ : Hid _ := hz
  clear c0 hz
  have hk : ((b.toNat : Int) = 2) ∨ ((b.toNat : Int) = 3) := by omega
  generalize hK : (b.toNat : Int) = K at *
  have HK : Hid _ := hK
  clear hK
  match hx : RM.cnt 16 t with
  | .error c =>
    rw [hx] at hi
    have Hx : Hid _ := hx
    clear hx
    simp only
    rcases hk with rfl | rfl
    all_goals
      go_enter Try.func65, Try.ntmps65
      go_wp2_with (go_at_call 67; refine hn.mono ?_)
      rintro e w1 (⟨h1, _⟩ | ⟨b', t', h1, rfl, rfl⟩)
      · cases h1
      · cases h1
        rw [HK.out]
        clear hn
        go_wp2_with (go_at_call 64; refine hi.mono ?_)
        rintro e w2 ⟨rfl, hm⟩
        go_wp2_with fail
        exact ⟨rfl, rfl, Mv.trans HMV.out hm⟩
  | .ok (n, t2) =>
    rw [hx] at hi
    have ht2 := RM.cnt_le hx
    have Hx : Hid _ := hx
    clear hx
    simp only
    by_cases hn2 : t2.length < n
    · rw [if_pos hn2]
      rcases hk with rfl | rfl
      all_goals
        go_enter Try.func65, Try.ntmps65
        go_wp2_with (go_at_call 67; refine hn.mono ?_)
        rintro e w1 (⟨h1, _⟩ | ⟨b', t', h1, rfl, rfl⟩)
        · cases h1
        · cases h1
          rw [HK.out]
          clear hn
          go_wp2_with (go_at_call 64; refine hi.mono ?_)
          rintro e w2 ⟨rfl, hr2, hm⟩
          have hta := take_any r n 5 t2 w2 hr2 (by omega) (by omega)
          have HM : Hid _ := Mv.trans HMV.out hm
          clear hm hr2 hi
          go_wp2_with (go_at_call 69; refine hta.mono ?_)
          rintro e w3 (⟨_, rfl, rfl⟩ | ⟨h2, _⟩)
          · go_wp2_with fail
            exact ⟨rfl, rfl, HM.out⟩
          · omega
    · rw [if_neg hn2]
      rcases hk with rfl | rfl
      · go_enter Try.func65, Try.ntmps65
        go_wp2_with (go_at_call 67; refine hn.mono ?_)
        rintro e w1 (⟨h1, _⟩ | ⟨b', t', h1, rfl, rfl⟩)
        · cases h1
        · cases h1
          rw [HK.out]
          clear hn
          go_wp2_with (go_at_call 64; refine hi.mono ?_)
          rintro e w2 ⟨rfl, hr2, hm⟩
          have hta := take_any r n 5 t2 w2 hr2 (by omega) (by omega)
          have hbk := (hm.2 _ HZ.out (by omega)).trans C0.out
          have hst2 := RdAt.set hr2 (t2.drop n)
          have HR : Hid _ := hst2
          have HM : Hid _ := Mv.set (Mv.trans HMV.out hm) 0 (.string ⟨(t2.drop n).toArray⟩)
          have hbk2 : (w2.setCell ⟨r, 0, none⟩ (.string ⟨(t2.drop n).toArray⟩)).heap[w.heap.size]? = some (.cells #[.int .i64 0, .int .i64 0, .string ⟨#[]⟩] 66 (0, 0)) := by
            rw [Below.heap_setCell _ _ _ _ (by simp; omega)]
            exact hbk
          clear hm hr2 hi hst2 hbk
          go_wp2_with (go_at_call 69; refine hta.mono ?_)
          rintro e w3 (⟨h2, _⟩ | ⟨_, rfl, hw3⟩)
          · omega
          · rw [← hw3] at HR HM hbk2
            clear hta hw3
            have k0 : w3.cell? ⟨w.heap.size, 0, none⟩ = some (.int .i64 0) := by rw [Lib.cell_of_heap hbk2]; rfl
            have k1 : w3.cell? ⟨w.heap.size, 1, none⟩ = some (.int .i64 0) := by rw [Lib.cell_of_heap hbk2]; rfl
            have k2 : w3.cell? ⟨w.heap.size, 2, none⟩ = some (.string ⟨#[]⟩) := by rw [Lib.cell_of_heap hbk2]; rfl
            have z0 : w3.frozen? ⟨w.heap.size, 0, none⟩ = false := Lib.frozen_of_heap hbk2 0
            have z1 : w3.frozen? ⟨w.heap.size, 1, none⟩ = false := Lib.frozen_of_heap hbk2 1
            have z2 : w3.frozen? ⟨w.heap.size, 2, none⟩ = false := Lib.frozen_of_heap hbk2 2
            have HB : Hid _ := hbk2
            clear hbk2
            go_wp2_with fail
            have q := put3_heap HB.out (.int .i64 2) (.int .i64 0) (.string ⟨(t2.take n).toArray⟩)
            have q0 := Lib.cell_of_heap q (j := 0)
            have q1 := Lib.cell_of_heap q (j := 1)
            have q2 := Lib.cell_of_heap q (j := 2)
            refine bodyPost_ret (v := .agg #[.int .i64 2, .int .i64 0, .string ⟨(t2.take n).toArray⟩]) ?_ rfl ?_
            · change (results Try.f65 _).run Try.prog (put3 w3 w.heap.size _ _ _) = .ok _ (put3 w3 w.heap.size _ _ _)
              simp [results, Try.results65, go_sem, q0, q1, q2]
            · refine ⟨?_, RdAt.put3 HR.out (by omega) _ _ _, Mv.put3 HM.out (Nat.le_refl _) _ _ _⟩
              first | rfl | (rw [VM.Vl.val, HK.out])
      · go_enter Try.func65, Try.ntmps65
        go_wp2_with (go_at_call 67; refine hn.mono ?_)
        rintro e w1 (⟨h1, _⟩ | ⟨b', t', h1, rfl, rfl⟩)
        · cases h1
        · cases h1
          rw [HK.out]
          clear hn
          go_wp2_with (go_at_call 64; refine hi.mono ?_)
          rintro e w2 ⟨rfl, hr2, hm⟩
          have hta := take_any r n 5 t2 w2 hr2 (by omega) (by omega)
          have hbk := (hm.2 _ HZ.out (by omega)).trans C0.out
          have hst2 := RdAt.set hr2 (t2.drop n)
          have HR : Hid _ := hst2
          have HM : Hid _ := Mv.set (Mv.trans HMV.out hm) 0 (.string ⟨(t2.drop n).toArray⟩)
          have hbk2 : (w2.setCell ⟨r, 0, none⟩ (.string ⟨(t2.drop n).toArray⟩)).heap[w.heap.size]? = some (.cells #[.int .i64 0, .int .i64 0, .string ⟨#[]⟩] 66 (0, 0)) := by
            rw [Below.heap_setCell _ _ _ _ (by simp; omega)]
            exact hbk
          clear hm hr2 hi hst2 hbk
          go_wp2_with (go_at_call 69; refine hta.mono ?_)
          rintro e w3 (⟨h2, _⟩ | ⟨_, rfl, hw3⟩)
          · omega
          · rw [← hw3] at HR HM hbk2
            clear hta hw3
            have k0 : w3.cell? ⟨w.heap.size, 0, none⟩ = some (.int .i64 0) := by rw [Lib.cell_of_heap hbk2]; rfl
            have k1 : w3.cell? ⟨w.heap.size, 1, none⟩ = some (.int .i64 0) := by rw [Lib.cell_of_heap hbk2]; rfl
            have k2 : w3.cell? ⟨w.heap.size, 2, none⟩ = some (.string ⟨#[]⟩) := by rw [Lib.cell_of_heap hbk2]; rfl
            have z0 : w3.frozen? ⟨w.heap.size, 0, none⟩ = false := Lib.frozen_of_heap hbk2 0
            have z1 : w3.frozen? ⟨w.heap.size, 1, none⟩ = false := Lib.frozen_of_heap hbk2 1
            have z2 : w3.frozen? ⟨w.heap.size, 2, none⟩ = false := Lib.frozen_of_heap hbk2 2
            have HB : Hid _ := hbk2
            clear hbk2
            go_wp2_with fail
            have q := put3_heap HB.out (.int .i64 3) (.int .i64 0) (.string ⟨(t2.take n).toArray⟩)
            have q0 := Lib.cell_of_heap q (j := 0)
            have q1 := Lib.cell_of_heap q (j := 1)
            have q2 := Lib.cell_of_heap q (j := 2)
            refine bodyPost_ret (v := .agg #[.int .i64 3, .int .i64 0, .string ⟨(t2.take n).toArray⟩]) ?_ rfl ?_
            · change (results Try.f65 _).run Try.prog (put3 w3 w.heap.size _ _ _) = .ok _ (put3 w3 w.heap.size _ _ _)
              simp [results, Try.results65, go_sem, q0, q1, q2]
            · refine ⟨?_, RdAt.put3 HR.out (by omega) _ _ _, Mv.put3 HM.out (Nat.le_refl _) _ _ _⟩
              first | rfl | (rw [VM.Vl.val, HK.out])

set_option maxRecDepth 100000 in
set_option maxHeartbeats 1000000 in
theorem value_bad (r : Nat) (b : UInt8) (t : List UInt8) (w : World) (h : RdAt w r (b :: t)) (hl : (b :: t).length ≤ 9223372036854775807) (hb : 3 < b.toNat) :
    Calls Try.prog 65 #[.pointer (some ⟨r, 0, none⟩)] w (Gv r w (RM.vl (b :: t)) fun x e _ => e = .returned x.val) := by
  unfold RM.vl
  simp only [if_neg (show ¬ b.toNat = 0 by omega), if_neg (show ¬ b.toNat = 1 by omega), if_neg (show ¬ (b.toNat = 2 ∨ b.toNat = 3) by omega)]
  have hlt := h.lt
  have hn := next_any r 5 (b :: t) _ (h.alloc (.cells #[.int .i64 0, .int .i64 0, .string ⟨#[]⟩] 66)) hl
  have hmv : Mv r w ((w.setCell ⟨r, 0, none⟩ (.string ⟨t.toArray⟩)).alloc (.cells #[.int .i64 0, .int .i64 0, .string ⟨#[]⟩] 66)) := ((Mv.refl _ _).set 0 _).alloc _
  have HMV : Hid _ := hmv
  clear h hmv
  have h1 : ((b.toNat : Int) == 0) = false := by simp; omega
  have h2 : ((b.toNat : Int) == 1) = false := by simp; omega
  have h3 : ((b.toNat : Int) == 2) = false := by simp; omega
  have h4 : ((b.toNat : Int) == 3) = false := by simp; omega
  have h5 : (b.toNat : Int) < 256 := by have := b.toNat_lt; omega
  go_enter Try.func65, Try.ntmps65
  go_wp2_with (go_at_call 67; refine hn.mono ?_)
  rintro e w1 (⟨h1, _⟩ | ⟨b', t', h1, rfl, rfl⟩)
  · cases h1
  · cases h1
    clear hn
    go_wp2_with fail
    exact ⟨rfl, rfl, HMV.out⟩

theorem value_any (r : Nat) (l : List UInt8) (w : World) (h : RdAt w r l) (hl : l.length ≤ 9223372036854775807) :
    Calls Try.prog 65 #[.pointer (some ⟨r, 0, none⟩)] w (Gv r w (RM.vl l) fun x e _ => e = .returned x.val) := by
  cases l with
  | nil => exact value_nil r w h
  | cons b t =>
    by_cases h0 : b.toNat = 0
    · exact value_zero r b t w h hl h0
    · by_cases h1 : b.toNat = 1
      · exact value_one r b t w h hl h1
      · by_cases h2 : b.toNat = 2 ∨ b.toNat = 3
        · exact value_text r b t w h hl h2
        · exact value_bad r b t w h hl (by omega)
end Go.Proofs.Ythpcdhnaibpjnaa
