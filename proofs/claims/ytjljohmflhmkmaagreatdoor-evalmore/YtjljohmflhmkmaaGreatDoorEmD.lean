/-
  Trial.
-/
import Derived.Test.YtjljohmflhmkmaaGreatDoorRgC
import Derived.Test.YtjljohmflhmkmaaGreatDoorEwG
import Derived.Test.YtjljohmflhmkmaaGreatDoorRfV
namespace Go.Proofs.YtjljohmflhmkmaaGreatDoor
open Go.ChangeShapes Go.WideShapes Go.ChangeAt Go.RowKit
set_option linter.unusedVariables false
set_option linter.unusedSimpArgs false
set_option maxRecDepth 100000
set_option maxHeartbeats 2000000
theorem Tryz.infoS9 : (Tryz.prog.info? 9).map (fun i => (i.zero, i.size, i.bytes)) = some (some (.string ⟨#[]⟩), 1, 16) := by kernel_rfl
theorem own_blk0 {w : World} {g B T k : Nat} (h : Blk w g #[] T) (hB : B ≤ g) : w.ownsRow B T k (.slice (some ⟨g, 0, none⟩) 0 0) 0 [] :=
  ⟨by simp, .inr ⟨g, 0, #[], rfl, hB, h, Nat.le_refl _, Nat.zero_le _, by simp, by simp⟩⟩
theorem isL_blk1 {α : Type} (E : Cd α) {w : World} {g : Nat} {x : α} {T : TypeId} (h : Blk w g (E.c x).toArray T) : IsL E w (.slice (some ⟨g, 0, none⟩) 1 1) [x] := by
  refine ⟨_, 1, rfl, Nat.le_refl _, .inr ⟨g, 0, rfl, h.lt, fun j u hj => ?_⟩⟩
  have e : flat E [x] = E.c x := by simp [flat]
  rw [e] at hj
  rw [Nat.zero_add]
  exact h.cell j (by simpa using hj)
theorem em_walk (a0 a1 a2 : Option Addr) (n0 n1 n2 c0 c1 c2 : Nat) (name : ByteArray) (mk mn : Int) (ms : ByteArray) (w : World) (vk vn : Int) (vs : ByteArray) (cs : List ByteArray) (l : List VM.Vl) (HI1' : ∀ W, Fr w W → IsL cdB W (.slice a1 n1 c1) cs) (HI2' : ∀ W, Fr w W → IsL cdV W (.slice a2 n2 c2) l) (hcl : cs.length < 8) (hll : l.length ≤ 8) (HE2' : ∀ W0 : World, Fr w W0 → ∀ W u1 u2, Fr W0 W → IsL cdB W u1 (cs ++ [name]) → IsL cdV W u2 (l ++ [⟨mk, mn, ms⟩]) → Calls Tryz.prog 13 #[.slice a0 n0 c0, u1, u2] W fun e w' => e = .returned (.tuple #[.agg #[.int .i64 vk, .int .i64 vn, .string vs], .int .i64 0]) ∧ Fr W w') (h8 : (n1 : Int) < 8)
    (HE : ∀ W, Fr w W → Calls Tryz.prog 13 #[.slice a0 n0 c0, .slice a1 n1 c1, .slice a2 n2 c2] W fun e w' => e = .returned (.tuple #[.agg #[.int .i64 vk, .int .i64 vn, .string vs], .int .i64 0]) ∧ Fr W w')
    (HBg : ∀ W, Fr w W → Calls Tryz.prog 15 #[] W fun e w' => e = .returned (.bool true) ∧ Fr W w')
    (HCk : ∀ W, Calls Tryz.prog 18 #[.agg #[.int .i64 mk, .int .i64 mn, .string ms]] W fun e w' => e = .returned (.int .i64 0) ∧ Fr W w') :
    Calls Tryz.prog 5 #[.slice a0 n0 c0, .slice a1 n1 c1, .slice a2 n2 c2, .string name, .agg #[.int .i64 mk, .int .i64 mn, .string ms]] w fun e w' => e = .returned (.bool true) ∧ Fr w w' := by
  have h8' : ¬ (8 : Int) ≤ (n1 : Int) := by omega
  have HB0 := hideP (Blk.new w #[.int .i64 mk, .int .i64 mn, .string ms] 26)
  have F0 := hideP ((Fr.refl w).alloc (.cells #[.int .i64 mk, .int .i64 mn, .string ms] 26))
  go_enter Tryz.func5, Tryz.ntmps5
  go_wp2_with fail
  generalize w.alloc (.cells #[.int .i64 mk, .int .i64 mn, .string ms] 26) = W0 at *
  refine (HE _ F0.out).mono ?_
  rintro _ w1 ⟨rfl, f1⟩
  have HB1 := hideP (Blk.new w1 #[.int .i64 vk, .int .i64 vn, .string vs] 26)
  have f1' := f1.alloc (.cells #[.int .i64 vk, .int .i64 vn, .string vs] 26)
  have F1 := hideP (F0.out.trans f1')
  have HB2 := hideP (HB0.out.fr f1')
  clear f1 f1'
  go_wp2_with fail
  generalize w1.alloc (.cells #[.int .i64 vk, .int .i64 vn, .string vs] 26) = W1 at *
  generalize w1.heap.size = B1 at *
  refine (HBg _ F1.out).mono ?_
  rintro _ w2 ⟨rfl, f2⟩
  have HB3 := hideP (HB1.out.fr f2)
  have HB4 := hideP (HB2.out.fr f2)
  have F2 := hideP (F1.out.trans f2)
  clear f2
  have p0 := HB4.out.cell 0 rfl
  have p1 := HB4.out.cell 1 rfl
  have p2 := HB4.out.cell 2 rfl
  go_wp2_with fail
  refine (HCk _).mono ?_
  rintro _ w3 ⟨rfl, f3⟩
  have HB5 := hideP (HB3.out.fr f3)
  have HB6 := hideP (HB4.out.fr f3)
  have F3 := hideP (F2.out.trans f3)
  clear f3 p0 p1 p2
  go_upto_region 6 with fail
  have HI1 := hideP (HI1' w3 F3.out)
  have HI2 := hideP (HI2' w3 F3.out)
  have HE2 := hideP (HE2' w3 F3.out)
  obtain ⟨i0, hi0, hz0, hz1, hz2⟩ := info_parts Tryz.infoS9
  obtain ⟨j0, hj0, jz0, jz1, jz2⟩ := info_parts Tryz.infoVal9
  have HM1 := hideP (show 0 + cs.length ≤ maxLen by unfold maxLen; omega)
  have HM2 := hideP (show (0 + cs.length) * 16 ≤ 140737488355328 by omega)
  have HM3 := hideP (show cs.length + [name].length ≤ maxLen by unfold maxLen; simp only [List.length_cons, List.length_nil]; omega)
  have HM4 := hideP (show (cs.length + [name].length) * 16 ≤ 140737488355328 by simp only [List.length_cons, List.length_nil]; omega)
  have HM5 := hideP (show 0 + l.length ≤ maxLen by unfold maxLen; omega)
  have HM6 := hideP (show (0 + l.length) * 32 ≤ 140737488355328 by omega)
  have HM7 := hideP (show l.length + [(⟨mk, mn, ms⟩ : VM.Vl)].length ≤ maxLen by unfold maxLen; simp only [List.length_cons, List.length_nil]; omega)
  have HM8 := hideP (show (l.length + [(⟨mk, mn, ms⟩ : VM.Vl)].length) * 32 ≤ 140737488355328 by simp only [List.length_cons, List.length_nil]; omega)
  clear HI1' HI2' HE2'
  refine region_inv2 rfl (fun listed v w9 => EmJ w3 (.slice a0 n0 c0) (.slice a1 n1 c1) (.slice a2 n2 c2) cs l name ⟨mk, mn, ms⟩ vk vn vs (fun i => listed.getD i false) v w9) ?_ ?_ ?_ ?_
  · constructor
    · exact Fr.drew (Fr.refl w3)
    all_goals (intro h; exact absurd h (by decide))
  · decide
  · intro listed v w9 A hs J HA HO i hi
    have hi1 := (ready_spec hi).1
    have hlt : i < listed.size := by rw [hs]; exact hi1
    have hno := not_yet hs hi
    have hi20 : i < 20 := hi1
    rcases (show i = 0 ∨ i = 1 ∨ i = 2 ∨ i = 3 ∨ i = 4 ∨ i = 5 ∨ i = 6 ∨ i = 7 ∨ i = 8 ∨ i = 9 ∨ i = 10 ∨ i = 11 ∨ i = 12 ∨ i = 13 ∨ i = 14 ∨ i = 15 ∨ i = 16 ∨ i = 17 ∨ i = 18 ∨ i = 19 by omega) with rfl | rfl | rfl | rfl | rfl | rfl | rfl | rfl | rfl | rfl | rfl | rfl | rfl | rfl | rfl | rfl | rfl | rfl | rfl | rfl
    · exact wpOp_move rfl (y := .slice a0 n0 c0) (HO 0 (by decide)) ⟨_, rfl, by rw [toL hlt]; exact J.st0⟩
    · exact wpOp_slice rfl (y := .slice (some ⟨w9.heap.size, 0, none⟩) 0 0) (w' := w9.alloc (.cells #[] 9)) (by kernel_rfl) ⟨_, rfl, by rw [toL hlt]; exact J.st1⟩
    · exact wpOp_move rfl (y := .slice a1 n1 c1) (HO 1 (by decide)) ⟨_, rfl, by rw [toL hlt]; exact J.st2⟩
    · have h1 := after_one hi rfl 1 (by decide)
      have h2 := after_one hi rfl 2 (by decide)
      obtain ⟨g, hv, hge, hb, hne⟩ := J.b1 h1 hno
      have e1 := (HA 1 45 rfl (by show 45 < 67; decide) h1)
      have e2 := (HA 2 46 rfl (by show 46 < 67; decide) h2)
      rw [hv] at e1
      rw [J.m2 h2] at e2
      refine wpOp_of rfl rfl (wp_append_L cdB _ _ 23 9 i0 _ 16 rfl Tryz.underlying23 hi0 hz0 hz1 hz2 rfl w3.heap.size _ 0 [] e1 (own_blk0 hb hge) _ cs e2 (HI1.out.fr J.fr) HM1.out HM2.out J.fr.size ?_)
      intro x w' own gr
      exact ⟨x, rfl, by rw [toL hlt]; exact J.st3 hno g hge hb hne (by have h9 := own; rw [Nat.zero_add, List.nil_append] at h9; exact h9) gr⟩
    · exact wpOp_move rfl (y := .string name) (HO 3 (by decide)) ⟨_, rfl, by rw [toL hlt]; exact J.st4⟩
    · have h4 := after_one hi rfl 4 (by decide)
      have e4 := (HA 4 48 rfl (by show 48 < 67; decide) h4)
      rw [J.m4 h4] at e4
      refine wpOp_slice rfl (y := .slice (some ⟨w9.heap.size, 0, none⟩) 1 1) (w' := w9.alloc (.cells #[.string name] 9)) ?_ ⟨_, rfl, by rw [toL hlt]; exact J.st5⟩
      simp only [List.map_toArray, List.map_cons, List.map_nil, e4]
      kernel_rfl
    · have h3 := after_one hi rfl 3 (by decide)
      have h5 := after_one hi rfl 5 (by decide)
      obtain ⟨g5, e5, hb5⟩ := J.b5 h5 hno
      have e1 := (HA 3 47 rfl (by show 47 < 67; decide) h3)
      have e2 := (HA 5 49 rfl (by show 49 < 67; decide) h5)
      rw [e5] at e2
      refine wpOp_of rfl rfl (wp_append_L cdB _ _ 23 9 i0 _ 16 rfl Tryz.underlying23 hi0 hz0 hz1 hz2 rfl w3.heap.size _ cs.length cs e1 (J.a3 h3 hno) _ [name] e2 (isL_blk1 cdB hb5) HM3.out HM4.out J.fr.size ?_)
      intro x w' own gr
      exact ⟨x, rfl, by rw [toL hlt]; exact J.st6 hno h3 own gr⟩
    · exact wpOp_slice rfl (y := .slice (some ⟨w9.heap.size, 0, none⟩) 0 0) (w' := w9.alloc (.cells #[] 26)) (by kernel_rfl) ⟨_, rfl, by rw [toL hlt]; exact J.st7⟩
    · exact wpOp_move rfl (y := .slice a2 n2 c2) (HO 2 (by decide)) ⟨_, rfl, by rw [toL hlt]; exact J.st8⟩
    · have h7 := after_one hi rfl 7 (by decide)
      have h8 := after_one hi rfl 8 (by decide)
      have h6 := after_one hi rfl 6 (by decide)
      obtain ⟨g, hv, hge, hb, hne⟩ := J.b7 h7 hno
      have e1 := (HA 7 51 rfl (by show 51 < 67; decide) h7)
      have e2 := (HA 8 52 rfl (by show 52 < 67; decide) h8)
      rw [hv] at e1
      rw [J.m8 h8] at e2
      refine wpOp_of rfl rfl (wp_append_LW cdV _ _ 24 26 j0 _ 32 rfl Tryz.underlying24 hj0 jz0 jz1 jz2 rfl w3.heap.size g 0 0 [] e1 (own_blk0 hb hge) _ l e2 (HI2.out.fr J.fr) HM5.out HM6.out J.fr.size ?_)
      intro x w' own gr hx
      exact ⟨x, rfl, by rw [toL hlt]; exact J.st9 hno h6 h7 g hv (by have h9 := own; rw [Nat.zero_add, List.nil_append] at h9; exact h9) gr hx⟩
    · have hb := HB6.out.fr J.fr
      have e9 := (HO 9 (by decide))
      refine wpOp_load rfl (y := .agg #[.int .i64 mk, .int .i64 mn, .string ms]) (w' := w9) ?_ ⟨_, rfl, by rw [toL hlt]; exact J.st10⟩
      rw [e9]
      have p0 := hb.cell 0 rfl
      have p1 := hb.cell 1 rfl
      have p2 := hb.cell 2 rfl
      simp [go_sem, p0, p1, p2]
    · have h4 := after_one hi rfl 10 (by decide)
      have e4 := (HA 10 54 rfl (by show 54 < 67; decide) h4)
      rw [J.m10 h4] at e4
      refine wpOp_slice rfl (y := .slice (some ⟨w9.heap.size, 0, none⟩) 1 1) (w' := w9.alloc (.cells #[.int .i64 mk, .int .i64 mn, .string ms] 26)) ?_ ⟨_, rfl, by rw [toL hlt]; exact J.st11⟩
      simp only [List.map_toArray, List.map_cons, List.map_nil, e4]
      kernel_rfl
    · have h9 := after_one hi rfl 9 (by decide)
      have h11 := after_one hi rfl 11 (by decide)
      obtain ⟨g5, e5, hb5⟩ := J.b11 h11 hno
      have e1 := (HA 9 53 rfl (by show 53 < 67; decide) h9)
      have e2 := (HA 11 55 rfl (by show 55 < 67; decide) h11)
      rw [e5] at e2
      refine wpOp_of rfl rfl (wp_append_L cdV _ _ 24 26 j0 _ 32 rfl Tryz.underlying24 hj0 jz0 jz1 jz2 rfl w3.heap.size _ l.length l e1 (J.a9 h9 hno).1 _ [⟨mk, mn, ms⟩] e2 (isL_blk1 cdV hb5) HM7.out HM8.out J.fr.size ?_)
      intro x w' own gr
      exact ⟨x, rfl, by rw [toL hlt]; exact J.st12 hno h9 own gr⟩
    · have h0 := after_one hi rfl 0 (by decide)
      have h6 := after_one hi rfl 6 (by decide)
      have h12 := after_one hi rfl 12 (by decide)
      have e1 := (HA 0 44 rfl (by show 44 < 67; decide) h0)
      have e2 := (HA 6 50 rfl (by show 50 < 67; decide) h6)
      have e3 := (HA 12 56 rfl (by show 56 < 67; decide) h12)
      rw [J.m0 h0] at e1
      have hc := HE2.out w9 (v 6) (v 12) J.fr (isL_own (E := cdB) (by rw [List.length_append]; exact J.a6 h6 hno)) (isL_own (E := cdV) (by rw [List.length_append]; exact J.a12 h12 hno))
      refine wpOp_call rfl (args := #[.slice a0 n0 c0, v 6, v 12]) ?_ (by kernel_rfl) hc ?_
      · simp only [List.map_toArray, List.map_cons, List.map_nil, e1, e2, e3]
      · rintro e w2 ⟨rfl, f2⟩
        exact ⟨_, rfl, _, rfl, by rw [toL hlt]; exact J.st13 h12 f2⟩
    · have h4 := after_one hi rfl 13 (by decide)
      exact wpOp_move rfl (y := .tuple #[.agg #[.int .i64 vk, .int .i64 vn, .string vs], .int .i64 0]) ((HA 13 57 rfl (by show 57 < 67; decide) h4).trans (J.r13 h4)) ⟨_, rfl, by rw [toL hlt]; exact J.st14⟩
    · have h4 := after_one hi rfl 14 (by decide)
      exact wpOp_extract rfl (y := .agg #[.int .i64 vk, .int .i64 vn, .string vs]) ((HA 14 43 rfl (by show 43 < 67; decide) h4).trans (J.r14 h4)) rfl ⟨_, rfl, by rw [toL hlt]; exact J.st15⟩
    · have h4 := after_one hi rfl 14 (by decide)
      exact wpOp_extract rfl (y := .int .i64 0) ((HA 14 43 rfl (by show 43 < 67; decide) h4).trans (J.r14 h4)) rfl ⟨_, rfl, by rw [toL hlt]; exact J.st16⟩
    · exact wpOp_alloc rfl (y := .pointer (some ⟨w9.heap.size, 0, none⟩)) (w' := w9.alloc (.cells #[.int .i64 0, .int .i64 0, .string ⟨#[]⟩] 26)) (by kernel_rfl) ⟨_, rfl, by rw [toL hlt]; exact J.st17 hno⟩
    · have h13 := after_one hi rfl 13 (by decide)
      have h15 := after_one hi rfl 15 (by decide)
      have h17 := after_one hi rfl 17 (by decide)
      obtain ⟨g, hv, hge, hb, _⟩ := J.b17 h17
      have hb := hb hno
      have e1 := (HA 17 13 rfl (by show 13 < 67; decide) h17)
      have e2 := (HA 15 58 rfl (by show 58 < 67; decide) h15)
      rw [hv] at e1
      rw [J.r15 h15] at e2
      refine wpOp_store rfl (w' := put3 w9 g (.int .i64 vk) (.int .i64 vn) (.string vs)) ?_ ⟨_, rfl, by rw [toL hlt]; exact J.st18 h13 h17 hno g hv _⟩
      rw [e1, e2]
      have p0 := hb.cell 0 rfl
      have p1 := hb.cell 1 rfl
      have p2 := hb.cell 2 rfl
      have y0 := hb.frozen 0
      have y1 := hb.frozen 1
      have y2 := hb.frozen 2
      unfold put3
      simp [go_sem, p0, p1, p2, y0, y1, y2]
    · have h4 := after_one hi rfl 16 (by decide)
      exact wpOp_assign rfl (y := .int .i64 0) ((HA 16 59 rfl (by show 59 < 67; decide) h4).trans (J.r16 h4)) ⟨_, rfl, by rw [toL hlt]; exact J.st19⟩
  · intro listed v w9 hs J hr
    have l0 := ready_all hs hr (i := 0) rfl [] (by intro k hk; cases hk) (by decide)
    have l1 := ready_all hs hr (i := 1) rfl [0] (by simp only [List.mem_cons, List.not_mem_nil, or_false, forall_eq_or_imp, forall_eq]; exact l0) (by decide)
    have l2 := ready_all hs hr (i := 2) rfl [0, 1] (by simp only [List.mem_cons, List.not_mem_nil, or_false, forall_eq_or_imp, forall_eq]; exact ⟨l0, l1⟩) (by decide)
    have l3 := ready_all hs hr (i := 3) rfl [0, 1, 2] (by simp only [List.mem_cons, List.not_mem_nil, or_false, forall_eq_or_imp, forall_eq]; exact ⟨l0, l1, l2⟩) (by decide)
    have l4 := ready_all hs hr (i := 4) rfl [0, 1, 2, 3] (by simp only [List.mem_cons, List.not_mem_nil, or_false, forall_eq_or_imp, forall_eq]; exact ⟨l0, l1, l2, l3⟩) (by decide)
    have l5 := ready_all hs hr (i := 5) rfl [0, 1, 2, 3, 4] (by simp only [List.mem_cons, List.not_mem_nil, or_false, forall_eq_or_imp, forall_eq]; exact ⟨l0, l1, l2, l3, l4⟩) (by decide)
    have l6 := ready_all hs hr (i := 6) rfl [0, 1, 2, 3, 4, 5] (by simp only [List.mem_cons, List.not_mem_nil, or_false, forall_eq_or_imp, forall_eq]; exact ⟨l0, l1, l2, l3, l4, l5⟩) (by decide)
    have l7 := ready_all hs hr (i := 7) rfl [0, 1, 2, 3, 4, 5, 6] (by simp only [List.mem_cons, List.not_mem_nil, or_false, forall_eq_or_imp, forall_eq]; exact ⟨l0, l1, l2, l3, l4, l5, l6⟩) (by decide)
    have l8 := ready_all hs hr (i := 8) rfl [0, 1, 2, 3, 4, 5, 6, 7] (by simp only [List.mem_cons, List.not_mem_nil, or_false, forall_eq_or_imp, forall_eq]; exact ⟨l0, l1, l2, l3, l4, l5, l6, l7⟩) (by decide)
    have l9 := ready_all hs hr (i := 9) rfl [0, 1, 2, 3, 4, 5, 6, 7, 8] (by simp only [List.mem_cons, List.not_mem_nil, or_false, forall_eq_or_imp, forall_eq]; exact ⟨l0, l1, l2, l3, l4, l5, l6, l7, l8⟩) (by decide)
    have l10 := ready_all hs hr (i := 10) rfl [0, 1, 2, 3, 4, 5, 6, 7, 8, 9] (by simp only [List.mem_cons, List.not_mem_nil, or_false, forall_eq_or_imp, forall_eq]; exact ⟨l0, l1, l2, l3, l4, l5, l6, l7, l8, l9⟩) (by decide)
    have l11 := ready_all hs hr (i := 11) rfl [0, 1, 2, 3, 4, 5, 6, 7, 8, 9, 10] (by simp only [List.mem_cons, List.not_mem_nil, or_false, forall_eq_or_imp, forall_eq]; exact ⟨l0, l1, l2, l3, l4, l5, l6, l7, l8, l9, l10⟩) (by decide)
    have l12 := ready_all hs hr (i := 12) rfl [0, 1, 2, 3, 4, 5, 6, 7, 8, 9, 10, 11] (by simp only [List.mem_cons, List.not_mem_nil, or_false, forall_eq_or_imp, forall_eq]; exact ⟨l0, l1, l2, l3, l4, l5, l6, l7, l8, l9, l10, l11⟩) (by decide)
    have l13 := ready_all hs hr (i := 13) rfl [0, 1, 2, 3, 4, 5, 6, 7, 8, 9, 10, 11, 12] (by simp only [List.mem_cons, List.not_mem_nil, or_false, forall_eq_or_imp, forall_eq]; exact ⟨l0, l1, l2, l3, l4, l5, l6, l7, l8, l9, l10, l11, l12⟩) (by decide)
    have l14 := ready_all hs hr (i := 14) rfl [0, 1, 2, 3, 4, 5, 6, 7, 8, 9, 10, 11, 12, 13] (by simp only [List.mem_cons, List.not_mem_nil, or_false, forall_eq_or_imp, forall_eq]; exact ⟨l0, l1, l2, l3, l4, l5, l6, l7, l8, l9, l10, l11, l12, l13⟩) (by decide)
    have l15 := ready_all hs hr (i := 15) rfl [0, 1, 2, 3, 4, 5, 6, 7, 8, 9, 10, 11, 12, 13, 14] (by simp only [List.mem_cons, List.not_mem_nil, or_false, forall_eq_or_imp, forall_eq]; exact ⟨l0, l1, l2, l3, l4, l5, l6, l7, l8, l9, l10, l11, l12, l13, l14⟩) (by decide)
    have l16 := ready_all hs hr (i := 16) rfl [0, 1, 2, 3, 4, 5, 6, 7, 8, 9, 10, 11, 12, 13, 14, 15] (by simp only [List.mem_cons, List.not_mem_nil, or_false, forall_eq_or_imp, forall_eq]; exact ⟨l0, l1, l2, l3, l4, l5, l6, l7, l8, l9, l10, l11, l12, l13, l14, l15⟩) (by decide)
    have l17 := ready_all hs hr (i := 17) rfl [0, 1, 2, 3, 4, 5, 6, 7, 8, 9, 10, 11, 12, 13, 14, 15, 16] (by simp only [List.mem_cons, List.not_mem_nil, or_false, forall_eq_or_imp, forall_eq]; exact ⟨l0, l1, l2, l3, l4, l5, l6, l7, l8, l9, l10, l11, l12, l13, l14, l15, l16⟩) (by decide)
    have l18 := ready_all hs hr (i := 18) rfl [0, 1, 2, 3, 4, 5, 6, 7, 8, 9, 10, 11, 12, 13, 14, 15, 16, 17] (by simp only [List.mem_cons, List.not_mem_nil, or_false, forall_eq_or_imp, forall_eq]; exact ⟨l0, l1, l2, l3, l4, l5, l6, l7, l8, l9, l10, l11, l12, l13, l14, l15, l16, l17⟩) (by decide)
    have l19 := ready_all hs hr (i := 19) rfl [0, 1, 2, 3, 4, 5, 6, 7, 8, 9, 10, 11, 12, 13, 14, 15, 16, 17, 18] (by simp only [List.mem_cons, List.not_mem_nil, or_false, forall_eq_or_imp, forall_eq]; exact ⟨l0, l1, l2, l3, l4, l5, l6, l7, l8, l9, l10, l11, l12, l13, l14, l15, l16, l17, l18⟩) (by decide)
    obtain ⟨g, hv, hge, _, hb⟩ := J.b17 l17
    have hb := hb l18
    have hv19 := J.r19 l19
    change Exit.then _ _ .normal (putL _ listed v [0, 1, 2, 3, 4, 5, 6, 7, 8, 9, 10, 11, 12, 13, 14, 15, 16, 17, 18, 19] _) w9
    simp only [putL, l0, l1, l2, l3, l4, l5, l6, l7, l8, l9, l10, l11, l12, l13, l14, l15, l16, l17, l18, l19, if_true]
    change Exit.then _ _ .normal (Act.put (Act.put (Act.put (Act.put (Act.put (Act.put (Act.put (Act.put (Act.put (Act.put (Act.put (Act.put (Act.put (Act.put (Act.put (Act.put (Act.put (Act.put (Act.put (Act.put _ (some 44) (v 0)) (some 45) (v 1)) (some 46) (v 2)) (some 47) (v 3)) (some 48) (v 4)) (some 49) (v 5)) (some 50) (v 6)) (some 51) (v 7)) (some 52) (v 8)) (some 53) (v 9)) (some 54) (v 10)) (some 55) (v 11)) (some 56) (v 12)) (some 57) (v 13)) (some 43) (v 14)) (some 58) (v 15)) (some 59) (v 16)) (some 13) (v 17)) none (v 18)) (some 14) (v 19)) w9
    rw [hv, hv19]
    have F9 := hideP (F3.out.trans J.fr)
    have HB7 := hideP (HB5.out.fr J.fr)
    have HB8 := hideP hb
    have p0 := HB7.out.cell 0 rfl
    have p1 := HB7.out.cell 1 rfl
    have p2 := HB7.out.cell 2 rfl
    have q0 := HB8.out.cell 0 rfl
    have q1 := HB8.out.cell 1 rfl
    have q2 := HB8.out.cell 2 rfl
    clear J hb hr hs l0 l1 l2 l3 l4 l5 l6 l7 l8 l9 l10 l11 l12 l13 l14 l15 l16 l17 l18 l19
    go_wp2_with fail
    go_ret
    exact ⟨rfl, F9.out⟩
end Go.Proofs.YtjljohmflhmkmaaGreatDoor
