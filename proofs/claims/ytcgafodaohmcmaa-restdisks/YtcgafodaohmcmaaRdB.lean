/-
  RestDisks: the walk.
-/
import Derived.Deep.DeepCutAuto
import Derived.Deep.CutRange
import Derived.Test.YtcgafodaohmcmaaOpenD
import Derived.Test.YtcgafodaohmcmaaRdA
namespace Go.Proofs.Ytcgafodaohmcmaa
open Go.ChangeShapes Go.WideShapes Go.ChangeAt Go.RowKit
set_option linter.unusedVariables false
set_option linter.unusedSimpArgs false
set_option maxRecDepth 100000
set_option maxHeartbeats 2000000
open Rd
theorem lwrite_any (no : Int) (s : ByteArray) (w : World) :
    Calls Try.prog 4 #[.int .i64 no, .string s] w fun e w' => e = .returned (.agg #[.int .i64 no, .string s]) ∧ Fr w w' := by
  go_enter Try.func4, Try.ntmps4
  go_wp2_with fail
  exact bodyPost_ret (v := .agg #[.int .i64 no, .string s]) (by simp [results, Try.results4, go_sem]) rfl ⟨rfl, (Fr.refl w).alloc _⟩
theorem info_parts {e : TypeId} {z : Value} {s b : Nat} (h : (Try.prog.info? e).map (fun i => (i.zero, i.size, i.bytes)) = some (some z, s, b)) : ∃ i, Try.prog.info? e = some i ∧ i.zero = some z ∧ i.size = s ∧ i.bytes = b := by
  obtain ⟨i, hi, hzz⟩ := Option.map_eq_some_iff.1 h
  simp only [Prod.mk.injEq] at hzz
  exact ⟨i, hi, hzz.1, hzz.2.1, hzz.2.2⟩
theorem walk (p q : Value) (d : JN.D) (no : Int) (s : ByteArray) (w : World) (hr : IsD w p q d) (hb : BD d) (hno : -9223372036854775808 ≤ no ∧ no ≤ 9223372036854775807) (hs : s.size ≤ 140737488351232) :
    Calls Try.prog 3 #[.agg #[p, q], .int .i64 no, .string s] w fun e w' => e = .returned (.bool true) ∧ Fr w w' := by
  obtain ⟨l, k⟩ := d
  obtain ⟨ap, dp, rfl, hcp, hcp2⟩ := hr.1
  obtain ⟨aq, dq, rfl, hcq, hcq2⟩ := hr.2
  have hr2 : IsD w (.slice ap l.length dp) (.slice aq k.length dq) ⟨l, k⟩ := hr
  have VD := hideP (DV.new hr2)
  have HF : Hid (Fr w (w.alloc (.cells #[.slice ap l.length dp, .slice aq k.length dq] 25))) := (Fr.refl w).alloc _
  have hl : l.length * 16 ≤ 140737488351232 := hb.pg
  have hk : k.length * 24 ≤ 140737488351232 := hb.wt
  clear hr hr2 hno hs hcp hcp2 hcq hcq2
  go_enter Try.func3, Try.ntmps3
  generalize hW : w.alloc (.cells #[.slice ap l.length dp, .slice aq k.length dq] 25) = W at VD HF
  go_upto_region 1 with fail
  have hbW : w.heap.size < W.heap.size := VD.out.b.lt
  obtain ⟨i0, hi0, hz0, hz1, hz2⟩ := info_parts Try.infoS
  obtain ⟨j0, hj0, jz0, jz1, jz2⟩ := info_parts Try.infoW

  refine region_inv2 rfl (fun listed v w9 => ∃ G, Jt W w.heap.size (.slice ap l.length dp) (.slice aq k.length dq) l k G (fun i => listed.getD i false) v w9) ?_ ?_ ?_ ?_
  · refine ⟨fun _ => 0, Fr.drew (Fr.refl W), ?_, ?_, ?_, ?_⟩
    · intro i h; have h : (Array.replicate 32 false).getD i false = true := h; rw [show (Array.replicate 32 false).getD i false = false by unfold Array.getD; split <;> simp] at h; cases h
    · intro i _ h; have h : (Array.replicate 32 false).getD i false = true := h; rw [show (Array.replicate 32 false).getD i false = false by unfold Array.getD; split <;> simp] at h; cases h
    · intro i _ j _ h; have h : (Array.replicate 32 false).getD i false = true := h; rw [show (Array.replicate 32 false).getD i false = false by unfold Array.getD; split <;> simp] at h; cases h
    · intro i h; have h : (Array.replicate 32 false).getD i false = true := h; rw [show (Array.replicate 32 false).getD i false = false by unfold Array.getD; split <;> simp] at h; cases h
  · decide
  · rintro listed v w9 A hs ⟨G, J⟩ HA HO i hi
    have hi1 := (ready_spec hi).1
    have hlt : i < listed.size := by rw [hs]; exact hi1
    have hno := not_yet hs hi
    have hi32 : i < 32 := hi1
    have hb9 : Blk w9 w.heap.size #[.slice ap l.length dp, .slice aq k.length dq] 25 := VD.out.b.fr J.fr
    have p0 : w9.cell? ⟨w.heap.size, 0, none⟩ = some (.slice ap l.length dp) := hb9.cell 0 rfl
    have p1 : w9.cell? ⟨w.heap.size, 1, none⟩ = some (.slice aq k.length dq) := hb9.cell 1 rfl
    have hn1 : IntKind.i64.wrap ((l.length : Int) + 1) = ((l.length + 1 : Nat) : Int) := by rw [IntKind.wrap_i64]; omega
    have hm1 : IntKind.i64.wrap ((k.length : Int) + 1) = ((k.length + 1 : Nat) : Int) := by rw [IntKind.wrap_i64]; omega
    rcases (show i = 0 ∨ i = 1 ∨ i = 2 ∨ i = 3 ∨ i = 4 ∨ i = 5 ∨ i = 6 ∨ i = 7 ∨ i = 8 ∨ i = 9 ∨ i = 10 ∨ i = 11 ∨ i = 12 ∨ i = 13 ∨ i = 14 ∨ i = 15 ∨ i = 16 ∨ i = 17 ∨ i = 18 ∨ i = 19 ∨ i = 20 ∨ i = 21 ∨ i = 22 ∨ i = 23 ∨ i = 24 ∨ i = 25 ∨ i = 26 ∨ i = 27 ∨ i = 28 ∨ i = 29 ∨ i = 30 ∨ i = 31 by omega) with rfl | rfl | rfl | rfl | rfl | rfl | rfl | rfl | rfl | rfl | rfl | rfl | rfl | rfl | rfl | rfl | rfl | rfl | rfl | rfl | rfl | rfl | rfl | rfl | rfl | rfl | rfl | rfl | rfl | rfl | rfl | rfl
    · have e3 : A.eval (.tmp 3) = .pointer (some ⟨w.heap.size, 0, none⟩) := HO 3 (by decide)
      refine wpOp_is (Instr.fieldAt 25 (A.eval (.tmp 3)) 0) rfl rfl rfl (y := .pointer (some ⟨w.heap.size, 0, none⟩)) (w' := w9) ?_ ⟨_, rfl, _, by rw [toL hlt]; exact J.pure 0 (by decide) (by intro d hd; cases hd) (by intro j hj _; simp only [As, List.mem_cons, List.not_mem_nil, or_false] at hj; rcases hj with rfl | rfl | rfl | rfl | rfl <;> rfl) (Fr.refl _)⟩
      rw [e3]
      kernel_rfl
    · have h0 := after_one hi rfl 0 (by decide)
      have e0 : A.eval (.tmp 18) = .pointer (some ⟨w.heap.size, 0, none⟩) := (HA 0 18 rfl (by show 18 < 144; decide) h0).trans (J.vl 0 h0)
      refine wpOp_is (Instr.loadAt 22 (A.eval (.tmp 18))) rfl rfl rfl (y := .slice ap l.length dp) (w' := w9) ?_ ⟨_, rfl, _, by rw [toL hlt]; exact J.pure 1 (by decide) (by intro d hd; cases hd) (by intro j hj _; simp only [As, List.mem_cons, List.not_mem_nil, or_false] at hj; rcases hj with rfl | rfl | rfl | rfl | rfl <;> rfl) (Fr.refl _)⟩
      rw [e0]
      simp [go_sem, p0, p1]
    · have h1 := after_one hi rfl 1 (by decide)
      have e1 : A.eval (.tmp 19) = .slice ap l.length dp := (HA 1 19 rfl (by show 19 < 144; decide) h1).trans (J.vl 1 h1)
      exact wpOp_val rfl rfl (x := .int .i64 l.length) (w' := w9) (exec_len Try.underlying22 e1) ⟨_, rfl, _, by rw [toL hlt]; exact J.pure 2 (by decide) (by intro d hd; cases hd) (by intro j hj _; simp only [As, List.mem_cons, List.not_mem_nil, or_false] at hj; rcases hj with rfl | rfl | rfl | rfl | rfl <;> rfl) (Fr.refl _)⟩
    · have h2 := after_one hi rfl 2 (by decide)
      have e2 : A.eval (.tmp 20) = .int .i64 l.length := (HA 2 20 rfl (by show 20 < 144; decide) h2).trans (J.vl 2 h2)
      refine wpOp_is (do eqGuard .add 3 (.tmp 20) (.const (.int .i64 1)) (A.eval (.tmp 20)) (.int .i64 1); binOp .add 3 (A.eval (.tmp 20)) (.int .i64 1)) rfl rfl rfl (y := .int .i64 (l.length + 1 : Nat)) (w' := w9) ?_ ⟨_, rfl, _, by rw [toL hlt]; exact J.pure 3 (by decide) (by intro d hd; cases hd) (by intro j hj _; simp only [As, List.mem_cons, List.not_mem_nil, or_false] at hj; rcases hj with rfl | rfl | rfl | rfl | rfl <;> rfl) (Fr.refl _)⟩
      rw [e2]
      simp [go_sem, eqGuard, hn1]
    · have h3 := after_one hi rfl 3 (by decide)
      have e3 : A.eval (.tmp 21) = .int .i64 (l.length + 1 : Nat) := (HA 3 21 rfl (by show 21 < 144; decide) h3).trans (J.vl 3 h3)
      have q1 := J.no (k := 7) hno (by decide)
      have q2 := J.no (k := 9) hno (by decide)
      have q3 := J.no (k := 31) hno (by decide)
      have hr := run_make (P := Try.prog) w9 22 9 i0 _ Try.underlying22 hi0 hz0 .i64 .i64 0 ((l.length + 1 : Nat) : Int) (by omega) (by omega) (by rw [hz2]; omega) (by omega)
      rw [Int.toNat_natCast, hz1] at hr
      have HC : ∀ j ∈ As, j ≠ 4 → listed.getD j false = true → cont l k (updG G 4 w9.heap.size) (updL (fun i => listed.getD i false) 4) j = cont l k G (fun i => listed.getD i false) j := by
        intro j hj hne _
        simp only [As, List.mem_cons, List.not_mem_nil, or_false] at hj
        rcases hj with rfl | rfl | rfl | rfl | rfl
        all_goals first | exact absurd rfl hne | rfl | (show (if updL (fun i => listed.getD i false) 4 31 = true then _ else _) = (if listed.getD 31 false = true then _ else _); rw [updL_ne (by decide)]; rw [q3]; rfl)
      have HA2 : cont l k (updG G 4 w9.heap.size) (updL (fun i => listed.getD i false) 4) 4 = zP l.length := by
        show (if updL (fun i => listed.getD i false) 4 9 = true then _ else if updL (fun i => listed.getD i false) 4 7 = true then _ else _) = _
        rw [updL_ne (by decide), updL_ne (by decide), q1, q2]
        rfl
      exact wpOp_is (Instr.makeSlice 22 (.int .i64 0) (A.eval (.tmp 21))) rfl rfl rfl (y := row w9.heap.size 0 (l.length + 1)) (w' := w9.alloc (.cells (zP l.length) 9)) (by rw [e3]; exact hr) ⟨_, rfl, _, by rw [toL hlt]; exact J.new 4 (by decide) hno rfl HC HA2⟩
    · have e3 : A.eval (.tmp 3) = .pointer (some ⟨w.heap.size, 0, none⟩) := HO 3 (by decide)
      refine wpOp_is (Instr.fieldAt 25 (A.eval (.tmp 3)) 0) rfl rfl rfl (y := .pointer (some ⟨w.heap.size, 0, none⟩)) (w' := w9) ?_ ⟨_, rfl, _, by rw [toL hlt]; exact J.pure 5 (by decide) (by intro d hd; cases hd) (by intro j hj _; simp only [As, List.mem_cons, List.not_mem_nil, or_false] at hj; rcases hj with rfl | rfl | rfl | rfl | rfl <;> rfl) (Fr.refl _)⟩
      rw [e3]
      kernel_rfl
    · have h5 := after_one hi rfl 5 (by decide)
      have e5 : A.eval (.tmp 23) = .pointer (some ⟨w.heap.size, 0, none⟩) := (HA 5 23 rfl (by show 23 < 144; decide) h5).trans (J.vl 5 h5)
      refine wpOp_is (Instr.loadAt 22 (A.eval (.tmp 23))) rfl rfl rfl (y := .slice ap l.length dp) (w' := w9) ?_ ⟨_, rfl, _, by rw [toL hlt]; exact J.pure 6 (by decide) (by intro d hd; cases hd) (by intro j hj _; simp only [As, List.mem_cons, List.not_mem_nil, or_false] at hj; rcases hj with rfl | rfl | rfl | rfl | rfl <;> rfl) (Fr.refl _)⟩
      rw [e5]
      simp [go_sem, p0, p1]
    · have h4 := after_one hi rfl 4 (by decide)
      have e4 : A.eval (.tmp 22) = row (G 4) 0 (l.length + 1) := (HA 4 22 rfl (by show 22 < 144; decide) h4).trans (J.vl 4 h4)
      have h6 := after_one hi rfl 6 (by decide)
      have e6 : A.eval (.tmp 24) = .slice ap l.length dp := (HA 6 24 rfl (by show 24 < 144; decide) h6).trans (J.vl 6 h6)
      have h4 := J.dp 4 h4 4 (by decide)
      have hge := (J.bk 4 (by decide) h4).1
      have q9 := J.no (k := 9) hno (by decide)
      have hbk : Blk w9 (G 4) (zP l.length) 9 := by
        have h9 := (J.bk 4 (by decide) h4).2
        rw [show cont l k G (fun i => listed.getD i false) 4 = zP l.length by show (if listed.getD 9 false = true then _ else if listed.getD 7 false = true then _ else _) = _; rw [q9, hno]; rfl] at h9
        exact h9
      have hnw : cont l k G (updL (fun i => listed.getD i false) 7) 4 = over (zP l.length) 0 (flat cdP l) := by
        show (if updL (fun i => listed.getD i false) 7 9 = true then _ else if updL (fun i => listed.getD i false) 7 7 = true then _ else _) = _
        rw [updL_ne (by decide), updL_at, q9]
        rfl
      refine wpOp_of rfl rfl (wp_append_room cdP _ _ 22 9 i0 rfl Try.underlying22 hi0 hz1 (G 4) 0 (l.length + 1) (zP l.length) e4 hbk _ l e6 (VD.out.d.1.fr J.fr) (by omega) (by simp [zP, size_madeCells, cdP]) ?_)
      rw [Nat.zero_add, Nat.zero_mul, ← hnw]
      exact ⟨_, rfl, _, by rw [toL hlt]; exact J.put 7 (by decide) 4 (by decide) h4 (by intro d hd; simp only [deps, List.mem_cons, List.not_mem_nil, or_false] at hd; subst hd; exact h4) (by intro j hj hne _; simp only [As, List.mem_cons, List.not_mem_nil, or_false] at hj; rcases hj with rfl | rfl | rfl | rfl | rfl <;> first | exact absurd rfl hne | rfl) (J.fr.row _ hge _) (setRow_new hbk) (fun b arr T hne hb => setRow_old hne hb)⟩
    · refine wpOp_slice rfl (y := row w9.heap.size 1 1) (w' := w9.alloc (.cells #[.string room] 9)) ?_ ⟨_, rfl, _, by rw [toL hlt]; exact J.new 8 (by decide) hno rfl (by intro j hj hne _; simp only [As, List.mem_cons, List.not_mem_nil, or_false] at hj; rcases hj with rfl | rfl | rfl | rfl | rfl <;> first | exact absurd rfl hne | rfl) rfl⟩
      kernel_rfl
    · have h7 := after_one hi rfl 7 (by decide)
      have e7 : A.eval (.tmp 25) = row (G 4) l.length (l.length + 1) := (HA 7 25 rfl (by show 25 < 144; decide) h7).trans (J.vl 7 h7)
      have h8 := after_one hi rfl 8 (by decide)
      have e8 : A.eval (.tmp 26) = row (G 8) 1 1 := (HA 8 26 rfl (by show 26 < 144; decide) h8).trans (J.vl 8 h8)
      have h4 := J.dp 7 h7 4 (by decide)
      have hge := (J.bk 4 (by decide) h4).1
      have hbk : Blk w9 (G 4) (over (zP l.length) 0 (flat cdP l)) 9 := by
        have h9 := (J.bk 4 (by decide) h4).2
        rw [show cont l k G (fun i => listed.getD i false) 4 = over (zP l.length) 0 (flat cdP l) by show (if listed.getD 9 false = true then _ else if listed.getD 7 false = true then _ else _) = _; rw [hno, h7]; rfl] at h9
        exact h9
      have hnw : cont l k G (updL (fun i => listed.getD i false) 9) 4 = over (over (zP l.length) 0 (flat cdP l)) (l.length * cdP.k) (flat cdP [room]) := by
        rw [← flat_len cdP l, over_two _ _ _ (by rw [flat_len, flat_len]; simp [zP, size_madeCells, cdP]; try omega), ← flat_app]
        exact cont4 (updL_at _)
      refine wpOp_of rfl rfl (wp_append_room cdP _ _ 22 9 i0 rfl Try.underlying22 hi0 hz1 (G 4) l.length (l.length + 1) _ e7 hbk _ [room] e8 (isL_blk1 cdP (J.bk 8 (by decide) h8).2) (by simp) (by rw [over_size _ _ (by rw [flat_len]; simp [zP, size_madeCells, cdP]; try omega)]; simp [zP, size_madeCells, cdP]) ?_)
      rw [← hnw]
      exact ⟨_, rfl, _, by rw [toL hlt]; exact J.put 9 (by decide) 4 (by decide) h4 (by intro d hd; simp only [deps, List.mem_cons, List.not_mem_nil, or_false] at hd; rcases hd with rfl | rfl; exact h4; exact h7) (by intro j hj hne _; simp only [As, List.mem_cons, List.not_mem_nil, or_false] at hj; rcases hj with rfl | rfl | rfl | rfl | rfl <;> first | exact absurd rfl hne | rfl) (J.fr.row _ hge _) (setRow_new hbk) (fun b arr T hne hb => setRow_old hne hb)⟩
    · have e3 : A.eval (.tmp 3) = .pointer (some ⟨w.heap.size, 0, none⟩) := HO 3 (by decide)
      refine wpOp_is (Instr.fieldAt 25 (A.eval (.tmp 3)) 0) rfl rfl rfl (y := .pointer (some ⟨w.heap.size, 0, none⟩)) (w' := w9) ?_ ⟨_, rfl, _, by rw [toL hlt]; exact J.pure 10 (by decide) (by intro d hd; cases hd) (by intro j hj _; simp only [As, List.mem_cons, List.not_mem_nil, or_false] at hj; rcases hj with rfl | rfl | rfl | rfl | rfl <;> rfl) (Fr.refl _)⟩
      rw [e3]
      kernel_rfl
    · have h10 := after_one hi rfl 10 (by decide)
      have e10 : A.eval (.tmp 28) = .pointer (some ⟨w.heap.size, 0, none⟩) := (HA 10 28 rfl (by show 28 < 144; decide) h10).trans (J.vl 10 h10)
      refine wpOp_is (Instr.loadAt 22 (A.eval (.tmp 28))) rfl rfl rfl (y := .slice ap l.length dp) (w' := w9) ?_ ⟨_, rfl, _, by rw [toL hlt]; exact J.pure 11 (by decide) (by intro d hd; cases hd) (by intro j hj _; simp only [As, List.mem_cons, List.not_mem_nil, or_false] at hj; rcases hj with rfl | rfl | rfl | rfl | rfl <;> rfl) (Fr.refl _)⟩
      rw [e10]
      simp [go_sem, p0, p1]
    · have h11 := after_one hi rfl 11 (by decide)
      have e11 : A.eval (.tmp 29) = .slice ap l.length dp := (HA 11 29 rfl (by show 29 < 144; decide) h11).trans (J.vl 11 h11)
      exact wpOp_val rfl rfl (x := .int .i64 l.length) (w' := w9) (exec_len Try.underlying22 e11) ⟨_, rfl, _, by rw [toL hlt]; exact J.pure 12 (by decide) (by intro d hd; cases hd) (by intro j hj _; simp only [As, List.mem_cons, List.not_mem_nil, or_false] at hj; rcases hj with rfl | rfl | rfl | rfl | rfl <;> rfl) (Fr.refl _)⟩
    · have h9 := after_one hi rfl 9 (by decide)
      have e9 : A.eval (.tmp 27) = row (G 4) (l.length + 1) (l.length + 1) := (HA 9 27 rfl (by show 27 < 144; decide) h9).trans (J.vl 9 h9)
      have h12 := after_one hi rfl 12 (by decide)
      have e12 : A.eval (.tmp 30) = .int .i64 l.length := (HA 12 30 rfl (by show 30 < 144; decide) h12).trans (J.vl 12 h12)
      have h4 := J.dp 9 h9 4 (by decide)
      refine wpOp_is (Instr.sliceAt 22 (A.eval (.tmp 27)) none (some (A.eval (.tmp 30))) none) rfl rfl rfl (y := row (G 4) l.length (l.length + 1)) (w' := w9) ?_ ⟨_, rfl, _, by rw [toL hlt]; exact J.pure 13 (by decide) (by intro d hd; simp only [deps, List.mem_cons, List.not_mem_nil, or_false] at hd; subst hd; exact h4) (by intro j hj _; simp only [As, List.mem_cons, List.not_mem_nil, or_false] at hj; rcases hj with rfl | rfl | rfl | rfl | rfl <;> rfl) (Fr.refl _)⟩
      have c1 : ¬ ((l.length : Int) + 1 < (l.length : Int)) := by omega
      rw [e9, e12]
      simp [go_sem, row, c1]
    · have e3 : A.eval (.tmp 3) = .pointer (some ⟨w.heap.size, 0, none⟩) := HO 3 (by decide)
      refine wpOp_is (Instr.fieldAt 25 (A.eval (.tmp 3)) 1) rfl rfl rfl (y := .pointer (some ⟨w.heap.size, 1, none⟩)) (w' := w9) ?_ ⟨_, rfl, _, by rw [toL hlt]; exact J.pure 14 (by decide) (by intro d hd; cases hd) (by intro j hj _; simp only [As, List.mem_cons, List.not_mem_nil, or_false] at hj; rcases hj with rfl | rfl | rfl | rfl | rfl <;> rfl) (Fr.refl _)⟩
      rw [e3]
      kernel_rfl
    · have h14 := after_one hi rfl 14 (by decide)
      have e14 : A.eval (.tmp 32) = .pointer (some ⟨w.heap.size, 1, none⟩) := (HA 14 32 rfl (by show 32 < 144; decide) h14).trans (J.vl 14 h14)
      refine wpOp_is (Instr.loadAt 23 (A.eval (.tmp 32))) rfl rfl rfl (y := .slice aq k.length dq) (w' := w9) ?_ ⟨_, rfl, _, by rw [toL hlt]; exact J.pure 15 (by decide) (by intro d hd; cases hd) (by intro j hj _; simp only [As, List.mem_cons, List.not_mem_nil, or_false] at hj; rcases hj with rfl | rfl | rfl | rfl | rfl <;> rfl) (Fr.refl _)⟩
      rw [e14]
      simp [go_sem, p0, p1]
    · have h15 := after_one hi rfl 15 (by decide)
      have e15 : A.eval (.tmp 33) = .slice aq k.length dq := (HA 15 33 rfl (by show 33 < 144; decide) h15).trans (J.vl 15 h15)
      exact wpOp_val rfl rfl (x := .int .i64 k.length) (w' := w9) (exec_len Try.underlying23 e15) ⟨_, rfl, _, by rw [toL hlt]; exact J.pure 16 (by decide) (by intro d hd; cases hd) (by intro j hj _; simp only [As, List.mem_cons, List.not_mem_nil, or_false] at hj; rcases hj with rfl | rfl | rfl | rfl | rfl <;> rfl) (Fr.refl _)⟩
    · have h16 := after_one hi rfl 16 (by decide)
      have e16 : A.eval (.tmp 34) = .int .i64 k.length := (HA 16 34 rfl (by show 34 < 144; decide) h16).trans (J.vl 16 h16)
      refine wpOp_is (do eqGuard .add 3 (.tmp 34) (.const (.int .i64 1)) (A.eval (.tmp 34)) (.int .i64 1); binOp .add 3 (A.eval (.tmp 34)) (.int .i64 1)) rfl rfl rfl (y := .int .i64 (k.length + 1 : Nat)) (w' := w9) ?_ ⟨_, rfl, _, by rw [toL hlt]; exact J.pure 17 (by decide) (by intro d hd; cases hd) (by intro j hj _; simp only [As, List.mem_cons, List.not_mem_nil, or_false] at hj; rcases hj with rfl | rfl | rfl | rfl | rfl <;> rfl) (Fr.refl _)⟩
      rw [e16]
      simp [go_sem, eqGuard, hm1]
    · have h17 := after_one hi rfl 17 (by decide)
      have e17 : A.eval (.tmp 35) = .int .i64 (k.length + 1 : Nat) := (HA 17 35 rfl (by show 35 < 144; decide) h17).trans (J.vl 17 h17)
      have q1 := J.no (k := 21) hno (by decide)
      have q2 := J.no (k := 24) hno (by decide)
      have q3 := J.no (k := 31) hno (by decide)
      have hr := run_make (P := Try.prog) w9 23 27 j0 _ Try.underlying23 hj0 jz0 .i64 .i64 0 ((k.length + 1 : Nat) : Int) (by omega) (by omega) (by rw [jz2]; omega) (by omega)
      rw [Int.toNat_natCast, jz1] at hr
      have HC : ∀ j ∈ As, j ≠ 18 → listed.getD j false = true → cont l k (updG G 18 w9.heap.size) (updL (fun i => listed.getD i false) 18) j = cont l k G (fun i => listed.getD i false) j := by
        intro j hj hne _
        simp only [As, List.mem_cons, List.not_mem_nil, or_false] at hj
        rcases hj with rfl | rfl | rfl | rfl | rfl
        all_goals first | exact absurd rfl hne | rfl | (show (if updL (fun i => listed.getD i false) 18 31 = true then _ else _) = (if listed.getD 31 false = true then _ else _); rw [updL_ne (by decide)]; rw [q3]; rfl)
      have HA2 : cont l k (updG G 18 w9.heap.size) (updL (fun i => listed.getD i false) 18) 18 = zW k.length := by
        show (if updL (fun i => listed.getD i false) 18 24 = true then _ else if updL (fun i => listed.getD i false) 18 21 = true then _ else _) = _
        rw [updL_ne (by decide), updL_ne (by decide), q1, q2]
        rfl
      exact wpOp_is (Instr.makeSlice 23 (.int .i64 0) (A.eval (.tmp 35))) rfl rfl rfl (y := row w9.heap.size 0 (k.length + 1)) (w' := w9.alloc (.cells (zW k.length) 27)) (by rw [e17]; exact hr) ⟨_, rfl, _, by rw [toL hlt]; exact J.new 18 (by decide) hno rfl HC HA2⟩
    · have e3 : A.eval (.tmp 3) = .pointer (some ⟨w.heap.size, 0, none⟩) := HO 3 (by decide)
      refine wpOp_is (Instr.fieldAt 25 (A.eval (.tmp 3)) 1) rfl rfl rfl (y := .pointer (some ⟨w.heap.size, 1, none⟩)) (w' := w9) ?_ ⟨_, rfl, _, by rw [toL hlt]; exact J.pure 19 (by decide) (by intro d hd; cases hd) (by intro j hj _; simp only [As, List.mem_cons, List.not_mem_nil, or_false] at hj; rcases hj with rfl | rfl | rfl | rfl | rfl <;> rfl) (Fr.refl _)⟩
      rw [e3]
      kernel_rfl
    · have h19 := after_one hi rfl 19 (by decide)
      have e19 : A.eval (.tmp 37) = .pointer (some ⟨w.heap.size, 1, none⟩) := (HA 19 37 rfl (by show 37 < 144; decide) h19).trans (J.vl 19 h19)
      refine wpOp_is (Instr.loadAt 23 (A.eval (.tmp 37))) rfl rfl rfl (y := .slice aq k.length dq) (w' := w9) ?_ ⟨_, rfl, _, by rw [toL hlt]; exact J.pure 20 (by decide) (by intro d hd; cases hd) (by intro j hj _; simp only [As, List.mem_cons, List.not_mem_nil, or_false] at hj; rcases hj with rfl | rfl | rfl | rfl | rfl <;> rfl) (Fr.refl _)⟩
      rw [e19]
      simp [go_sem, p0, p1]
    · have h18 := after_one hi rfl 18 (by decide)
      have e18 : A.eval (.tmp 36) = row (G 18) 0 (k.length + 1) := (HA 18 36 rfl (by show 36 < 144; decide) h18).trans (J.vl 18 h18)
      have h20 := after_one hi rfl 20 (by decide)
      have e20 : A.eval (.tmp 38) = .slice aq k.length dq := (HA 20 38 rfl (by show 38 < 144; decide) h20).trans (J.vl 20 h20)
      have h18 := J.dp 18 h18 18 (by decide)
      have hge := (J.bk 18 (by decide) h18).1
      have q9 := J.no (k := 24) hno (by decide)
      have hbk : Blk w9 (G 18) (zW k.length) 27 := by
        have h9 := (J.bk 18 (by decide) h18).2
        rw [show cont l k G (fun i => listed.getD i false) 18 = zW k.length by show (if listed.getD 24 false = true then _ else if listed.getD 21 false = true then _ else _) = _; rw [q9, hno]; rfl] at h9
        exact h9
      have hnw : cont l k G (updL (fun i => listed.getD i false) 21) 18 = over (zW k.length) 0 (flat cdW k) := by
        show (if updL (fun i => listed.getD i false) 21 24 = true then _ else if updL (fun i => listed.getD i false) 21 21 = true then _ else _) = _
        rw [updL_ne (by decide), updL_at, q9]
        rfl
      refine wpOp_of rfl rfl (wp_append_room cdW _ _ 23 27 j0 rfl Try.underlying23 hj0 jz1 (G 18) 0 (k.length + 1) (zW k.length) e18 hbk _ k e20 (VD.out.d.2.fr J.fr) (by omega) (by simp [zW, size_madeCells, cdW]) ?_)
      rw [Nat.zero_add, Nat.zero_mul, ← hnw]
      exact ⟨_, rfl, _, by rw [toL hlt]; exact J.put 21 (by decide) 18 (by decide) h18 (by intro d hd; simp only [deps, List.mem_cons, List.not_mem_nil, or_false] at hd; subst hd; exact h18) (by intro j hj hne _; simp only [As, List.mem_cons, List.not_mem_nil, or_false] at hj; rcases hj with rfl | rfl | rfl | rfl | rfl <;> first | exact absurd rfl hne | rfl) (J.fr.row _ hge _) (setRow_new hbk) (fun b arr T hne hb => setRow_old hne hb)⟩
    · refine wpOp_call rfl (args := #[.int .i64 9, .string room]) (by simp [Act.eval, room]) (by kernel_rfl) (lwrite_any 9 room w9) ?_
      rintro e w2 ⟨rfl, f2⟩
      exact ⟨_, rfl, _, rfl, _, by rw [toL hlt]; exact J.pure 22 (by decide) (by intro d hd; cases hd) (by intro j hj _; simp only [As, List.mem_cons, List.not_mem_nil, or_false] at hj; rcases hj with rfl | rfl | rfl | rfl | rfl <;> rfl) f2⟩
    · have h22 := after_one hi rfl 22 (by decide)
      have e22 : A.eval (.tmp 40) = .agg #[.int .i64 9, .string room] := (HA 22 40 rfl (by show 40 < 144; decide) h22).trans (J.vl 22 h22)
      refine wpOp_slice rfl (y := row w9.heap.size 1 1) (w' := w9.alloc (.cells #[.int .i64 9, .string room] 27)) ?_ ⟨_, rfl, _, by rw [toL hlt]; exact J.new 23 (by decide) hno rfl (by intro j hj hne _; simp only [As, List.mem_cons, List.not_mem_nil, or_false] at hj; rcases hj with rfl | rfl | rfl | rfl | rfl <;> first | exact absurd rfl hne | rfl) rfl⟩
      simp only [List.map_toArray, List.map_cons, List.map_nil, e22]
      kernel_rfl
    · have h21 := after_one hi rfl 21 (by decide)
      have e21 : A.eval (.tmp 39) = row (G 18) k.length (k.length + 1) := (HA 21 39 rfl (by show 39 < 144; decide) h21).trans (J.vl 21 h21)
      have h23 := after_one hi rfl 23 (by decide)
      have e23 : A.eval (.tmp 41) = row (G 23) 1 1 := (HA 23 41 rfl (by show 41 < 144; decide) h23).trans (J.vl 23 h23)
      have h18 := J.dp 21 h21 18 (by decide)
      have hge := (J.bk 18 (by decide) h18).1
      have hbk : Blk w9 (G 18) (over (zW k.length) 0 (flat cdW k)) 27 := by
        have h9 := (J.bk 18 (by decide) h18).2
        rw [show cont l k G (fun i => listed.getD i false) 18 = over (zW k.length) 0 (flat cdW k) by show (if listed.getD 24 false = true then _ else if listed.getD 21 false = true then _ else _) = _; rw [hno, h21]; rfl] at h9
        exact h9
      have hnw : cont l k G (updL (fun i => listed.getD i false) 24) 18 = over (over (zW k.length) 0 (flat cdW k)) (k.length * cdW.k) (flat cdW [⟨9, room⟩]) := by
        rw [← flat_len cdW k, over_two _ _ _ (by rw [flat_len, flat_len]; simp [zW, size_madeCells, cdW]; try omega), ← flat_app]
        exact cont18 (updL_at _)
      refine wpOp_of rfl rfl (wp_append_room cdW _ _ 23 27 j0 rfl Try.underlying23 hj0 jz1 (G 18) k.length (k.length + 1) _ e21 hbk _ [⟨9, room⟩] e23 (isL_blk1 cdW (x := ⟨9, room⟩) (J.bk 23 (by decide) h23).2) (by simp) (by rw [over_size _ _ (by rw [flat_len]; simp [zW, size_madeCells, cdW]; try omega)]; simp [zW, size_madeCells, cdW]) ?_)
      rw [← hnw]
      exact ⟨_, rfl, _, by rw [toL hlt]; exact J.put 24 (by decide) 18 (by decide) h18 (by intro d hd; simp only [deps, List.mem_cons, List.not_mem_nil, or_false] at hd; rcases hd with rfl | rfl; exact h18; exact h21) (by intro j hj hne _; simp only [As, List.mem_cons, List.not_mem_nil, or_false] at hj; rcases hj with rfl | rfl | rfl | rfl | rfl <;> first | exact absurd rfl hne | rfl) (J.fr.row _ hge _) (setRow_new hbk) (fun b arr T hne hb => setRow_old hne hb)⟩
    · have e3 : A.eval (.tmp 3) = .pointer (some ⟨w.heap.size, 0, none⟩) := HO 3 (by decide)
      refine wpOp_is (Instr.fieldAt 25 (A.eval (.tmp 3)) 1) rfl rfl rfl (y := .pointer (some ⟨w.heap.size, 1, none⟩)) (w' := w9) ?_ ⟨_, rfl, _, by rw [toL hlt]; exact J.pure 25 (by decide) (by intro d hd; cases hd) (by intro j hj _; simp only [As, List.mem_cons, List.not_mem_nil, or_false] at hj; rcases hj with rfl | rfl | rfl | rfl | rfl <;> rfl) (Fr.refl _)⟩
      rw [e3]
      kernel_rfl
    · have h25 := after_one hi rfl 25 (by decide)
      have e25 : A.eval (.tmp 43) = .pointer (some ⟨w.heap.size, 1, none⟩) := (HA 25 43 rfl (by show 43 < 144; decide) h25).trans (J.vl 25 h25)
      refine wpOp_is (Instr.loadAt 23 (A.eval (.tmp 43))) rfl rfl rfl (y := .slice aq k.length dq) (w' := w9) ?_ ⟨_, rfl, _, by rw [toL hlt]; exact J.pure 26 (by decide) (by intro d hd; cases hd) (by intro j hj _; simp only [As, List.mem_cons, List.not_mem_nil, or_false] at hj; rcases hj with rfl | rfl | rfl | rfl | rfl <;> rfl) (Fr.refl _)⟩
      rw [e25]
      simp [go_sem, p0, p1]
    · have h26 := after_one hi rfl 26 (by decide)
      have e26 : A.eval (.tmp 44) = .slice aq k.length dq := (HA 26 44 rfl (by show 44 < 144; decide) h26).trans (J.vl 26 h26)
      exact wpOp_val rfl rfl (x := .int .i64 k.length) (w' := w9) (exec_len Try.underlying23 e26) ⟨_, rfl, _, by rw [toL hlt]; exact J.pure 27 (by decide) (by intro d hd; cases hd) (by intro j hj _; simp only [As, List.mem_cons, List.not_mem_nil, or_false] at hj; rcases hj with rfl | rfl | rfl | rfl | rfl <;> rfl) (Fr.refl _)⟩
    · have h24 := after_one hi rfl 24 (by decide)
      have e24 : A.eval (.tmp 42) = row (G 18) (k.length + 1) (k.length + 1) := (HA 24 42 rfl (by show 42 < 144; decide) h24).trans (J.vl 24 h24)
      have h27 := after_one hi rfl 27 (by decide)
      have e27 : A.eval (.tmp 45) = .int .i64 k.length := (HA 27 45 rfl (by show 45 < 144; decide) h27).trans (J.vl 27 h27)
      have h18 := J.dp 24 h24 18 (by decide)
      refine wpOp_is (Instr.sliceAt 23 (A.eval (.tmp 42)) none (some (A.eval (.tmp 45))) none) rfl rfl rfl (y := row (G 18) k.length (k.length + 1)) (w' := w9) ?_ ⟨_, rfl, _, by rw [toL hlt]; exact J.pure 28 (by decide) (by intro d hd; simp only [deps, List.mem_cons, List.not_mem_nil, or_false] at hd; subst hd; exact h18) (by intro j hj _; simp only [As, List.mem_cons, List.not_mem_nil, or_false] at hj; rcases hj with rfl | rfl | rfl | rfl | rfl <;> rfl) (Fr.refl _)⟩
      have c1 : ¬ ((k.length : Int) + 1 < (k.length : Int)) := by omega
      rw [e24, e27]
      simp [go_sem, row, c1]
    · have h13 := after_one hi rfl 13 (by decide)
      have e13 : A.eval (.tmp 31) = row (G 4) l.length (l.length + 1) := (HA 13 31 rfl (by show 31 < 144; decide) h13).trans (J.vl 13 h13)
      have h28 := after_one hi rfl 28 (by decide)
      have e28 : A.eval (.tmp 46) = row (G 18) k.length (k.length + 1) := (HA 28 46 rfl (by show 46 < 144; decide) h28).trans (J.vl 28 h28)
      have h4 := J.dp 13 h13 4 (by decide)
      have h18 := J.dp 28 h28 18 (by decide)
      refine wpOp_is (Instr.build 25 (#[(0, Operand.tmp 31), (1, Operand.tmp 46)].map fun (i, x) => (i, A.eval x))) rfl rfl rfl (y := .agg #[row (G 4) l.length (l.length + 1), row (G 18) k.length (k.length + 1)]) (w' := w9) ?_ ⟨_, rfl, _, by rw [toL hlt]; exact J.pure 29 (by decide) (by intro d hd; simp only [deps, List.mem_cons, List.not_mem_nil, or_false] at hd; rcases hd with rfl | rfl; exact h4; exact h18) (by intro j hj _; simp only [As, List.mem_cons, List.not_mem_nil, or_false] at hj; rcases hj with rfl | rfl | rfl | rfl | rfl <;> rfl) (Fr.refl _)⟩
      simp only [List.map_toArray, List.map_cons, List.map_nil, e13, e28]
      kernel_rfl
    · have q3 := J.no (k := 31) hno (by decide)
      have HA2 : cont l k (updG G 30 w9.heap.size) (updL (fun i => listed.getD i false) 30) 30 = #[.slice none 0 0, .slice none 0 0] := by
        show (if updL (fun i => listed.getD i false) 30 31 = true then _ else _) = _
        rw [updL_ne (by decide), q3]
        rfl
      exact wpOp_alloc rfl (y := .pointer (some ⟨w9.heap.size, 0, none⟩)) (w' := w9.alloc (.cells #[.slice none 0 0, .slice none 0 0] 25)) (by kernel_rfl) ⟨_, rfl, _, by rw [toL hlt]; exact J.new 30 (by decide) hno rfl (by intro j hj hne _; simp only [As, List.mem_cons, List.not_mem_nil, or_false] at hj; rcases hj with rfl | rfl | rfl | rfl | rfl <;> first | exact absurd rfl hne | rfl) HA2⟩
    · have h29 := after_one hi rfl 29 (by decide)
      have e29 : A.eval (.tmp 47) = .agg #[row (G 4) l.length (l.length + 1), row (G 18) k.length (k.length + 1)] := (HA 29 47 rfl (by show 47 < 144; decide) h29).trans (J.vl 29 h29)
      have h30 := after_one hi rfl 30 (by decide)
      have e30 : A.eval (.tmp 7) = .pointer (some ⟨G 30, 0, none⟩) := (HA 30 7 rfl (by show 7 < 144; decide) h30).trans (J.vl 30 h30)
      have h4 := J.dp 29 h29 4 (by decide)
      have h18 := J.dp 29 h29 18 (by decide)
      have hge := (J.bk 30 (by decide) h30).1
      have hbk : Blk w9 (G 30) #[.slice none 0 0, .slice none 0 0] 25 := by
        have h9 := (J.bk 30 (by decide) h30).2
        rw [show cont l k G (fun i => listed.getD i false) 30 = #[.slice none 0 0, .slice none 0 0] by show (if listed.getD 31 false = true then _ else _) = _; rw [hno]; rfl] at h9
        exact h9
      have hnw : cont l k G (updL (fun i => listed.getD i false) 31) 30 = #[row (G 4) l.length (l.length + 1), row (G 18) k.length (k.length + 1)] := by
        exact cont30 (updL_at _)
      refine wpOp_store rfl (w' := (w9.setCell ⟨G 30, 0, none⟩ (row (G 4) l.length (l.length + 1))).setCell ⟨G 30, 1, none⟩ (row (G 18) k.length (k.length + 1))) ?_ ⟨_, rfl, _, by rw [toL hlt]; exact J.put 31 (by decide) 30 (by decide) h30 (by intro d hd; simp only [deps, List.mem_cons, List.not_mem_nil, or_false] at hd; rcases hd with rfl | rfl | rfl; exact h4; exact h18; exact h30) (by intro j hj hne _; simp only [As, List.mem_cons, List.not_mem_nil, or_false] at hj; rcases hj with rfl | rfl | rfl | rfl | rfl <;> first | exact absurd rfl hne | rfl) (J.fr.set2 _ hge _ _) (by rw [hnw]; exact hbk.set2 _ _) (fun b arr T hne hb => (hb.other (Ne.symm hne) _ _).other (Ne.symm hne) _ _)⟩
      rw [e29, e30]
      obtain ⟨x0, x1, y0, y1⟩ := hbk.two
      simp [go_sem, x0, x1, y0, y1, row]
  · rintro listed v w9 hs ⟨G, J⟩ hr
    have l0 := ready_all hs hr (i := 0) rfl [] (by intro k hk; cases hk) (by decide)
    have l1 := ready_all hs hr (i := 1) rfl [0] (by simp only [List.mem_cons, List.not_mem_nil, or_false, forall_eq_or_imp, forall_eq]; exact l0) (by decide)
    have l2 := ready_all hs hr (i := 2) rfl [0, 1] (by simp only [List.mem_cons, List.not_mem_nil, or_false, forall_eq_or_imp, forall_eq]; exact ⟨l0, l1⟩) (by decide)
    have l3 := ready_all hs hr (i := 3) rfl [0, 1, 2] (by simp only [List.mem_cons, List.not_mem_nil, or_false, forall_eq_or_imp, forall_eq]; exact ⟨l0, l1, l2⟩) (by decide)
    have l4 := ready_all hs hr (i := 4) rfl [0, 1, 2, 3] (by simp only [List.mem_cons, List.not_mem_nil, or_false, forall_eq_or_imp, forall_eq]; exact ⟨l0, l1, l2, l3⟩) (by decide)
    have l5 := ready_all hs hr (i := 5) rfl [0, 1, 2, 3, 4] (by simp only [List.mem_cons, List.not_mem_nil, or_false, forall_eq_or_imp, forall_eq]; exact ⟨l0, l1, l2, l3, l4⟩) (by decide)
    have l6 := ready_all hs hr (i := 6) rfl [0, 1, 2, 3, 4, 5] (by simp only [List.mem_cons, List.not_mem_nil, or_false, forall_eq_or_imp, forall_eq]; exact ⟨l0, l1, l2, l3, l4, l5⟩) (by decide)
    have l7 := ready_all hs hr (i := 7) rfl [0, 1, 2, 3, 4, 5, 6] (by simp only [List.mem_cons, List.not_mem_nil, or_false, forall_eq_or_imp, forall_eq]; exact ⟨l0, l1, l2, l3, l4, l5, l6⟩) (by decide)
    have l8 := ready_all hs hr (i := 8) rfl [0, 1, 2, 3, 4, 5, 6, 7] (by simp only [List.mem_cons, List.not_mem_nil, or_false, forall_eq_or_imp, forall_eq]; exact ⟨l0, l1, l2, l3, l4, l5, l6, l7⟩) (by decide)
    have l9 := ready_all hs hr (i := 9) rfl [0, 1, 2, 3, 4, 5, 6, 7, 8] (by simp only [List.mem_cons, List.not_mem_nil, or_false, forall_eq_or_imp, forall_eq]; exact ⟨l0, l1, l2, l3, l4, l5, l6, l7, l8⟩) (by decide)
    have l10 := ready_all hs hr (i := 10) rfl [0, 1, 2, 3, 4, 5, 6, 7, 8, 9] (by simp only [List.mem_cons, List.not_mem_nil, or_false, forall_eq_or_imp, forall_eq]; exact ⟨l0, l1, l2, l3, l4, l5, l6, l7, l8, l9⟩) (by decide)
    have l11 := ready_all hs hr (i := 11) rfl [0, 1, 2, 3, 4, 5, 6, 7, 8, 9, 10] (by simp only [List.mem_cons, List.not_mem_nil, or_false, forall_eq_or_imp, forall_eq]; exact ⟨l0, l1, l2, l3, l4, l5, l6, l7, l8, l9, l10⟩) (by decide)
    have l12 := ready_all hs hr (i := 12) rfl [0, 1, 2, 3, 4, 5, 6, 7, 8, 9, 10, 11] (by simp only [List.mem_cons, List.not_mem_nil, or_false, forall_eq_or_imp, forall_eq]; exact ⟨l0, l1, l2, l3, l4, l5, l6, l7, l8, l9, l10, l11⟩) (by decide)
    have l13 := ready_all hs hr (i := 13) rfl [0, 1, 2, 3, 4, 5, 6, 7, 8, 9, 10, 11, 12] (by simp only [List.mem_cons, List.not_mem_nil, or_false, forall_eq_or_imp, forall_eq]; exact ⟨l0, l1, l2, l3, l4, l5, l6, l7, l8, l9, l10, l11, l12⟩) (by decide)
    have l14 := ready_all hs hr (i := 14) rfl [0, 1, 2, 3, 4, 5, 6, 7, 8, 9, 10, 11, 12, 13] (by simp only [List.mem_cons, List.not_mem_nil, or_false, forall_eq_or_imp, forall_eq]; exact ⟨l0, l1, l2, l3, l4, l5, l6, l7, l8, l9, l10, l11, l12, l13⟩) (by decide)
    have l15 := ready_all hs hr (i := 15) rfl [0, 1, 2, 3, 4, 5, 6, 7, 8, 9, 10, 11, 12, 13, 14] (by simp only [List.mem_cons, List.not_mem_nil, or_false, forall_eq_or_imp, forall_eq]; exact ⟨l0, l1, l2, l3, l4, l5, l6, l7, l8, l9, l10, l11, l12, l13, l14⟩) (by decide)
    have l16 := ready_all hs hr (i := 16) rfl [0, 1, 2, 3, 4, 5, 6, 7, 8, 9, 10, 11, 12, 13, 14, 15] (by simp only [List.mem_cons, List.not_mem_nil, or_false, forall_eq_or_imp, forall_eq]; exact ⟨l0, l1, l2, l3, l4, l5, l6, l7, l8, l9, l10, l11, l12, l13, l14, l15⟩) (by decide)
    have l17 := ready_all hs hr (i := 17) rfl [0, 1, 2, 3, 4, 5, 6, 7, 8, 9, 10, 11, 12, 13, 14, 15, 16] (by simp only [List.mem_cons, List.not_mem_nil, or_false, forall_eq_or_imp, forall_eq]; exact ⟨l0, l1, l2, l3, l4, l5, l6, l7, l8, l9, l10, l11, l12, l13, l14, l15, l16⟩) (by decide)
    have l18 := ready_all hs hr (i := 18) rfl [0, 1, 2, 3, 4, 5, 6, 7, 8, 9, 10, 11, 12, 13, 14, 15, 16, 17] (by simp only [List.mem_cons, List.not_mem_nil, or_false, forall_eq_or_imp, forall_eq]; exact ⟨l0, l1, l2, l3, l4, l5, l6, l7, l8, l9, l10, l11, l12, l13, l14, l15, l16, l17⟩) (by decide)
    have l19 := ready_all hs hr (i := 19) rfl [0, 1, 2, 3, 4, 5, 6, 7, 8, 9, 10, 11, 12, 13, 14, 15, 16, 17, 18] (by simp only [List.mem_cons, List.not_mem_nil, or_false, forall_eq_or_imp, forall_eq]; exact ⟨l0, l1, l2, l3, l4, l5, l6, l7, l8, l9, l10, l11, l12, l13, l14, l15, l16, l17, l18⟩) (by decide)
    have l20 := ready_all hs hr (i := 20) rfl [0, 1, 2, 3, 4, 5, 6, 7, 8, 9, 10, 11, 12, 13, 14, 15, 16, 17, 18, 19] (by simp only [List.mem_cons, List.not_mem_nil, or_false, forall_eq_or_imp, forall_eq]; exact ⟨l0, l1, l2, l3, l4, l5, l6, l7, l8, l9, l10, l11, l12, l13, l14, l15, l16, l17, l18, l19⟩) (by decide)
    have l21 := ready_all hs hr (i := 21) rfl [0, 1, 2, 3, 4, 5, 6, 7, 8, 9, 10, 11, 12, 13, 14, 15, 16, 17, 18, 19, 20] (by simp only [List.mem_cons, List.not_mem_nil, or_false, forall_eq_or_imp, forall_eq]; exact ⟨l0, l1, l2, l3, l4, l5, l6, l7, l8, l9, l10, l11, l12, l13, l14, l15, l16, l17, l18, l19, l20⟩) (by decide)
    have l22 := ready_all hs hr (i := 22) rfl [0, 1, 2, 3, 4, 5, 6, 7, 8, 9, 10, 11, 12, 13, 14, 15, 16, 17, 18, 19, 20, 21] (by simp only [List.mem_cons, List.not_mem_nil, or_false, forall_eq_or_imp, forall_eq]; exact ⟨l0, l1, l2, l3, l4, l5, l6, l7, l8, l9, l10, l11, l12, l13, l14, l15, l16, l17, l18, l19, l20, l21⟩) (by decide)
    have l23 := ready_all hs hr (i := 23) rfl [0, 1, 2, 3, 4, 5, 6, 7, 8, 9, 10, 11, 12, 13, 14, 15, 16, 17, 18, 19, 20, 21, 22] (by simp only [List.mem_cons, List.not_mem_nil, or_false, forall_eq_or_imp, forall_eq]; exact ⟨l0, l1, l2, l3, l4, l5, l6, l7, l8, l9, l10, l11, l12, l13, l14, l15, l16, l17, l18, l19, l20, l21, l22⟩) (by decide)
    have l24 := ready_all hs hr (i := 24) rfl [0, 1, 2, 3, 4, 5, 6, 7, 8, 9, 10, 11, 12, 13, 14, 15, 16, 17, 18, 19, 20, 21, 22, 23] (by simp only [List.mem_cons, List.not_mem_nil, or_false, forall_eq_or_imp, forall_eq]; exact ⟨l0, l1, l2, l3, l4, l5, l6, l7, l8, l9, l10, l11, l12, l13, l14, l15, l16, l17, l18, l19, l20, l21, l22, l23⟩) (by decide)
    have l25 := ready_all hs hr (i := 25) rfl [0, 1, 2, 3, 4, 5, 6, 7, 8, 9, 10, 11, 12, 13, 14, 15, 16, 17, 18, 19, 20, 21, 22, 23, 24] (by simp only [List.mem_cons, List.not_mem_nil, or_false, forall_eq_or_imp, forall_eq]; exact ⟨l0, l1, l2, l3, l4, l5, l6, l7, l8, l9, l10, l11, l12, l13, l14, l15, l16, l17, l18, l19, l20, l21, l22, l23, l24⟩) (by decide)
    have l26 := ready_all hs hr (i := 26) rfl [0, 1, 2, 3, 4, 5, 6, 7, 8, 9, 10, 11, 12, 13, 14, 15, 16, 17, 18, 19, 20, 21, 22, 23, 24, 25] (by simp only [List.mem_cons, List.not_mem_nil, or_false, forall_eq_or_imp, forall_eq]; exact ⟨l0, l1, l2, l3, l4, l5, l6, l7, l8, l9, l10, l11, l12, l13, l14, l15, l16, l17, l18, l19, l20, l21, l22, l23, l24, l25⟩) (by decide)
    have l27 := ready_all hs hr (i := 27) rfl [0, 1, 2, 3, 4, 5, 6, 7, 8, 9, 10, 11, 12, 13, 14, 15, 16, 17, 18, 19, 20, 21, 22, 23, 24, 25, 26] (by simp only [List.mem_cons, List.not_mem_nil, or_false, forall_eq_or_imp, forall_eq]; exact ⟨l0, l1, l2, l3, l4, l5, l6, l7, l8, l9, l10, l11, l12, l13, l14, l15, l16, l17, l18, l19, l20, l21, l22, l23, l24, l25, l26⟩) (by decide)
    have l28 := ready_all hs hr (i := 28) rfl [0, 1, 2, 3, 4, 5, 6, 7, 8, 9, 10, 11, 12, 13, 14, 15, 16, 17, 18, 19, 20, 21, 22, 23, 24, 25, 26, 27] (by simp only [List.mem_cons, List.not_mem_nil, or_false, forall_eq_or_imp, forall_eq]; exact ⟨l0, l1, l2, l3, l4, l5, l6, l7, l8, l9, l10, l11, l12, l13, l14, l15, l16, l17, l18, l19, l20, l21, l22, l23, l24, l25, l26, l27⟩) (by decide)
    have l29 := ready_all hs hr (i := 29) rfl [0, 1, 2, 3, 4, 5, 6, 7, 8, 9, 10, 11, 12, 13, 14, 15, 16, 17, 18, 19, 20, 21, 22, 23, 24, 25, 26, 27, 28] (by simp only [List.mem_cons, List.not_mem_nil, or_false, forall_eq_or_imp, forall_eq]; exact ⟨l0, l1, l2, l3, l4, l5, l6, l7, l8, l9, l10, l11, l12, l13, l14, l15, l16, l17, l18, l19, l20, l21, l22, l23, l24, l25, l26, l27, l28⟩) (by decide)
    have l30 := ready_all hs hr (i := 30) rfl [0, 1, 2, 3, 4, 5, 6, 7, 8, 9, 10, 11, 12, 13, 14, 15, 16, 17, 18, 19, 20, 21, 22, 23, 24, 25, 26, 27, 28, 29] (by simp only [List.mem_cons, List.not_mem_nil, or_false, forall_eq_or_imp, forall_eq]; exact ⟨l0, l1, l2, l3, l4, l5, l6, l7, l8, l9, l10, l11, l12, l13, l14, l15, l16, l17, l18, l19, l20, l21, l22, l23, l24, l25, l26, l27, l28, l29⟩) (by decide)
    have l31 := ready_all hs hr (i := 31) rfl [0, 1, 2, 3, 4, 5, 6, 7, 8, 9, 10, 11, 12, 13, 14, 15, 16, 17, 18, 19, 20, 21, 22, 23, 24, 25, 26, 27, 28, 29, 30] (by simp only [List.mem_cons, List.not_mem_nil, or_false, forall_eq_or_imp, forall_eq]; exact ⟨l0, l1, l2, l3, l4, l5, l6, l7, l8, l9, l10, l11, l12, l13, l14, l15, l16, l17, l18, l19, l20, l21, l22, l23, l24, l25, l26, l27, l28, l29, l30⟩) (by decide)
    change Exit.then _ _ .normal (putL _ listed v [0, 1, 2, 3, 4, 5, 6, 7, 8, 9, 10, 11, 12, 13, 14, 15, 16, 17, 18, 19, 20, 21, 22, 23, 24, 25, 26, 27, 28, 29, 30, 31] _) w9
    simp only [putL, l0, l1, l2, l3, l4, l5, l6, l7, l8, l9, l10, l11, l12, l13, l14, l15, l16, l17, l18, l19, l20, l21, l22, l23, l24, l25, l26, l27, l28, l29, l30, l31, if_true]
    change Exit.then _ _ .normal (Act.put (Act.put (Act.put (Act.put (Act.put (Act.put (Act.put (Act.put (Act.put (Act.put (Act.put (Act.put (Act.put (Act.put (Act.put (Act.put (Act.put (Act.put (Act.put (Act.put (Act.put (Act.put (Act.put (Act.put (Act.put (Act.put (Act.put (Act.put (Act.put (Act.put (Act.put (Act.put _ (some 18) (v 0)) (some 19) (v 1)) (some 20) (v 2)) (some 21) (v 3)) (some 22) (v 4)) (some 23) (v 5)) (some 24) (v 6)) (some 25) (v 7)) (some 26) (v 8)) (some 27) (v 9)) (some 28) (v 10)) (some 29) (v 11)) (some 30) (v 12)) (some 31) (v 13)) (some 32) (v 14)) (some 33) (v 15)) (some 34) (v 16)) (some 35) (v 17)) (some 36) (v 18)) (some 37) (v 19)) (some 38) (v 20)) (some 39) (v 21)) (some 40) (v 22)) (some 41) (v 23)) (some 42) (v 24)) (some 43) (v 25)) (some 44) (v 26)) (some 45) (v 27)) (some 46) (v 28)) (some 47) (v 29)) (some 7) (v 30)) none (v 31)) w9
    have hv : v 30 = .pointer (some ⟨G 30, 0, none⟩) := J.vl 30 l30
    rw [hv]
    have hbu := (J.bk 30 (by decide) l30).2
    have hb4 := (J.bk 4 (by decide) l4).2
    have hb18 := (J.bk 18 (by decide) l18).2
    rw [cont30 (show (fun i => listed.getD i false) 31 = true from l31)] at hbu
    rw [cont4 (show (fun i => listed.getD i false) 9 = true from l9)] at hb4
    rw [cont18 (show (fun i => listed.getD i false) 24 = true from l24)] at hb18
    have VU : Hid (DV w9 (G 30) (row (G 4) l.length (l.length + 1)) (row (G 18) k.length (k.length + 1)) ⟨l, k⟩) := ⟨hbu, isL_head hb4, isL_head hb18⟩
    have B4 : Hid (Blk w9 (G 4) (flat cdP (l ++ [room])).toArray 9) := hb4
    have B18 : Hid (Blk w9 (G 18) (flat cdW (k ++ [⟨9, room⟩])).toArray 27) := hb18
    replace HF := hideP (HF.out.trans J.fr)
    replace VD := hideP (VD.out.fr J.fr)
    clear J hr hs hv hbu hb4 hb18 l0 l1 l2 l3 l4 l5 l6 l7 l8 l9 l10 l11 l12 l13 l14 l15 l16 l17 l18 l19 l20 l21 l22 l23 l24 l25 l26 l27 l28 l29 l30 l31
    generalize G 4 = g4 at VU B4
    generalize G 18 = g18 at VU B18
    generalize G 30 = g30 at VU ⊢
    unfold row at VU
    clear hW hbW
    have F9 : Hid (Fr w9 w9) := Fr.refl w9
    have DU := VU
    have DD := VD
    have U9 := VU
    have D9 := VD
    have P9 := B4
    have Q9 := B18
    have H9 := HF
    clear VU VD
    obtain ⟨kU0, kU1, _, _⟩ := DU.out.b.two
    have c1 := write_any _ _ ⟨l, k⟩ no s w9 DU.out.d hb.pl
    go_wp2_with fail
    refine c1.mono ?_
    rintro _ w1 ⟨px, qx, rfl, ox, f1⟩
    clear c1
    clear kU0 kU1
    obtain ⟨ax, nx, dx, rfl⟩ := own_slice' ox.pg
    obtain ⟨ex, mx, hx, rfl⟩ := own_slice' ox.wt
    have NV := DV.new ox.is
    have g1 : Fr w9 (w1.alloc (.cells #[.slice ax nx dx, .slice ex mx hx] 25)) := f1.alloc _
    replace ox := ox.fr ((Fr.refl w1).alloc (.cells #[.slice ax nx dx, .slice ex mx hx] 25))
    have Ox : Hid (OwnD w9.heap.size (w1.alloc (.cells #[.slice ax nx dx, .slice ex mx hx] 25)) (.slice ax nx dx) (.slice ex mx hx) _) := ⟨own_low ox.pg F9.out.size, own_low ox.wt F9.out.size⟩
    replace DD := hideP (DD.out.fr g1)
    replace DU := hideP (DU.out.fr g1)
    replace HF := hideP (HF.out.trans g1)
    replace B4 := hideP (B4.out.fr g1)
    replace B18 := hideP (B18.out.fr g1)
    replace F9 := hideP (F9.out.trans g1)
    have Dx := hideP NV
    clear NV g1 f1 ox
    obtain ⟨kU0, kU1, _, _⟩ := DU.out.b.two
    have c2 := sync_any _ _ ⟨l, k⟩ (w1.alloc (.cells #[.slice ax nx dx, .slice ex mx hx] 25)) DU.out.d hb.pl
    go_wp2_with fail
    refine c2.mono ?_
    rintro _ w2 ⟨py, qy, rfl, oy, f2⟩
    clear c2
    clear kU0 kU1
    obtain ⟨ay, ny, dy, rfl⟩ := own_slice' oy.pg
    obtain ⟨ey, my, hy, rfl⟩ := own_slice' oy.wt
    have NV := DV.new oy.is
    have g2 : Fr (w1.alloc (.cells #[.slice ax nx dx, .slice ex mx hx] 25)) (w2.alloc (.cells #[.slice ay ny dy, .slice ey my hy] 25)) := f2.alloc _
    replace oy := oy.fr ((Fr.refl w2).alloc (.cells #[.slice ay ny dy, .slice ey my hy] 25))
    have Oy : Hid (OwnD w9.heap.size (w2.alloc (.cells #[.slice ay ny dy, .slice ey my hy] 25)) (.slice ay ny dy) (.slice ey my hy) _) := ⟨own_low oy.pg F9.out.size, own_low oy.wt F9.out.size⟩
    replace DD := hideP (DD.out.fr g2)
    replace DU := hideP (DU.out.fr g2)
    replace Dx := hideP (Dx.out.fr g2)
    replace HF := hideP (HF.out.trans g2)
    replace B4 := hideP (B4.out.fr g2)
    replace B18 := hideP (B18.out.fr g2)
    replace F9 := hideP (F9.out.trans g2)
    replace Ox := hideP (Ox.out.fr g2)
    have Dy := hideP NV
    clear NV g2 f2 oy
    obtain ⟨kU0, kU1, _, _⟩ := DU.out.b.two
    have c3 := crash_any _ _ ⟨l, k⟩ 0 (w2.alloc (.cells #[.slice ay ny dy, .slice ey my hy] 25)) DU.out.d hb.pl (by decide)
    go_wp2_with fail
    refine c3.mono ?_
    rintro _ w3 ⟨pz, qz, rfl, oz, f3⟩
    clear c3
    clear kU0 kU1
    obtain ⟨az, nz, dz, rfl⟩ := own_slice' oz.pg
    obtain ⟨ez, mz, hz, rfl⟩ := own_slice' oz.wt
    have NV := DV.new oz.is
    have g3 : Fr (w2.alloc (.cells #[.slice ay ny dy, .slice ey my hy] 25)) (w3.alloc (.cells #[.slice az nz dz, .slice ez mz hz] 25)) := f3.alloc _
    replace oz := oz.fr ((Fr.refl w3).alloc (.cells #[.slice az nz dz, .slice ez mz hz] 25))
    have Oz : Hid (OwnD w9.heap.size (w3.alloc (.cells #[.slice az nz dz, .slice ez mz hz] 25)) (.slice az nz dz) (.slice ez mz hz) _) := ⟨own_low oz.pg F9.out.size, own_low oz.wt F9.out.size⟩
    replace DD := hideP (DD.out.fr g3)
    replace DU := hideP (DU.out.fr g3)
    replace Dx := hideP (Dx.out.fr g3)
    replace Dy := hideP (Dy.out.fr g3)
    replace HF := hideP (HF.out.trans g3)
    replace B4 := hideP (B4.out.fr g3)
    replace B18 := hideP (B18.out.fr g3)
    replace F9 := hideP (F9.out.trans g3)
    replace Ox := hideP (Ox.out.fr g3)
    replace Oy := hideP (Oy.out.fr g3)
    have Dz := hideP NV
    clear NV g3 f3 oz
    have c4 := diskBegun_any (w3.alloc (.cells #[.slice az nz dz, .slice ez mz hz] 25))
    go_wp2_with fail
    refine c4.mono ?_
    rintro _ w4 ⟨rfl, f4⟩
    clear c4
    replace DD := hideP (DD.out.fr f4)
    replace DU := hideP (DU.out.fr f4)
    replace Dx := hideP (Dx.out.fr f4)
    replace Dy := hideP (Dy.out.fr f4)
    replace Dz := hideP (Dz.out.fr f4)
    replace HF := hideP (HF.out.trans f4)
    replace B4 := hideP (B4.out.fr f4)
    replace B18 := hideP (B18.out.fr f4)
    replace F9 := hideP (F9.out.trans f4)
    replace Ox := hideP (Ox.out.fr f4)
    replace Oy := hideP (Oy.out.fr f4)
    replace Oz := hideP (Oz.out.fr f4)
    clear f4
    obtain ⟨kx0, kx1, _, _⟩ := Dx.out.b.two
    obtain ⟨ky0, ky1, _, _⟩ := Dy.out.b.two
    obtain ⟨kz0, kz1, _, _⟩ := Dz.out.b.two
    go_wp2_with fail
    clear kx0 kx1 ky0 ky1 kz0 kz1
    generalize hT : w4.heap.size = T
    have hst : St w9 T (tri ax ay az) (tri ex ey ez) (tri nx ny nz) (tri mx my mz) (tri dx dy dz) (tri hx hy hz) (w4.alloc (Obj.cells #[Value.slice ax nx dx, Value.slice ex mx hx, Value.slice ay ny dy, Value.slice ey my hy, Value.slice az nz dz, Value.slice ez mz hz] 25)) := by
      have fa := (Fr.refl w4).alloc (Obj.cells #[Value.slice ax nx dx, Value.slice ex mx hx, Value.slice ay ny dy, Value.slice ey my hy, Value.slice az nz dz, Value.slice ez mz hz] 25)
      refine ⟨F9.out.trans fa, by rw [← hT]; exact F9.out.size, by rw [← hT]; exact Blk.new w4 _ _, fun i hi => ?_, fun i hi => ?_⟩
      · rcases (show i = 0 ∨ i = 1 ∨ i = 2 by omega) with rfl | rfl | rfl
        · exact ⟨_, _, own_fr Ox.out.pg fa⟩
        · exact ⟨_, _, own_fr Oy.out.pg fa⟩
        · exact ⟨_, _, own_fr Oz.out.pg fa⟩
      · rcases (show i = 0 ∨ i = 1 ∨ i = 2 by omega) with rfl | rfl | rfl
        · exact ⟨_, _, own_fr Ox.out.wt fa⟩
        · exact ⟨_, _, own_fr Oy.out.wt fa⟩
        · exact ⟨_, _, own_fr Oz.out.wt fa⟩
    generalize hX : w4.alloc (Obj.cells #[Value.slice ax nx dx, Value.slice ex mx hx, Value.slice ay ny dy, Value.slice ey my hy, Value.slice az nz dz, Value.slice ez mz hz] 25) = X at hst
    generalize tri ax ay az = aP at hst
    generalize tri ex ey ez = aQ at hst
    generalize tri nx ny nz = nP at hst
    generalize tri mx my mz = nQ at hst
    generalize tri dx dy dz = cP at hst
    generalize tri hx hy hz = cQ at hst
    have HST := hideP hst
    clear hst hX hT
    go_loopg [15] 3 (fun g iv wr => ∃ i : Nat, iv = .int .i64 i ∧ i + g = 3 ∧ Hid (St w9 T aP aQ nP nQ cP cQ wr))
    case atStart => exact ⟨0, rfl, rfl, HST.out⟩
    case round =>
      obtain ⟨i, rfl, hi3, HS⟩ := hrel
      cases gk with
      | zero =>
        obtain rfl : i = 3 := by omega
        have U := hideP (U9.out.fr HS.out.fr)
        have D := hideP (D9.out.fr HS.out.fr)
        have R4 := hideP (P9.out.fr HS.out.fr)
        have R18 := hideP (Q9.out.fr HS.out.fr)
        have H0 := hideP (H9.out.trans HS.out.fr)
        clear U9 D9 P9 Q9 H9
        go_upto_region 19 with fail
        refine region_inv2 rfl (fun listed v w9' => RJ wr [] (fun _ => 0) (fun _ => []) (val19 w.heap.size g4 g18 g30 ap aq dp dq l.length k.length) (fun _ _ _ => #[]) (fun _ => 0) (fun i => listed.getD i false) v w9') ?_ ?_ ?_ ?_
        · refine ⟨Fr.drew (Fr.refl wr), ?_, ?_, ?_, ?_⟩
          · intro i h; have h : (Array.replicate 35 false).getD i false = true := h; rw [show (Array.replicate 35 false).getD i false = false by unfold Array.getD; split <;> simp] at h; cases h
          · intro i h; cases h
          · intro i h; cases h
          · intro i _ d hd; cases hd
        · decide
        · intro listed v w9' A hs J HA HO i hi
          have hi1 := (ready_spec hi).1
          have hlt9 : i < listed.size := by rw [hs]; exact hi1
          have hi35 : i < 35 := hi1
          have u0 := (U.out.b.fr J.fr).cell 0 rfl
          have u1 := (U.out.b.fr J.fr).cell 1 rfl
          have d0 := (D.out.b.fr J.fr).cell 0 rfl
          have d1 := (D.out.b.fr J.fr).cell 1 rfl
          have r4 : w9'.cell? ⟨g4, l.length, none⟩ = some (.string room) := (R4.out.fr J.fr).cell _ (last_P l room)
          have r18 : w9'.cell? ⟨g18, k.length * 2, none⟩ = some (.int .i64 9) := (R18.out.fr J.fr).cell _ (last_W0 k ⟨9, room⟩)
          have s18 : w9'.cell? ⟨g18, k.length * 2 + 1, none⟩ = some (.string room) := (R18.out.fr J.fr).cell _ (last_W1 k ⟨9, room⟩)
          have hn1 : IntKind.i64.wrap ((l.length : Int) + 1) = ((l.length + 1 : Nat) : Int) := by rw [IntKind.wrap_i64]; omega
          have hm1 : IntKind.i64.wrap ((k.length : Int) + 1) = ((k.length + 1 : Nat) : Int) := by rw [IntKind.wrap_i64]; omega
          have t7 : A.eval (.tmp 7) = .pointer (some ⟨g30, 0, none⟩) := HO 7 (by decide)
          have t3 : A.eval (.tmp 3) = .pointer (some ⟨w.heap.size, 0, none⟩) := HO 3 (by decide)
          have pu : ∀ (i : Nat) (w' : World), Fr w9' w' → RJ wr [] (fun _ => 0) (fun _ => []) (val19 w.heap.size g4 g18 g30 ap aq dp dq l.length k.length) (fun _ _ _ => #[]) (fun _ => 0) (updL (fun i => listed.getD i false) i) (upd v i (val19 w.heap.size g4 g18 g30 ap aq dp dq l.length k.length i [])) w' := fun i w' f => J.pure i (by intro h; cases h) (by intro d hd; cases hd) (by intro j hj; cases hj) f
          rcases (show i = 0 ∨ i = 1 ∨ i = 2 ∨ i = 3 ∨ i = 4 ∨ i = 5 ∨ i = 6 ∨ i = 7 ∨ i = 8 ∨ i = 9 ∨ i = 10 ∨ i = 11 ∨ i = 12 ∨ i = 13 ∨ i = 14 ∨ i = 15 ∨ i = 16 ∨ i = 17 ∨ i = 18 ∨ i = 19 ∨ i = 20 ∨ i = 21 ∨ i = 22 ∨ i = 23 ∨ i = 24 ∨ i = 25 ∨ i = 26 ∨ i = 27 ∨ i = 28 ∨ i = 29 ∨ i = 30 ∨ i = 31 ∨ i = 32 ∨ i = 33 ∨ i = 34 by omega) with rfl | rfl | rfl | rfl | rfl | rfl | rfl | rfl | rfl | rfl | rfl | rfl | rfl | rfl | rfl | rfl | rfl | rfl | rfl | rfl | rfl | rfl | rfl | rfl | rfl | rfl | rfl | rfl | rfl | rfl | rfl | rfl | rfl | rfl | rfl
          · refine wpOp_is (Instr.loadAt 25 (A.eval (.tmp 7))) rfl rfl rfl (y := .agg #[.slice (some ⟨g4, 0, none⟩) l.length (l.length + 1), .slice (some ⟨g18, 0, none⟩) k.length (k.length + 1)]) (w' := w9') ?_ ⟨_, rfl, by rw [toL hlt9]; exact pu 0 _ (Fr.refl _)⟩
            rw [t7]
            simp [go_sem, u0, u1]
          · refine wpOp_is (Instr.loadAt 25 (A.eval (.tmp 3))) rfl rfl rfl (y := .agg #[.slice ap l.length dp, .slice aq k.length dq]) (w' := w9') ?_ ⟨_, rfl, by rw [toL hlt9]; exact pu 1 _ (Fr.refl _)⟩
            rw [t3]
            simp [go_sem, d0, d1]
          · have h0 := after_one hi rfl 0 (by decide)
            have e0 : A.eval (.tmp 110) = .agg #[.slice (some ⟨g4, 0, none⟩) l.length (l.length + 1), .slice (some ⟨g18, 0, none⟩) k.length (k.length + 1)] := (HA 0 110 rfl (by show 110 < 144; decide) h0).trans (J.vl 0 h0)
            have h1 := after_one hi rfl 1 (by decide)
            have e1 : A.eval (.tmp 111) = .agg #[.slice ap l.length dp, .slice aq k.length dq] := (HA 1 111 rfl (by show 111 < 144; decide) h1).trans (J.vl 1 h1)
            refine wpOp_call rfl (args := #[.agg #[.slice (some ⟨g4, 0, none⟩) l.length (l.length + 1), .slice (some ⟨g18, 0, none⟩) k.length (k.length + 1)], .agg #[.slice ap l.length dp, .slice aq k.length dq]]) (by simp only [List.map_toArray, List.map_cons, List.map_nil, e0, e1]) (by kernel_rfl) (sameDisk_eq _ _ _ _ ⟨l, k⟩ w9' (U.out.d.fr J.fr) (D.out.d.fr J.fr) hb.pl hb.wl) ?_
            rintro e w2 ⟨rfl, f2⟩
            exact ⟨_, rfl, _, rfl, by rw [toL hlt9]; exact pu 2 _ f2⟩
          · have h2 := after_one hi rfl 2 (by decide)
            have e2 : A.eval (.tmp 112) = .bool true := (HA 2 112 rfl (by show 112 < 144; decide) h2).trans (J.vl 2 h2)
            exact wpOp_move rfl (y := .bool true) e2 ⟨_, rfl, by rw [toL hlt9]; exact pu 3 _ (Fr.refl _)⟩
          · have h3 := after_one hi rfl 3 (by decide)
            have e3 : A.eval (.tmp 113) = .bool true := (HA 3 113 rfl (by show 113 < 144; decide) h3).trans (J.vl 3 h3)
            refine wpOp_gis (Instr.fieldAt 25 (A.eval (.tmp 7)) 0) rfl (wanted_of rfl rfl e3) rfl (y := .pointer (some ⟨g30, 0, none⟩)) (w' := w9') ?_ ⟨_, rfl, by rw [toL hlt9]; exact pu 4 _ (Fr.refl _)⟩
            rw [t7]
            kernel_rfl
          · have h3 := after_one hi rfl 3 (by decide)
            have e3 : A.eval (.tmp 113) = .bool true := (HA 3 113 rfl (by show 113 < 144; decide) h3).trans (J.vl 3 h3)
            have h4 := after_one hi rfl 4 (by decide)
            have e4 : A.eval (.tmp 114) = .pointer (some ⟨g30, 0, none⟩) := (HA 4 114 rfl (by show 114 < 144; decide) h4).trans (J.vl 4 h4)
            refine wpOp_gis (Instr.loadAt 22 (A.eval (.tmp 114))) rfl (wanted_of rfl rfl e3) rfl (y := .slice (some ⟨g4, 0, none⟩) l.length (l.length + 1)) (w' := w9') ?_ ⟨_, rfl, by rw [toL hlt9]; exact pu 5 _ (Fr.refl _)⟩
            rw [e4]
            simp [go_sem, u0, u1]
          · have h3 := after_one hi rfl 3 (by decide)
            have e3 : A.eval (.tmp 113) = .bool true := (HA 3 113 rfl (by show 113 < 144; decide) h3).trans (J.vl 3 h3)
            refine wpOp_gis (Instr.fieldAt 25 (A.eval (.tmp 3)) 0) rfl (wanted_of rfl rfl e3) rfl (y := .pointer (some ⟨w.heap.size, 0, none⟩)) (w' := w9') ?_ ⟨_, rfl, by rw [toL hlt9]; exact pu 6 _ (Fr.refl _)⟩
            rw [t3]
            kernel_rfl
          · have h3 := after_one hi rfl 3 (by decide)
            have e3 : A.eval (.tmp 113) = .bool true := (HA 3 113 rfl (by show 113 < 144; decide) h3).trans (J.vl 3 h3)
            have h6 := after_one hi rfl 6 (by decide)
            have e6 : A.eval (.tmp 116) = .pointer (some ⟨w.heap.size, 0, none⟩) := (HA 6 116 rfl (by show 116 < 144; decide) h6).trans (J.vl 6 h6)
            refine wpOp_gis (Instr.loadAt 22 (A.eval (.tmp 116))) rfl (wanted_of rfl rfl e3) rfl (y := .slice ap l.length dp) (w' := w9') ?_ ⟨_, rfl, by rw [toL hlt9]; exact pu 7 _ (Fr.refl _)⟩
            rw [e6]
            simp [go_sem, d0, d1]
          · have h3 := after_one hi rfl 3 (by decide)
            have e3 : A.eval (.tmp 113) = .bool true := (HA 3 113 rfl (by show 113 < 144; decide) h3).trans (J.vl 3 h3)
            have h7 := after_one hi rfl 7 (by decide)
            have e7 : A.eval (.tmp 117) = .slice ap l.length dp := (HA 7 117 rfl (by show 117 < 144; decide) h7).trans (J.vl 7 h7)
            exact wpOp_gval rfl (wanted_of rfl rfl e3) (x := .int .i64 l.length) (w' := w9') (exec_len Try.underlying22 e7) ⟨_, rfl, by rw [toL hlt9]; exact pu 8 _ (Fr.refl _)⟩
          · have h3 := after_one hi rfl 3 (by decide)
            have e3 : A.eval (.tmp 113) = .bool true := (HA 3 113 rfl (by show 113 < 144; decide) h3).trans (J.vl 3 h3)
            have h8 := after_one hi rfl 8 (by decide)
            have e8 : A.eval (.tmp 118) = .int .i64 l.length := (HA 8 118 rfl (by show 118 < 144; decide) h8).trans (J.vl 8 h8)
            refine wpOp_gis (do eqGuard .add 3 (.tmp 118) (.const (.int .i64 1)) (A.eval (.tmp 118)) (.int .i64 1); binOp .add 3 (A.eval (.tmp 118)) (.int .i64 1)) rfl (wanted_of rfl rfl e3) rfl (y := .int .i64 (l.length + 1 : Nat)) (w' := w9') ?_ ⟨_, rfl, by rw [toL hlt9]; exact pu 9 _ (Fr.refl _)⟩
            rw [e8]
            simp [go_sem, eqGuard, hn1]
          · have h3 := after_one hi rfl 3 (by decide)
            have e3 : A.eval (.tmp 113) = .bool true := (HA 3 113 rfl (by show 113 < 144; decide) h3).trans (J.vl 3 h3)
            have h5 := after_one hi rfl 5 (by decide)
            have e5 : A.eval (.tmp 115) = .slice (some ⟨g4, 0, none⟩) l.length (l.length + 1) := (HA 5 115 rfl (by show 115 < 144; decide) h5).trans (J.vl 5 h5)
            have h9 := after_one hi rfl 9 (by decide)
            have e9 : A.eval (.tmp 119) = .int .i64 (l.length + 1 : Nat) := (HA 9 119 rfl (by show 119 < 144; decide) h9).trans (J.vl 9 h9)
            refine wpOp_gis (Instr.sliceAt 22 (A.eval (.tmp 115)) none (some (A.eval (.tmp 119))) none) rfl (wanted_of rfl rfl e3) rfl (y := .slice (some ⟨g4, 0, none⟩) (l.length + 1) (l.length + 1)) (w' := w9') ?_ ⟨_, rfl, by rw [toL hlt9]; exact pu 10 _ (Fr.refl _)⟩
            rw [e5, e9]
            simp [go_sem, show ¬ ((l.length : Int) + 1 < 0) by omega, show ¬ ((k.length : Int) + 1 < 0) by omega]
          · have h3 := after_one hi rfl 3 (by decide)
            have e3 : A.eval (.tmp 113) = .bool true := (HA 3 113 rfl (by show 113 < 144; decide) h3).trans (J.vl 3 h3)
            refine wpOp_gis (Instr.fieldAt 25 (A.eval (.tmp 3)) 0) rfl (wanted_of rfl rfl e3) rfl (y := .pointer (some ⟨w.heap.size, 0, none⟩)) (w' := w9') ?_ ⟨_, rfl, by rw [toL hlt9]; exact pu 11 _ (Fr.refl _)⟩
            rw [t3]
            kernel_rfl
          · have h3 := after_one hi rfl 3 (by decide)
            have e3 : A.eval (.tmp 113) = .bool true := (HA 3 113 rfl (by show 113 < 144; decide) h3).trans (J.vl 3 h3)
            have h11 := after_one hi rfl 11 (by decide)
            have e11 : A.eval (.tmp 121) = .pointer (some ⟨w.heap.size, 0, none⟩) := (HA 11 121 rfl (by show 121 < 144; decide) h11).trans (J.vl 11 h11)
            refine wpOp_gis (Instr.loadAt 22 (A.eval (.tmp 121))) rfl (wanted_of rfl rfl e3) rfl (y := .slice ap l.length dp) (w' := w9') ?_ ⟨_, rfl, by rw [toL hlt9]; exact pu 12 _ (Fr.refl _)⟩
            rw [e11]
            simp [go_sem, d0, d1]
          · have h3 := after_one hi rfl 3 (by decide)
            have e3 : A.eval (.tmp 113) = .bool true := (HA 3 113 rfl (by show 113 < 144; decide) h3).trans (J.vl 3 h3)
            have h12 := after_one hi rfl 12 (by decide)
            have e12 : A.eval (.tmp 122) = .slice ap l.length dp := (HA 12 122 rfl (by show 122 < 144; decide) h12).trans (J.vl 12 h12)
            exact wpOp_gval rfl (wanted_of rfl rfl e3) (x := .int .i64 l.length) (w' := w9') (exec_len Try.underlying22 e12) ⟨_, rfl, by rw [toL hlt9]; exact pu 13 _ (Fr.refl _)⟩
          · have h3 := after_one hi rfl 3 (by decide)
            have e3 : A.eval (.tmp 113) = .bool true := (HA 3 113 rfl (by show 113 < 144; decide) h3).trans (J.vl 3 h3)
            have h10 := after_one hi rfl 10 (by decide)
            have e10 : A.eval (.tmp 120) = .slice (some ⟨g4, 0, none⟩) (l.length + 1) (l.length + 1) := (HA 10 120 rfl (by show 120 < 144; decide) h10).trans (J.vl 10 h10)
            have h13 := after_one hi rfl 13 (by decide)
            have e13 : A.eval (.tmp 123) = .int .i64 l.length := (HA 13 123 rfl (by show 123 < 144; decide) h13).trans (J.vl 13 h13)
            refine wpOp_gis (Instr.indexAt 22 (A.eval (.tmp 120)) (A.eval (.tmp 123))) rfl (wanted_of rfl rfl e3) rfl (y := .pointer (some ⟨g4, l.length, none⟩)) (w' := w9') ?_ ⟨_, rfl, by rw [toL hlt9]; exact pu 14 _ (Fr.refl _)⟩
            have c1 : (l.length : Int) < (l.length : Int) + 1 := by omega
            rw [e10, e13]
            simp [go_sem, c1, Try.underlying22, Try.sizeStr]
          · have h3 := after_one hi rfl 3 (by decide)
            have e3 : A.eval (.tmp 113) = .bool true := (HA 3 113 rfl (by show 113 < 144; decide) h3).trans (J.vl 3 h3)
            have h14 := after_one hi rfl 14 (by decide)
            have e14 : A.eval (.tmp 124) = .pointer (some ⟨g4, l.length, none⟩) := (HA 14 124 rfl (by show 124 < 144; decide) h14).trans (J.vl 14 h14)
            refine wpOp_gis (Instr.loadAt 9 (A.eval (.tmp 124))) rfl (wanted_of rfl rfl e3) rfl (y := .string room) (w' := w9') ?_ ⟨_, rfl, by rw [toL hlt9]; exact pu 15 _ (Fr.refl _)⟩
            rw [e14]
            simp [go_sem, r4]
          · have h3 := after_one hi rfl 3 (by decide)
            have e3 : A.eval (.tmp 113) = .bool true := (HA 3 113 rfl (by show 113 < 144; decide) h3).trans (J.vl 3 h3)
            have h15 := after_one hi rfl 15 (by decide)
            have e15 : A.eval (.tmp 125) = .string room := (HA 15 125 rfl (by show 125 < 144; decide) h15).trans (J.vl 15 h15)
            refine wpOp_gis (do eqGuard .eql 9 (.tmp 125) (.const (.string ⟨#[114, 111, 111, 109]⟩)) (A.eval (.tmp 125)) (.string ⟨#[114, 111, 111, 109]⟩); binOp .eql 9 (A.eval (.tmp 125)) (.string ⟨#[114, 111, 111, 109]⟩)) rfl (wanted_of rfl rfl e3) rfl (y := .bool true) (w' := w9') ?_ ⟨_, rfl, by rw [toL hlt9]; exact pu 16 _ (Fr.refl _)⟩
            rw [e15]
            kernel_rfl
          · have h3 := after_one hi rfl 3 (by decide)
            have e3 : A.eval (.tmp 113) = .bool true := (HA 3 113 rfl (by show 113 < 144; decide) h3).trans (J.vl 3 h3)
            have h16 := after_one hi rfl 16 (by decide)
            have e16 : A.eval (.tmp 126) = .bool true := (HA 16 126 rfl (by show 126 < 144; decide) h16).trans (J.vl 16 h16)
            exact wpOp_val rfl rfl (x := .bool true) (w' := w9') (exec_pick e3 e16) ⟨_, rfl, by rw [toL hlt9]; exact pu 17 _ (Fr.refl _)⟩
          · have h17 := after_one hi rfl 17 (by decide)
            have e17 : A.eval (.tmp 127) = .bool true := (HA 17 127 rfl (by show 127 < 144; decide) h17).trans (J.vl 17 h17)
            exact wpOp_move rfl (y := .bool true) e17 ⟨_, rfl, by rw [toL hlt9]; exact pu 18 _ (Fr.refl _)⟩
          · have h18 := after_one hi rfl 18 (by decide)
            have e18 : A.eval (.tmp 128) = .bool true := (HA 18 128 rfl (by show 128 < 144; decide) h18).trans (J.vl 18 h18)
            refine wpOp_gis (Instr.fieldAt 25 (A.eval (.tmp 7)) 1) rfl (wanted_of rfl rfl e18) rfl (y := .pointer (some ⟨g30, 1, none⟩)) (w' := w9') ?_ ⟨_, rfl, by rw [toL hlt9]; exact pu 19 _ (Fr.refl _)⟩
            rw [t7]
            kernel_rfl
          · have h18 := after_one hi rfl 18 (by decide)
            have e18 : A.eval (.tmp 128) = .bool true := (HA 18 128 rfl (by show 128 < 144; decide) h18).trans (J.vl 18 h18)
            have h19 := after_one hi rfl 19 (by decide)
            have e19 : A.eval (.tmp 129) = .pointer (some ⟨g30, 1, none⟩) := (HA 19 129 rfl (by show 129 < 144; decide) h19).trans (J.vl 19 h19)
            refine wpOp_gis (Instr.loadAt 23 (A.eval (.tmp 129))) rfl (wanted_of rfl rfl e18) rfl (y := .slice (some ⟨g18, 0, none⟩) k.length (k.length + 1)) (w' := w9') ?_ ⟨_, rfl, by rw [toL hlt9]; exact pu 20 _ (Fr.refl _)⟩
            rw [e19]
            simp [go_sem, u0, u1]
          · have h18 := after_one hi rfl 18 (by decide)
            have e18 : A.eval (.tmp 128) = .bool true := (HA 18 128 rfl (by show 128 < 144; decide) h18).trans (J.vl 18 h18)
            refine wpOp_gis (Instr.fieldAt 25 (A.eval (.tmp 3)) 1) rfl (wanted_of rfl rfl e18) rfl (y := .pointer (some ⟨w.heap.size, 1, none⟩)) (w' := w9') ?_ ⟨_, rfl, by rw [toL hlt9]; exact pu 21 _ (Fr.refl _)⟩
            rw [t3]
            kernel_rfl
          · have h18 := after_one hi rfl 18 (by decide)
            have e18 : A.eval (.tmp 128) = .bool true := (HA 18 128 rfl (by show 128 < 144; decide) h18).trans (J.vl 18 h18)
            have h21 := after_one hi rfl 21 (by decide)
            have e21 : A.eval (.tmp 131) = .pointer (some ⟨w.heap.size, 1, none⟩) := (HA 21 131 rfl (by show 131 < 144; decide) h21).trans (J.vl 21 h21)
            refine wpOp_gis (Instr.loadAt 23 (A.eval (.tmp 131))) rfl (wanted_of rfl rfl e18) rfl (y := .slice aq k.length dq) (w' := w9') ?_ ⟨_, rfl, by rw [toL hlt9]; exact pu 22 _ (Fr.refl _)⟩
            rw [e21]
            simp [go_sem, d0, d1]
          · have h18 := after_one hi rfl 18 (by decide)
            have e18 : A.eval (.tmp 128) = .bool true := (HA 18 128 rfl (by show 128 < 144; decide) h18).trans (J.vl 18 h18)
            have h22 := after_one hi rfl 22 (by decide)
            have e22 : A.eval (.tmp 132) = .slice aq k.length dq := (HA 22 132 rfl (by show 132 < 144; decide) h22).trans (J.vl 22 h22)
            exact wpOp_gval rfl (wanted_of rfl rfl e18) (x := .int .i64 k.length) (w' := w9') (exec_len Try.underlying23 e22) ⟨_, rfl, by rw [toL hlt9]; exact pu 23 _ (Fr.refl _)⟩
          · have h18 := after_one hi rfl 18 (by decide)
            have e18 : A.eval (.tmp 128) = .bool true := (HA 18 128 rfl (by show 128 < 144; decide) h18).trans (J.vl 18 h18)
            have h23 := after_one hi rfl 23 (by decide)
            have e23 : A.eval (.tmp 133) = .int .i64 k.length := (HA 23 133 rfl (by show 133 < 144; decide) h23).trans (J.vl 23 h23)
            refine wpOp_gis (do eqGuard .add 3 (.tmp 133) (.const (.int .i64 1)) (A.eval (.tmp 133)) (.int .i64 1); binOp .add 3 (A.eval (.tmp 133)) (.int .i64 1)) rfl (wanted_of rfl rfl e18) rfl (y := .int .i64 (k.length + 1 : Nat)) (w' := w9') ?_ ⟨_, rfl, by rw [toL hlt9]; exact pu 24 _ (Fr.refl _)⟩
            rw [e23]
            simp [go_sem, eqGuard, hm1]
          · have h18 := after_one hi rfl 18 (by decide)
            have e18 : A.eval (.tmp 128) = .bool true := (HA 18 128 rfl (by show 128 < 144; decide) h18).trans (J.vl 18 h18)
            have h20 := after_one hi rfl 20 (by decide)
            have e20 : A.eval (.tmp 130) = .slice (some ⟨g18, 0, none⟩) k.length (k.length + 1) := (HA 20 130 rfl (by show 130 < 144; decide) h20).trans (J.vl 20 h20)
            have h24 := after_one hi rfl 24 (by decide)
            have e24 : A.eval (.tmp 134) = .int .i64 (k.length + 1 : Nat) := (HA 24 134 rfl (by show 134 < 144; decide) h24).trans (J.vl 24 h24)
            refine wpOp_gis (Instr.sliceAt 23 (A.eval (.tmp 130)) none (some (A.eval (.tmp 134))) none) rfl (wanted_of rfl rfl e18) rfl (y := .slice (some ⟨g18, 0, none⟩) (k.length + 1) (k.length + 1)) (w' := w9') ?_ ⟨_, rfl, by rw [toL hlt9]; exact pu 25 _ (Fr.refl _)⟩
            rw [e20, e24]
            simp [go_sem, show ¬ ((l.length : Int) + 1 < 0) by omega, show ¬ ((k.length : Int) + 1 < 0) by omega]
          · have h18 := after_one hi rfl 18 (by decide)
            have e18 : A.eval (.tmp 128) = .bool true := (HA 18 128 rfl (by show 128 < 144; decide) h18).trans (J.vl 18 h18)
            refine wpOp_gis (Instr.fieldAt 25 (A.eval (.tmp 3)) 1) rfl (wanted_of rfl rfl e18) rfl (y := .pointer (some ⟨w.heap.size, 1, none⟩)) (w' := w9') ?_ ⟨_, rfl, by rw [toL hlt9]; exact pu 26 _ (Fr.refl _)⟩
            rw [t3]
            kernel_rfl
          · have h18 := after_one hi rfl 18 (by decide)
            have e18 : A.eval (.tmp 128) = .bool true := (HA 18 128 rfl (by show 128 < 144; decide) h18).trans (J.vl 18 h18)
            have h26 := after_one hi rfl 26 (by decide)
            have e26 : A.eval (.tmp 136) = .pointer (some ⟨w.heap.size, 1, none⟩) := (HA 26 136 rfl (by show 136 < 144; decide) h26).trans (J.vl 26 h26)
            refine wpOp_gis (Instr.loadAt 23 (A.eval (.tmp 136))) rfl (wanted_of rfl rfl e18) rfl (y := .slice aq k.length dq) (w' := w9') ?_ ⟨_, rfl, by rw [toL hlt9]; exact pu 27 _ (Fr.refl _)⟩
            rw [e26]
            simp [go_sem, d0, d1]
          · have h18 := after_one hi rfl 18 (by decide)
            have e18 : A.eval (.tmp 128) = .bool true := (HA 18 128 rfl (by show 128 < 144; decide) h18).trans (J.vl 18 h18)
            have h27 := after_one hi rfl 27 (by decide)
            have e27 : A.eval (.tmp 137) = .slice aq k.length dq := (HA 27 137 rfl (by show 137 < 144; decide) h27).trans (J.vl 27 h27)
            exact wpOp_gval rfl (wanted_of rfl rfl e18) (x := .int .i64 k.length) (w' := w9') (exec_len Try.underlying23 e27) ⟨_, rfl, by rw [toL hlt9]; exact pu 28 _ (Fr.refl _)⟩
          · have h18 := after_one hi rfl 18 (by decide)
            have e18 : A.eval (.tmp 128) = .bool true := (HA 18 128 rfl (by show 128 < 144; decide) h18).trans (J.vl 18 h18)
            have h25 := after_one hi rfl 25 (by decide)
            have e25 : A.eval (.tmp 135) = .slice (some ⟨g18, 0, none⟩) (k.length + 1) (k.length + 1) := (HA 25 135 rfl (by show 135 < 144; decide) h25).trans (J.vl 25 h25)
            have h28 := after_one hi rfl 28 (by decide)
            have e28 : A.eval (.tmp 138) = .int .i64 k.length := (HA 28 138 rfl (by show 138 < 144; decide) h28).trans (J.vl 28 h28)
            refine wpOp_gis (Instr.indexAt 23 (A.eval (.tmp 135)) (A.eval (.tmp 138))) rfl (wanted_of rfl rfl e18) rfl (y := .pointer (some ⟨g18, k.length * 2, none⟩)) (w' := w9') ?_ ⟨_, rfl, by rw [toL hlt9]; exact pu 29 _ (Fr.refl _)⟩
            have c1 : (k.length : Int) < (k.length : Int) + 1 := by omega
            rw [e25, e28]
            simp [go_sem, c1, Try.underlying23, Try.sizeWrite]
          · have h18 := after_one hi rfl 18 (by decide)
            have e18 : A.eval (.tmp 128) = .bool true := (HA 18 128 rfl (by show 128 < 144; decide) h18).trans (J.vl 18 h18)
            have h29 := after_one hi rfl 29 (by decide)
            have e29 : A.eval (.tmp 139) = .pointer (some ⟨g18, k.length * 2, none⟩) := (HA 29 139 rfl (by show 139 < 144; decide) h29).trans (J.vl 29 h29)
            refine wpOp_gis (Instr.loadAt 27 (A.eval (.tmp 139))) rfl (wanted_of rfl rfl e18) rfl (y := .agg #[.int .i64 9, .string room]) (w' := w9') ?_ ⟨_, rfl, by rw [toL hlt9]; exact pu 30 _ (Fr.refl _)⟩
            rw [e29]
            simp [go_sem, r18, s18]
          · have h18 := after_one hi rfl 18 (by decide)
            have e18 : A.eval (.tmp 128) = .bool true := (HA 18 128 rfl (by show 128 < 144; decide) h18).trans (J.vl 18 h18)
            refine wpOp_gcall rfl (wanted_of rfl rfl e18) (args := #[.int .i64 9, .string room]) (by simp [Act.eval, room]) (by kernel_rfl) (lwrite_any 9 room w9') ?_
            rintro e w2 ⟨rfl, f2⟩
            exact ⟨_, rfl, _, rfl, by rw [toL hlt9]; exact pu 31 _ f2⟩
          · have h18 := after_one hi rfl 18 (by decide)
            have e18 : A.eval (.tmp 128) = .bool true := (HA 18 128 rfl (by show 128 < 144; decide) h18).trans (J.vl 18 h18)
            have h30 := after_one hi rfl 30 (by decide)
            have e30 : A.eval (.tmp 140) = .agg #[.int .i64 9, .string room] := (HA 30 140 rfl (by show 140 < 144; decide) h30).trans (J.vl 30 h30)
            have h31 := after_one hi rfl 31 (by decide)
            have e31 : A.eval (.tmp 141) = .agg #[.int .i64 9, .string room] := (HA 31 141 rfl (by show 141 < 144; decide) h31).trans (J.vl 31 h31)
            refine wpOp_gis (do eqGuard .eql 27 (.tmp 140) (.tmp 141) (A.eval (.tmp 140)) (A.eval (.tmp 141)); binOp .eql 27 (A.eval (.tmp 140)) (A.eval (.tmp 141))) rfl (wanted_of rfl rfl e18) rfl (y := .bool true) (w' := w9') ?_ ⟨_, rfl, by rw [toL hlt9]; exact pu 32 _ (Fr.refl _)⟩
            rw [e30, e31]
            kernel_rfl
          · have h18 := after_one hi rfl 18 (by decide)
            have e18 : A.eval (.tmp 128) = .bool true := (HA 18 128 rfl (by show 128 < 144; decide) h18).trans (J.vl 18 h18)
            have h32 := after_one hi rfl 32 (by decide)
            have e32 : A.eval (.tmp 142) = .bool true := (HA 32 142 rfl (by show 142 < 144; decide) h32).trans (J.vl 32 h32)
            exact wpOp_val rfl rfl (x := .bool true) (w' := w9') (exec_pick e18 e32) ⟨_, rfl, by rw [toL hlt9]; exact pu 33 _ (Fr.refl _)⟩
          · have h33 := after_one hi rfl 33 (by decide)
            have e33 : A.eval (.tmp 143) = .bool true := (HA 33 143 rfl (by show 143 < 144; decide) h33).trans (J.vl 33 h33)
            exact wpOp_assign rfl (y := .bool true) e33 ⟨_, rfl, by rw [toL hlt9]; exact pu 34 _ (Fr.refl _)⟩
        · intro listed v w9' hs J hr
          have l0 := ready_all hs hr (i := 0) rfl [] (by intro k hk; cases hk) (by decide)
          have l1 := ready_all hs hr (i := 1) rfl [0] (by simp only [List.mem_cons, List.not_mem_nil, or_false, forall_eq_or_imp, forall_eq]; exact l0) (by decide)
          have l2 := ready_all hs hr (i := 2) rfl [0, 1] (by simp only [List.mem_cons, List.not_mem_nil, or_false, forall_eq_or_imp, forall_eq]; exact ⟨l0, l1⟩) (by decide)
          have l3 := ready_all hs hr (i := 3) rfl [0, 1, 2] (by simp only [List.mem_cons, List.not_mem_nil, or_false, forall_eq_or_imp, forall_eq]; exact ⟨l0, l1, l2⟩) (by decide)
          have l4 := ready_all hs hr (i := 4) rfl [0, 1, 2, 3] (by simp only [List.mem_cons, List.not_mem_nil, or_false, forall_eq_or_imp, forall_eq]; exact ⟨l0, l1, l2, l3⟩) (by decide)
          have l5 := ready_all hs hr (i := 5) rfl [0, 1, 2, 3, 4] (by simp only [List.mem_cons, List.not_mem_nil, or_false, forall_eq_or_imp, forall_eq]; exact ⟨l0, l1, l2, l3, l4⟩) (by decide)
          have l6 := ready_all hs hr (i := 6) rfl [0, 1, 2, 3, 4, 5] (by simp only [List.mem_cons, List.not_mem_nil, or_false, forall_eq_or_imp, forall_eq]; exact ⟨l0, l1, l2, l3, l4, l5⟩) (by decide)
          have l7 := ready_all hs hr (i := 7) rfl [0, 1, 2, 3, 4, 5, 6] (by simp only [List.mem_cons, List.not_mem_nil, or_false, forall_eq_or_imp, forall_eq]; exact ⟨l0, l1, l2, l3, l4, l5, l6⟩) (by decide)
          have l8 := ready_all hs hr (i := 8) rfl [0, 1, 2, 3, 4, 5, 6, 7] (by simp only [List.mem_cons, List.not_mem_nil, or_false, forall_eq_or_imp, forall_eq]; exact ⟨l0, l1, l2, l3, l4, l5, l6, l7⟩) (by decide)
          have l9 := ready_all hs hr (i := 9) rfl [0, 1, 2, 3, 4, 5, 6, 7, 8] (by simp only [List.mem_cons, List.not_mem_nil, or_false, forall_eq_or_imp, forall_eq]; exact ⟨l0, l1, l2, l3, l4, l5, l6, l7, l8⟩) (by decide)
          have l10 := ready_all hs hr (i := 10) rfl [0, 1, 2, 3, 4, 5, 6, 7, 8, 9] (by simp only [List.mem_cons, List.not_mem_nil, or_false, forall_eq_or_imp, forall_eq]; exact ⟨l0, l1, l2, l3, l4, l5, l6, l7, l8, l9⟩) (by decide)
          have l11 := ready_all hs hr (i := 11) rfl [0, 1, 2, 3, 4, 5, 6, 7, 8, 9, 10] (by simp only [List.mem_cons, List.not_mem_nil, or_false, forall_eq_or_imp, forall_eq]; exact ⟨l0, l1, l2, l3, l4, l5, l6, l7, l8, l9, l10⟩) (by decide)
          have l12 := ready_all hs hr (i := 12) rfl [0, 1, 2, 3, 4, 5, 6, 7, 8, 9, 10, 11] (by simp only [List.mem_cons, List.not_mem_nil, or_false, forall_eq_or_imp, forall_eq]; exact ⟨l0, l1, l2, l3, l4, l5, l6, l7, l8, l9, l10, l11⟩) (by decide)
          have l13 := ready_all hs hr (i := 13) rfl [0, 1, 2, 3, 4, 5, 6, 7, 8, 9, 10, 11, 12] (by simp only [List.mem_cons, List.not_mem_nil, or_false, forall_eq_or_imp, forall_eq]; exact ⟨l0, l1, l2, l3, l4, l5, l6, l7, l8, l9, l10, l11, l12⟩) (by decide)
          have l14 := ready_all hs hr (i := 14) rfl [0, 1, 2, 3, 4, 5, 6, 7, 8, 9, 10, 11, 12, 13] (by simp only [List.mem_cons, List.not_mem_nil, or_false, forall_eq_or_imp, forall_eq]; exact ⟨l0, l1, l2, l3, l4, l5, l6, l7, l8, l9, l10, l11, l12, l13⟩) (by decide)
          have l15 := ready_all hs hr (i := 15) rfl [0, 1, 2, 3, 4, 5, 6, 7, 8, 9, 10, 11, 12, 13, 14] (by simp only [List.mem_cons, List.not_mem_nil, or_false, forall_eq_or_imp, forall_eq]; exact ⟨l0, l1, l2, l3, l4, l5, l6, l7, l8, l9, l10, l11, l12, l13, l14⟩) (by decide)
          have l16 := ready_all hs hr (i := 16) rfl [0, 1, 2, 3, 4, 5, 6, 7, 8, 9, 10, 11, 12, 13, 14, 15] (by simp only [List.mem_cons, List.not_mem_nil, or_false, forall_eq_or_imp, forall_eq]; exact ⟨l0, l1, l2, l3, l4, l5, l6, l7, l8, l9, l10, l11, l12, l13, l14, l15⟩) (by decide)
          have l17 := ready_all hs hr (i := 17) rfl [0, 1, 2, 3, 4, 5, 6, 7, 8, 9, 10, 11, 12, 13, 14, 15, 16] (by simp only [List.mem_cons, List.not_mem_nil, or_false, forall_eq_or_imp, forall_eq]; exact ⟨l0, l1, l2, l3, l4, l5, l6, l7, l8, l9, l10, l11, l12, l13, l14, l15, l16⟩) (by decide)
          have l18 := ready_all hs hr (i := 18) rfl [0, 1, 2, 3, 4, 5, 6, 7, 8, 9, 10, 11, 12, 13, 14, 15, 16, 17] (by simp only [List.mem_cons, List.not_mem_nil, or_false, forall_eq_or_imp, forall_eq]; exact ⟨l0, l1, l2, l3, l4, l5, l6, l7, l8, l9, l10, l11, l12, l13, l14, l15, l16, l17⟩) (by decide)
          have l19 := ready_all hs hr (i := 19) rfl [0, 1, 2, 3, 4, 5, 6, 7, 8, 9, 10, 11, 12, 13, 14, 15, 16, 17, 18] (by simp only [List.mem_cons, List.not_mem_nil, or_false, forall_eq_or_imp, forall_eq]; exact ⟨l0, l1, l2, l3, l4, l5, l6, l7, l8, l9, l10, l11, l12, l13, l14, l15, l16, l17, l18⟩) (by decide)
          have l20 := ready_all hs hr (i := 20) rfl [0, 1, 2, 3, 4, 5, 6, 7, 8, 9, 10, 11, 12, 13, 14, 15, 16, 17, 18, 19] (by simp only [List.mem_cons, List.not_mem_nil, or_false, forall_eq_or_imp, forall_eq]; exact ⟨l0, l1, l2, l3, l4, l5, l6, l7, l8, l9, l10, l11, l12, l13, l14, l15, l16, l17, l18, l19⟩) (by decide)
          have l21 := ready_all hs hr (i := 21) rfl [0, 1, 2, 3, 4, 5, 6, 7, 8, 9, 10, 11, 12, 13, 14, 15, 16, 17, 18, 19, 20] (by simp only [List.mem_cons, List.not_mem_nil, or_false, forall_eq_or_imp, forall_eq]; exact ⟨l0, l1, l2, l3, l4, l5, l6, l7, l8, l9, l10, l11, l12, l13, l14, l15, l16, l17, l18, l19, l20⟩) (by decide)
          have l22 := ready_all hs hr (i := 22) rfl [0, 1, 2, 3, 4, 5, 6, 7, 8, 9, 10, 11, 12, 13, 14, 15, 16, 17, 18, 19, 20, 21] (by simp only [List.mem_cons, List.not_mem_nil, or_false, forall_eq_or_imp, forall_eq]; exact ⟨l0, l1, l2, l3, l4, l5, l6, l7, l8, l9, l10, l11, l12, l13, l14, l15, l16, l17, l18, l19, l20, l21⟩) (by decide)
          have l23 := ready_all hs hr (i := 23) rfl [0, 1, 2, 3, 4, 5, 6, 7, 8, 9, 10, 11, 12, 13, 14, 15, 16, 17, 18, 19, 20, 21, 22] (by simp only [List.mem_cons, List.not_mem_nil, or_false, forall_eq_or_imp, forall_eq]; exact ⟨l0, l1, l2, l3, l4, l5, l6, l7, l8, l9, l10, l11, l12, l13, l14, l15, l16, l17, l18, l19, l20, l21, l22⟩) (by decide)
          have l24 := ready_all hs hr (i := 24) rfl [0, 1, 2, 3, 4, 5, 6, 7, 8, 9, 10, 11, 12, 13, 14, 15, 16, 17, 18, 19, 20, 21, 22, 23] (by simp only [List.mem_cons, List.not_mem_nil, or_false, forall_eq_or_imp, forall_eq]; exact ⟨l0, l1, l2, l3, l4, l5, l6, l7, l8, l9, l10, l11, l12, l13, l14, l15, l16, l17, l18, l19, l20, l21, l22, l23⟩) (by decide)
          have l25 := ready_all hs hr (i := 25) rfl [0, 1, 2, 3, 4, 5, 6, 7, 8, 9, 10, 11, 12, 13, 14, 15, 16, 17, 18, 19, 20, 21, 22, 23, 24] (by simp only [List.mem_cons, List.not_mem_nil, or_false, forall_eq_or_imp, forall_eq]; exact ⟨l0, l1, l2, l3, l4, l5, l6, l7, l8, l9, l10, l11, l12, l13, l14, l15, l16, l17, l18, l19, l20, l21, l22, l23, l24⟩) (by decide)
          have l26 := ready_all hs hr (i := 26) rfl [0, 1, 2, 3, 4, 5, 6, 7, 8, 9, 10, 11, 12, 13, 14, 15, 16, 17, 18, 19, 20, 21, 22, 23, 24, 25] (by simp only [List.mem_cons, List.not_mem_nil, or_false, forall_eq_or_imp, forall_eq]; exact ⟨l0, l1, l2, l3, l4, l5, l6, l7, l8, l9, l10, l11, l12, l13, l14, l15, l16, l17, l18, l19, l20, l21, l22, l23, l24, l25⟩) (by decide)
          have l27 := ready_all hs hr (i := 27) rfl [0, 1, 2, 3, 4, 5, 6, 7, 8, 9, 10, 11, 12, 13, 14, 15, 16, 17, 18, 19, 20, 21, 22, 23, 24, 25, 26] (by simp only [List.mem_cons, List.not_mem_nil, or_false, forall_eq_or_imp, forall_eq]; exact ⟨l0, l1, l2, l3, l4, l5, l6, l7, l8, l9, l10, l11, l12, l13, l14, l15, l16, l17, l18, l19, l20, l21, l22, l23, l24, l25, l26⟩) (by decide)
          have l28 := ready_all hs hr (i := 28) rfl [0, 1, 2, 3, 4, 5, 6, 7, 8, 9, 10, 11, 12, 13, 14, 15, 16, 17, 18, 19, 20, 21, 22, 23, 24, 25, 26, 27] (by simp only [List.mem_cons, List.not_mem_nil, or_false, forall_eq_or_imp, forall_eq]; exact ⟨l0, l1, l2, l3, l4, l5, l6, l7, l8, l9, l10, l11, l12, l13, l14, l15, l16, l17, l18, l19, l20, l21, l22, l23, l24, l25, l26, l27⟩) (by decide)
          have l29 := ready_all hs hr (i := 29) rfl [0, 1, 2, 3, 4, 5, 6, 7, 8, 9, 10, 11, 12, 13, 14, 15, 16, 17, 18, 19, 20, 21, 22, 23, 24, 25, 26, 27, 28] (by simp only [List.mem_cons, List.not_mem_nil, or_false, forall_eq_or_imp, forall_eq]; exact ⟨l0, l1, l2, l3, l4, l5, l6, l7, l8, l9, l10, l11, l12, l13, l14, l15, l16, l17, l18, l19, l20, l21, l22, l23, l24, l25, l26, l27, l28⟩) (by decide)
          have l30 := ready_all hs hr (i := 30) rfl [0, 1, 2, 3, 4, 5, 6, 7, 8, 9, 10, 11, 12, 13, 14, 15, 16, 17, 18, 19, 20, 21, 22, 23, 24, 25, 26, 27, 28, 29] (by simp only [List.mem_cons, List.not_mem_nil, or_false, forall_eq_or_imp, forall_eq]; exact ⟨l0, l1, l2, l3, l4, l5, l6, l7, l8, l9, l10, l11, l12, l13, l14, l15, l16, l17, l18, l19, l20, l21, l22, l23, l24, l25, l26, l27, l28, l29⟩) (by decide)
          have l31 := ready_all hs hr (i := 31) rfl [0, 1, 2, 3, 4, 5, 6, 7, 8, 9, 10, 11, 12, 13, 14, 15, 16, 17, 18, 19, 20, 21, 22, 23, 24, 25, 26, 27, 28, 29, 30] (by simp only [List.mem_cons, List.not_mem_nil, or_false, forall_eq_or_imp, forall_eq]; exact ⟨l0, l1, l2, l3, l4, l5, l6, l7, l8, l9, l10, l11, l12, l13, l14, l15, l16, l17, l18, l19, l20, l21, l22, l23, l24, l25, l26, l27, l28, l29, l30⟩) (by decide)
          have l32 := ready_all hs hr (i := 32) rfl [0, 1, 2, 3, 4, 5, 6, 7, 8, 9, 10, 11, 12, 13, 14, 15, 16, 17, 18, 19, 20, 21, 22, 23, 24, 25, 26, 27, 28, 29, 30, 31] (by simp only [List.mem_cons, List.not_mem_nil, or_false, forall_eq_or_imp, forall_eq]; exact ⟨l0, l1, l2, l3, l4, l5, l6, l7, l8, l9, l10, l11, l12, l13, l14, l15, l16, l17, l18, l19, l20, l21, l22, l23, l24, l25, l26, l27, l28, l29, l30, l31⟩) (by decide)
          have l33 := ready_all hs hr (i := 33) rfl [0, 1, 2, 3, 4, 5, 6, 7, 8, 9, 10, 11, 12, 13, 14, 15, 16, 17, 18, 19, 20, 21, 22, 23, 24, 25, 26, 27, 28, 29, 30, 31, 32] (by simp only [List.mem_cons, List.not_mem_nil, or_false, forall_eq_or_imp, forall_eq]; exact ⟨l0, l1, l2, l3, l4, l5, l6, l7, l8, l9, l10, l11, l12, l13, l14, l15, l16, l17, l18, l19, l20, l21, l22, l23, l24, l25, l26, l27, l28, l29, l30, l31, l32⟩) (by decide)
          have l34 := ready_all hs hr (i := 34) rfl [0, 1, 2, 3, 4, 5, 6, 7, 8, 9, 10, 11, 12, 13, 14, 15, 16, 17, 18, 19, 20, 21, 22, 23, 24, 25, 26, 27, 28, 29, 30, 31, 32, 33] (by simp only [List.mem_cons, List.not_mem_nil, or_false, forall_eq_or_imp, forall_eq]; exact ⟨l0, l1, l2, l3, l4, l5, l6, l7, l8, l9, l10, l11, l12, l13, l14, l15, l16, l17, l18, l19, l20, l21, l22, l23, l24, l25, l26, l27, l28, l29, l30, l31, l32, l33⟩) (by decide)
          change Exit.then _ _ .normal (putL _ listed v [0, 1, 2, 3, 4, 5, 6, 7, 8, 9, 10, 11, 12, 13, 14, 15, 16, 17, 18, 19, 20, 21, 22, 23, 24, 25, 26, 27, 28, 29, 30, 31, 32, 33, 34] _) w9'
          simp only [putL, l0, l1, l2, l3, l4, l5, l6, l7, l8, l9, l10, l11, l12, l13, l14, l15, l16, l17, l18, l19, l20, l21, l22, l23, l24, l25, l26, l27, l28, l29, l30, l31, l32, l33, l34, if_true]
          change Exit.then _ _ .normal (Act.put (Act.put (Act.put (Act.put (Act.put (Act.put (Act.put (Act.put (Act.put (Act.put (Act.put (Act.put (Act.put (Act.put (Act.put (Act.put (Act.put (Act.put (Act.put (Act.put (Act.put (Act.put (Act.put (Act.put (Act.put (Act.put (Act.put (Act.put (Act.put (Act.put (Act.put (Act.put (Act.put (Act.put (Act.put _ (some 110) (v 0)) (some 111) (v 1)) (some 112) (v 2)) (some 113) (v 3)) (some 114) (v 4)) (some 115) (v 5)) (some 116) (v 6)) (some 117) (v 7)) (some 118) (v 8)) (some 119) (v 9)) (some 120) (v 10)) (some 121) (v 11)) (some 122) (v 12)) (some 123) (v 13)) (some 124) (v 14)) (some 125) (v 15)) (some 126) (v 16)) (some 127) (v 17)) (some 128) (v 18)) (some 129) (v 19)) (some 130) (v 20)) (some 131) (v 21)) (some 132) (v 22)) (some 133) (v 23)) (some 134) (v 24)) (some 135) (v 25)) (some 136) (v 26)) (some 137) (v 27)) (some 138) (v 28)) (some 139) (v 29)) (some 140) (v 30)) (some 141) (v 31)) (some 142) (v 32)) (some 143) (v 33)) (some 6) (v 34)) w9'
          have hv : v 34 = .bool true := J.vl 34 l34
          rw [hv]
          have H1 := hideP (H0.out.trans J.fr)
          clear J hr hs hv l0 l1 l2 l3 l4 l5 l6 l7 l8 l9 l10 l11 l12 l13 l14 l15 l16 l17 l18 l19 l20 l21 l22 l23 l24 l25 l26 l27 l28 l29 l30 l31 l32 l33 l34
          go_wp2_with fail
          go_ret
          exact ⟨rfl, H1.out⟩
      | succ gk1 =>
        have hi : (i : Int) < 3 := by omega
        have hi' : i < 3 := by omega
        go_wp2_with fail
        go_loopg [16] (nP i) (fun g kv wr => ∃ k : Nat, kv = .int .i64 k ∧ k + g = nP i ∧ Hid (St w9 T aP aQ nP nQ cP cQ wr))
        case atStart => exact ⟨0, rfl, by omega, HS⟩
        case round =>
          obtain ⟨k2, rfl, hk3, HS2⟩ := hrel
          have p := HS2.out.p i hi'
          cases gk with
          | zero =>
            have hlt : ¬ ((k2 : Int) < (nP i : Int)) := by omega
            go_wp2_with fail
            clear p
            go_loopg [17] (nQ i) (fun g kv wr => ∃ k : Nat, kv = .int .i64 k ∧ k + g = nQ i ∧ Hid (St w9 T aP aQ nP nQ cP cQ wr))
            case atStart => exact ⟨0, rfl, by omega, HS2⟩
            case round =>
              obtain ⟨k4, rfl, hk5, HS4⟩ := hrel
              have p := HS4.out.q i hi'
              cases gk with
              | zero =>
                have hlt : ¬ ((k4 : Int) < (nQ i : Int)) := by omega
                go_wp2_with fail
                go_roundg gk1
                case rel => exact ⟨i + 1, by go_num, by omega, HS4⟩
                case measure => omega
              | succ gk =>
                have hlt : (k4 : Int) < (nQ i : Int) := by omega
                obtain ⟨n9, xs9, ho⟩ := HS4.out.s i hi'
                obtain ⟨g, cur, ha, hB, hbk, hsz, hml⟩ := own_at ho (show k4 < nQ i by omega)
                rw [ha] at p
                have HB := hideP hbk
                have hw1 : k4 + 1 ≤ 9223372036854775807 := by unfold maxLen at hml; omega
                clear ho hbk ha hml
                go_upto_region 18 with fail
                refine region_inv2 rfl (fun listed v w9' => RS wr 8 (val18 T i g (nQ i) (cQ i) k4) (St w9 T aP aQ nP nQ cP cQ) (fun i => listed.getD i false) v w9') ?_ ?_ ?_ ?_
                · refine ⟨fun _ => Fr.drew (Fr.refl wr), fun h => ?_, fun j _ h => ?_, fun h => ?_⟩
                  · exact absurd h (by decide)
                  · have h : (Array.replicate 9 false).getD j false = true := h
                    rw [show (Array.replicate 9 false).getD j false = false by unfold Array.getD; split <;> simp] at h; cases h
                  · exact absurd h (by decide)
                · decide
                · intro listed v w9' A hs J HA HO j hj
                  have hj1 := (ready_spec hj).1
                  have hlt9 : j < listed.size := by rw [hs]; exact hj1
                  have hno9 := not_yet hs hj
                  have hj9 : j < 9 := hj1
                  rcases (show j = 0 ∨ j = 1 ∨ j = 2 ∨ j = 3 ∨ j = 4 ∨ j = 5 ∨ j = 6 ∨ j = 7 ∨ j = 8 by omega) with rfl | rfl | rfl | rfl | rfl | rfl | rfl | rfl | rfl
                  · exact wpOp_move rfl (y := .slice (some ⟨T, 0, none⟩) 3 3) (HO 14 (by decide)) ⟨_, rfl, by rw [toL hlt9]; exact J.pure 0 (by decide) hno9 (Fr.refl _)⟩
                  · exact wpOp_move rfl (y := .int .i64 i) (HO 15 (by decide)) ⟨_, rfl, by rw [toL hlt9]; exact J.pure 1 (by decide) hno9 (Fr.refl _)⟩
                  · have h0 := after_one hj rfl 0 (by decide)
                    have h1 := after_one hj rfl 1 (by decide)
                    have e0 : A.eval (.tmp 102) = .slice (some ⟨T, 0, none⟩) 3 3 := (HA 0 102 rfl (by show 102 < 144; decide) h0).trans (J.vl 0 (by decide) h0)
                    have e1 : A.eval (.tmp 103) = .int .i64 i := (HA 1 103 rfl (by show 103 < 144; decide) h1).trans (J.vl 1 (by decide) h1)
                    refine wpOp_is (Instr.indexAt 36 (A.eval (.tmp 102)) (A.eval (.tmp 103))) rfl rfl rfl (y := .pointer (some ⟨T, i * 2, none⟩)) (w' := w9') ?_ ⟨_, rfl, by rw [toL hlt9]; exact J.pure 2 (by decide) hno9 (Fr.refl _)⟩
                    rw [e0, e1]
                    simp [go_sem, hi, Try.underlying36, Try.sizeDisk]
                  · have h0 := after_one hj rfl 2 (by decide)
                    have e0 : A.eval (.tmp 104) = .pointer (some ⟨T, i * 2, none⟩) := (HA 2 104 rfl (by show 104 < 144; decide) h0).trans (J.vl 2 (by decide) h0)
                    refine wpOp_is (Instr.fieldAt 25 (A.eval (.tmp 104)) 1) rfl rfl rfl (y := .pointer (some ⟨T, i * 2 + 1, none⟩)) (w' := w9') ?_ ⟨_, rfl, by rw [toL hlt9]; exact J.pure 3 (by decide) hno9 (Fr.refl _)⟩
                    rw [e0]
                    kernel_rfl
                  · have h0 := after_one hj rfl 3 (by decide)
                    have e0 : A.eval (.tmp 105) = .pointer (some ⟨T, i * 2 + 1, none⟩) := (HA 3 105 rfl (by show 105 < 144; decide) h0).trans (J.vl 3 (by decide) h0)
                    refine wpOp_is (Instr.loadAt 23 (A.eval (.tmp 105))) rfl rfl rfl (y := .slice (some ⟨g, 0, none⟩) (nQ i) (cQ i)) (w' := w9') ?_ ⟨_, rfl, by rw [toL hlt9]; exact J.pure 4 (by decide) hno9 (Fr.refl _)⟩
                    rw [e0]
                    have p' := (cell_fr HS4.out.b.lt (J.fr (bne fun h => bf (J.on h 4 (by decide)) hno9))).trans p
                    simp [go_sem, p']
                  · exact wpOp_move rfl (y := .int .i64 k4) (HO 17 (by decide)) ⟨_, rfl, by rw [toL hlt9]; exact J.pure 5 (by decide) hno9 (Fr.refl _)⟩
                  · refine wpOp_call rfl (args := #[.int .i64 0, .string ⟨#[122]⟩]) (by simp [Act.eval]) (by kernel_rfl) (lwrite_any 0 ⟨#[122]⟩ w9') ?_
                    rintro e w2 ⟨rfl, f2⟩
                    exact ⟨_, rfl, _, rfl, by rw [toL hlt9]; exact J.pure 6 (by decide) hno9 f2⟩
                  · have h0 := after_one hj rfl 4 (by decide)
                    have h1 := after_one hj rfl 5 (by decide)
                    have e0 : A.eval (.tmp 106) = .slice (some ⟨g, 0, none⟩) (nQ i) (cQ i) := (HA 4 106 rfl (by show 106 < 144; decide) h0).trans (J.vl 4 (by decide) h0)
                    have e1 : A.eval (.tmp 107) = .int .i64 k4 := (HA 5 107 rfl (by show 107 < 144; decide) h1).trans (J.vl 5 (by decide) h1)
                    refine wpOp_is (Instr.indexAt 23 (A.eval (.tmp 106)) (A.eval (.tmp 107))) rfl rfl rfl (y := .pointer (some ⟨g, k4 * 2, none⟩)) (w' := w9') ?_ ⟨_, rfl, by rw [toL hlt9]; exact J.pure 7 (by decide) hno9 (Fr.refl _)⟩
                    rw [e0, e1]
                    simp [go_sem, hlt, Try.underlying23, Try.sizeWrite]
                  · have h6 := after_one hj rfl 6 (by decide)
                    have h7 := after_one hj rfl 7 (by decide)
                    have e6 : A.eval (.tmp 108) = .agg #[.int .i64 0, .string ⟨#[122]⟩] := (HA 6 108 rfl (by show 108 < 144; decide) h6).trans (J.vl 6 (by decide) h6)
                    have e7 : A.eval (.tmp 109) = .pointer (some ⟨g, k4 * 2, none⟩) := (HA 7 109 rfl (by show 109 < 144; decide) h7).trans (J.vl 7 (by decide) h7)
                    have f9 := J.fr hno9
                    have hb9 := HB.out.fr f9
                    obtain ⟨u0, x0⟩ := cell_in (k := k4 * 2) hb9 (by omega)
                    obtain ⟨u1, x1⟩ := cell_in (k := k4 * 2 + 1) hb9 (by omega)
                    have y0 := hb9.frozen (k4 * 2)
                    have y1 := hb9.frozen (k4 * 2 + 1)
                    have hst9 := (HS4.out.tr f9).set hb9 (by decide) hB (k4 * 2) (.int .i64 0)
                    have hall : ∀ m, m < 8 → listed.getD m false = true := by
                      intro m hm
                      rcases (show m = 0 ∨ m = 1 ∨ m = 2 ∨ m = 3 ∨ m = 4 ∨ m = 5 ∨ m = 6 ∨ m = 7 by omega) with rfl | rfl | rfl | rfl | rfl | rfl | rfl | rfl
                      all_goals exact after_one hj rfl _ (by decide)
                    refine wpOp_store rfl (w' := (w9'.setCell ⟨g, k4 * 2, none⟩ (.int .i64 0)).setCell ⟨g, k4 * 2 + 1, none⟩ (.string ⟨#[122]⟩)) ?_ ⟨_, rfl, by rw [toL hlt9]; exact J.last hall (hst9.set (hb9.set _ _) (by decide) hB _ _)⟩
                    rw [e6, e7]
                    simp [go_sem, x0, x1, y0, y1]
                · intro listed v w9' hs J hr
                  have l0 := ready_all hs hr (i := 0) rfl [] (by intro k hk; cases hk) (by decide)
                  have l1 := ready_all hs hr (i := 1) rfl [0] (by simp only [List.mem_cons, List.not_mem_nil, or_false, forall_eq_or_imp, forall_eq]; exact l0) (by decide)
                  have l2 := ready_all hs hr (i := 2) rfl [0, 1] (by simp only [List.mem_cons, List.not_mem_nil, or_false, forall_eq_or_imp, forall_eq]; exact ⟨l0, l1⟩) (by decide)
                  have l3 := ready_all hs hr (i := 3) rfl [0, 1, 2] (by simp only [List.mem_cons, List.not_mem_nil, or_false, forall_eq_or_imp, forall_eq]; exact ⟨l0, l1, l2⟩) (by decide)
                  have l4 := ready_all hs hr (i := 4) rfl [0, 1, 2, 3] (by simp only [List.mem_cons, List.not_mem_nil, or_false, forall_eq_or_imp, forall_eq]; exact ⟨l0, l1, l2, l3⟩) (by decide)
                  have l5 := ready_all hs hr (i := 5) rfl [0, 1, 2, 3, 4] (by simp only [List.mem_cons, List.not_mem_nil, or_false, forall_eq_or_imp, forall_eq]; exact ⟨l0, l1, l2, l3, l4⟩) (by decide)
                  have l6 := ready_all hs hr (i := 6) rfl [0, 1, 2, 3, 4, 5] (by simp only [List.mem_cons, List.not_mem_nil, or_false, forall_eq_or_imp, forall_eq]; exact ⟨l0, l1, l2, l3, l4, l5⟩) (by decide)
                  have l7 := ready_all hs hr (i := 7) rfl [0, 1, 2, 3, 4, 5, 6] (by simp only [List.mem_cons, List.not_mem_nil, or_false, forall_eq_or_imp, forall_eq]; exact ⟨l0, l1, l2, l3, l4, l5, l6⟩) (by decide)
                  have l8 := ready_all hs hr (i := 8) rfl [0, 1, 2, 3, 4, 5, 6, 7] (by simp only [List.mem_cons, List.not_mem_nil, or_false, forall_eq_or_imp, forall_eq]; exact ⟨l0, l1, l2, l3, l4, l5, l6, l7⟩) (by decide)
                  change Exit.inBlock _ _ .normal (putL _ listed v [0, 1, 2, 3, 4, 5, 6, 7, 8] _) w9'
                  simp only [putL, l0, l1, l2, l3, l4, l5, l6, l7, l8, if_true]
                  change Exit.inBlock _ _ .normal (Act.put (Act.put (Act.put (Act.put (Act.put (Act.put (Act.put (Act.put (Act.put _ (some 102) (v 0)) (some 103) (v 1)) (some 104) (v 2)) (some 105) (v 3)) (some 106) (v 4)) (some 107) (v 5)) (some 108) (v 6)) (some 109) (v 7)) none (v 8)) w9'
                  have HS5 := hideP (J.rr l8)
                  clear J hr hs l0 l1 l2 l3 l4 l5 l6 l7 l8
                  go_wp2_with fail
                  go_roundg gk
                  case rel => exact ⟨k4 + 1, by go_num, by omega, HS5⟩
                  case measure => omega
          | succ gk =>
            have hlt : (k2 : Int) < (nP i : Int) := by omega
            obtain ⟨n9, xs9, ho⟩ := HS2.out.r i hi'
            obtain ⟨g, cur, ha, hB, hbk, hsz, hml⟩ := own_at ho (show k2 < nP i by omega)
            rw [ha] at p
            obtain ⟨u, hu⟩ := cell_in (k := k2) hbk (by omega)
            have hfz := hbk.frozen k2
            have HB := hideP hbk
            have hw1 : k2 + 1 ≤ 9223372036854775807 := by unfold maxLen at hml; omega
            clear ho hbk ha hml
            go_wp2_with fail
            go_roundg gk
            case rel => exact ⟨k2 + 1, by go_num, by omega, HS2.out.set HB.out (by decide) hB _ _⟩
            case measure => omega
end Go.Proofs.Ytcgafodaohmcmaa
