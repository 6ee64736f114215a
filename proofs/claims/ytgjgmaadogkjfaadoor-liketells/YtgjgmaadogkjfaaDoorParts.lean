/-
  What a pattern is made of: partsOf.
-/
import Derived.Test.YtgjgmaadogkjfaaDoorColl
namespace Go.Proofs.YtgjgmaadogkjfaaDoor
open Go.ChangeShapes Go.WideShapes Go.ChangeAt Go.RowKit Go.Shelf
set_option linter.unusedVariables false
attribute [local go_sem] Oper.semAt_some

theorem Tryd.infoPart : (Tryd.prog.info? 58).map (fun i => (i.zero, i.size, i.bytes)) = some (some (.agg #[.int .i32 0, .string ⟨#[]⟩]), 2, 24) := by kernel_rfl
def prtV (l : List LK.Part) : List Value := l.flatMap fun p => [.int .i32 p.1, sv p.2]
theorem prtV_snoc (l : List LK.Part) (p : LK.Part) : prtV (l ++ [p]) = prtV l ++ [.int .i32 p.1, .string ⟨p.2.toArray⟩] := by simp [prtV, sv]
theorem cell_two_new (w : World) (x y : Value) (t : TypeId) : ∀ j u, [x, y][j]? = some u → (w.alloc (.cells #[x, y] t)).cell? ((⟨w.heap.size, 0, none⟩ : Addr).add j) = some u := by
  intro j u hj
  match j, hj with
  | 0, hj => simp at hj; subst hj; simp [Addr.add]
  | 1, hj => simp at hj; subst hj; simp [Addr.add]
theorem cell_two_set (w : World) (a : Addr) (z x y : Value) (t : TypeId) : ∀ j u, [x, y][j]? = some u → ((w.setCell a z).alloc (.cells #[x, y] t)).cell? ((⟨w.heap.size, 0, none⟩ : Addr).add j) = some u := by
  have h := cell_two_new (w.setCell a z) x y t
  have e : (w.setCell a z).heap.size = w.heap.size := by simp
  rw [e] at h
  exact h
theorem Boxed.fr {W W' : World} {B : Nat} {t : TypeId} {v : Value} (h : Boxed W B t v) (f : Fr W W') : Boxed W' B t v := h.kept f.grown (by simp)
theorem keeps_fr {B : Nat} {W W' : World} (f : Fr W W') : KeepsFrom B W W' := ⟨f.size, fun k o _ hk _ => (f.block k (Array.getElem?_eq_some_iff.1 hk).1).trans hk⟩
theorem owns_fr {W W' : World} {base : Nat} {e : TypeId} {size : Nat} {v : Value} {n : Nat} {xs : List Value} (h : W.ownsRow base e size v n xs) (f : Fr W W') : W'.ownsRow base e size v n xs := h.kept f.grown (by cases hq : v.ownBlock <;> simp)

/-- behind a call that changes nothing and a store of the flag -/
theorem store_flag {w W W1 : World} {B N n : Nat} {S : ByteArray} {v u0 u : Value} {xs : List Value} (hf : Fr W W1) (hv : Boxed W B 43 v) (he : Boxed W (B + 1) 4 u0) (hs : Boxed W (B + 1 + 1) 9 (.string S))
    (hrow : W.ownsRow B 58 2 v n xs) (hB : Below B w W) :
    KeepsFrom N W (W1.setCell ⟨B + 1, 0, none⟩ u) ∧ Kp B (B + 1 + 1) W (W1.setCell ⟨B + 1, 0, none⟩ u) ∧ Boxed (W1.setCell ⟨B + 1, 0, none⟩ u) B 43 v ∧ Boxed (W1.setCell ⟨B + 1, 0, none⟩ u) (B + 1) 4 u ∧
      Boxed (W1.setCell ⟨B + 1, 0, none⟩ u) (B + 1 + 1) 9 (.string S) ∧ (W1.setCell ⟨B + 1, 0, none⟩ u).ownsRow B 58 2 v n xs ∧ Below B w (W1.setCell ⟨B + 1, 0, none⟩ u) := by
  have hv1 := Boxed.fr hv hf
  have he1 := Boxed.fr he hf
  have hs1 := Boxed.fr hs hf
  have hr1 := owns_fr hrow hf
  have hb1 : Below B W (W1.setCell ⟨B + 1, 0, none⟩ u) := (Below.mono hf (by have := hv.lt; omega)).setCell (p := ⟨B + 1, 0, none⟩) (by show B ≤ B + 1; omega) u
  have hs2 := hs1.other (B' := B + 1) (by omega) u
  exact ⟨(keeps_fr hf).trans ((KeepsOthers.setCell _ _ _).from _), ⟨hb1, hs2.trans hs.symm⟩, hv1.other (by omega) u, he1.set u, hs2, ownsRow_setCell_other hr1 (a := ⟨B + 1, 0, none⟩) (fun e => he1.not_row (by decide) hr1 e.symm) u, hB.trans hb1⟩

/-- behind an append, and its store -/
theorem append_flag {w W w1 : World} {B N n m : Nat} {S : ByteArray} {v v' u : Value} {xs ys : List Value} {tmp : Obj} (hv : Boxed W B 43 v) (he : Boxed W (B + 1) 4 u) (hs : Boxed W (B + 1 + 1) 9 (.string S))
    (hrow : W.ownsRow B 58 2 v n xs) (hB : Below B w W) (hown' : w1.ownsRow B 58 2 v' m ys) (hgrow : (W.alloc tmp).grownBy w1 v.ownBlock) :
    Boxed w1 B 43 v ∧ KeepsFrom N W (w1.setCell ⟨B, 0, none⟩ v') ∧ Kp B (B + 1 + 1) W (w1.setCell ⟨B, 0, none⟩ v') ∧ Boxed (w1.setCell ⟨B, 0, none⟩ v') B 43 v' ∧ Boxed (w1.setCell ⟨B, 0, none⟩ v') (B + 1) 4 u ∧
      Boxed (w1.setCell ⟨B, 0, none⟩ v') (B + 1 + 1) 9 (.string S) ∧ (w1.setCell ⟨B, 0, none⟩ v').ownsRow B 58 2 v' m ys ∧ Below B w (w1.setCell ⟨B, 0, none⟩ v') := by
  obtain ⟨a1, a2, a3, a4, a5⟩ := hv.appended (by decide) hrow (by have := hv.lt; omega) (Nat.le_refl _) hown' hgrow
  have he2 : Boxed w1 (B + 1) 4 u := (he.alloc tmp).kept hgrow (he.not_row (by decide) hrow)
  have hs2 : Boxed w1 (B + 1 + 1) 9 (.string S) := (hs.alloc tmp).kept hgrow (hs.not_row (by decide) hrow)
  have hs3 := hs2.other (B' := B) (by omega) v'
  exact ⟨a1, a4.from _, ⟨a5, hs3.trans hs.symm⟩, a2, he2.other (by omega) v', hs3, a3, hB.trans a5⟩

/-- the answer of partsOf -/
def PtAns (S : ByteArray) (w : World) (e : Ending) (W' : World) : Prop :=
  ((LK.run (LK.pc S.data.toList)).1 = true ∧ e = .returned (.tuple #[.slice none 0 0, .int .i64 1]) ∧ Fr w W') ∨
  ((LK.run (LK.pc S.data.toList)).1 = false ∧ ∃ v, e = .returned (.tuple #[v, .int .i64 0]) ∧ W'.ownsRow w.heap.size 58 2 v (LK.run (LK.pc S.data.toList)).2.length (prtV (LK.run (LK.pc S.data.toList)).2) ∧ Fr w W')

set_option maxRecDepth 100000 in
set_option maxHeartbeats 2000000 in
theorem partsOf_in (n : Nat) (hn : 5 ≤ n) (S : ByteArray) (hS : S.size ≤ 32) (w : World) (hT : Tb w) :
    CallsIn Fence.wide n Tryd.prog 22 #[.string S] w fun e W' => PtAns S w e W' := by
  have h1 : 1 ≤ n := by omega
  have hz : ¬ (32 : Int) < (S.size : Int) := by omega
  obtain ⟨i0, hi, hz0, hz1, hz2⟩ := info_parts Tryd.infoPart
  refine callsIn_of_wp_marks Tryd.func22 rfl trivial ?_ rfl
  simp only [Tryd.ntmps22, List.size_toArray, List.length_cons, List.length_nil, Nat.reduceAdd, Nat.reduceSub, Array.replicate_succ, Array.replicate_zero, List.push_toArray, List.append_toArray, List.nil_append, List.cons_append]
  gi_wp2_with (refine ⟨trivial, ?_⟩; gi_at_call 26; refine (callsIn_wide.2 (pieces_any S _)).mono ?_; rintro _ _ ⟨rfl, rfl⟩)
  obtain ⟨W0, hW0⟩ : ∃ W0, ((w.alloc (.cells #[.slice none 0 0] 43)).alloc (.cells #[.bool false] 4)).alloc (.cells #[.string S] 9) = W0 := ⟨_, rfl⟩
  have bP : Boxed W0 w.heap.size 43 (.slice none 0 0) := by rw [← hW0]; exact ((Boxed.new w _ _).alloc _).alloc _
  have bE : Boxed W0 (w.heap.size + 1) 4 (.bool false) := by
    rw [← hW0]
    have := (Boxed.new (w.alloc (.cells #[.slice none 0 0] 43)) 4 (.bool false)).alloc (.cells #[.string S] 9)
    rwa [World.size_alloc] at this
  have bS : Boxed W0 (w.heap.size + 1 + 1) 9 (.string S) := by
    rw [← hW0]
    have := Boxed.new ((w.alloc (.cells #[.slice none 0 0] 43)).alloc (.cells #[.bool false] 4)) 9 (.string S)
    rwa [World.size_alloc, World.size_alloc] at this
  have hB0 : Below w.heap.size w W0 := by rw [← hW0]; exact (((Fr.refl w).alloc _).alloc _).alloc _
  have hsz : W0.heap.size = w.heap.size + 3 := by rw [← hW0]; simp
  have hlen : (LK.pc S.data.toList).length ≤ 32 := by
    have h1 := LK.pc_len S.data.toList
    have h2 : S.data.toList.length = S.size := by rw [Array.length_toList]; rfl
    omega
  rw [hW0]
  clear hW0
  refine wpIn_rangeFunc_ownG rfl h1 (gf := 35) (lb := #[.pointer (some ⟨w.heap.size + 1 + 1, 0, none⟩)]) rfl trivial (enters_of Tryd.func35 (by kernel_rfl) rfl)
    (seq_stops (n - 1) (by omega) S (by omega) (w.heap.size + 1 + 1) w.heap.size W0 hT.size (by omega) bS.cell (hT.fr hB0)) kp_t (kp_b (by omega) (by omega)) (Below.refl _ _) (fun _ => rfl)
    (fun pre W => (∃ v, Boxed W w.heap.size 43 v ∧ W.ownsRow w.heap.size 58 2 v (LK.run pre).2.length (prtV (LK.run pre).2) ∧ True) ∧ Boxed W (w.heap.size + 1) 4 (.bool (LK.run pre).1) ∧ Boxed W (w.heap.size + 1 + 1) 9 (.string S) ∧ Below w.heap.size w W)
    (fun _ _ _ => False)
    (OwnFrom.and (Own.from (holdsRow_own w.heap.size w.heap.size 43 58 2 (fun pre => (LK.run pre).2.length) (fun pre => prtV (LK.run pre).2) (fun pre v => True)) _) (OwnFrom.and (Own.from (boxed_own (w.heap.size + 1) 4 (fun pre => .bool (LK.run pre).1)) _) (OwnFrom.and (Own.from (boxed_own (w.heap.size + 1 + 1) 9 (fun pre => .string S)) _) (ownFrom_below (Nat.le_refl _) (by omega)))))
    (fun _ _ _ _ _ hs _ _ => hs)
    ⟨⟨_, bP, World.ownsRow_nil _ _ _ _, trivial⟩, bE, bS, hB0⟩
    (fun x => { tmps := #[.string S, undef, .slice none 0 0, .int .i64 0, .pointer (some ⟨w.heap.size, 0, none⟩), .pointer (some ⟨w.heap.size + 1, 0, none⟩), .string ⟨x.toArray⟩, undef, .string S, .int .i64 S.size, .bool false, .string S, .func (.func 35) #[] #[.pointer (some ⟨w.heap.size + 1 + 1, 0, none⟩)], .string ⟨x.toArray⟩, undef, undef, undef, undef, undef, undef, undef, undef, undef, undef, undef, undef, undef, undef, undef], defers := [] }) ?assign ?body ?done ?stop
  case assign =>
    intro l x W K hK
    gi_wp2
    exact hK
  case body =>
    rintro l pre x W ⟨⟨v, hv, hrow, _⟩, he, hs, hB⟩ hlt
    have hTW : Tb W := hT.fr hB
    have hkd := kindOf_any ⟨x.toArray⟩ W hTW
    have hst := LK.run_snoc pre x
    have hps0 := LK.run_len pre
    obtain ⟨ee, hee⟩ : ∃ ee, (LK.run pre).1 = ee := ⟨_, rfl⟩
    obtain ⟨ps, hps⟩ : ∃ ps, (LK.run pre).2 = ps := ⟨_, rfl⟩
    obtain ⟨K, hK⟩ : ∃ K, LK.kd x = K := ⟨_, rfl⟩
    rw [hee] at he
    rw [hps] at hrow hps0
    rw [show (⟨x.toArray⟩ : ByteArray).data.toList = x from rfl, hK] at hkd
    have HS : Hid (LK.run (pre ++ [x]) = if (if ee then 97 else K) = 92 then (true, ps) else (false, ps ++ [((if ee then 97 else K), x)])) := by
      unfold Hid
      rw [hst]
      unfold LK.step LK.kdE
      rw [hee, hps, hK]
    have hpl : ps.length < 32 := by omega
    clear hst hee hps hK hps0
    cases ee
    · by_cases h92 : K = 92
      · have hb92 : (K == 92) = true := by simp [h92]
        have HS2 : Hid (LK.run (pre ++ [x]) = (true, ps)) := by unfold Hid; rw [HS.out]; simp [h92]
        clear HS
        gi_wp2_with fail
        refine ⟨trivial, fun _ => by omega, ?_⟩
        refine (CallsIn.inRound l (callsIn_wide.2 hkd)).mono ?_
        rintro _ W1 ⟨rfl, hf⟩
        have ce := (Boxed.fr he hf).cell
        have fe := (Boxed.fr he hf).frozen
        obtain ⟨g1, g2, g3, g4, g5, g6, g7⟩ := store_flag (N := W0.heap.size) (u := .bool true) hf hv he hs hrow hB
        clear hkd
        gi_wp2
        refine ⟨g1, g2, ⟨v, g3, ?_, trivial⟩, ?_, g5, g7⟩
        · rw [HS2.out]
          exact g6
        · rw [HS2.out]
          exact g4
      · have hb92 : (K == 92) = false := by simp [h92]
        have HS2 : Hid (LK.run (pre ++ [x]) = (false, ps ++ [(K, x)])) := by unfold Hid; rw [HS.out]; simp [h92]
        clear HS
        gi_wp2_with fail
        refine ⟨trivial, fun _ => by omega, ?_⟩
        refine (CallsIn.inRound l (callsIn_wide.2 hkd)).mono ?_
        rintro _ W1 ⟨rfl, hf⟩
        have ce := (Boxed.fr he hf).cell
        have fe := (Boxed.fr he hf).frozen
        obtain ⟨g1, g2, g3, g4, g5, g6, g7⟩ := store_flag (N := W0.heap.size) (u := .bool false) hf hv he hs hrow hB
        have cv := g3.cell
        clear hkd
        gi_wp2_with (gi_at_builtin; refine wpListIn_append_own _ rfl _ _ 43 rfl w.heap.size 58 i0 (.agg #[.int .i32 0, .string ⟨#[]⟩]) 2 24 Tryd.underlying43 hi hz0 hz1 hz2 rfl (by decide) _ _ _ rfl (g6.alloc _) ⟨W1.heap.size, 0, none⟩ 1 1 [.int .i32 K, .string ⟨x.toArray⟩] rfl rfl ?c1 (by simp [Value.oneCell']) (by unfold maxLen; omega) (by omega) (by have := hB.size; have := hf.size; simp; omega) ?_)
        case c1 => exact cell_two_set W1 _ _ _ _ _
        intro v' w1 hown' hgrow _
        obtain ⟨g', cap', rfl⟩ := ownsRow_succ hown'
        obtain ⟨k0, k1, k2, k3, k4, k5, k6, k7⟩ := append_flag (N := W0.heap.size) g3 g4 g5 g6 g7 hown' hgrow
        have hc1 := k0.cell
        have hf1 := k0.frozen
        gi_wp2
        refine ⟨g1.trans k1, kp_t g2 k2, ⟨_, k3, ?_, trivial⟩, ?_, k5, k7⟩
        · rw [HS2.out]
          simpa [prtV_snoc] using k6
        · rw [HS2.out]
          exact k4
    · have HS2 : Hid (LK.run (pre ++ [x]) = (false, ps ++ [(97, x)])) := by unfold Hid; rw [HS.out]; simp
      clear HS
      gi_wp2_with fail
      refine ⟨trivial, fun _ => by omega, ?_⟩
      refine (CallsIn.inRound l (callsIn_wide.2 hkd)).mono ?_
      rintro _ W1 ⟨rfl, hf⟩
      have ce := (Boxed.fr he hf).cell
      have fe := (Boxed.fr he hf).frozen
      obtain ⟨g1, g2, g3, g4, g5, g6, g7⟩ := store_flag (N := W0.heap.size) (u := .bool false) hf hv he hs hrow hB
      have cv := g3.cell
      clear hkd
      gi_wp2_with (gi_at_builtin; refine wpListIn_append_own _ rfl _ _ 43 rfl w.heap.size 58 i0 (.agg #[.int .i32 0, .string ⟨#[]⟩]) 2 24 Tryd.underlying43 hi hz0 hz1 hz2 rfl (by decide) _ _ _ rfl (g6.alloc _) ⟨W1.heap.size, 0, none⟩ 1 1 [.int .i32 97, .string ⟨x.toArray⟩] rfl rfl ?c1 (by simp [Value.oneCell']) (by unfold maxLen; omega) (by omega) (by have := hB.size; have := hf.size; simp; omega) ?_)
      case c1 => exact cell_two_set W1 _ _ _ _ _
      intro v' w1 hown' hgrow _
      obtain ⟨g', cap', rfl⟩ := ownsRow_succ hown'
      obtain ⟨k0, k1, k2, k3, k4, k5, k6, k7⟩ := append_flag (N := W0.heap.size) g3 g4 g5 g6 g7 hown' hgrow
      have hc1 := k0.cell
      have hf1 := k0.frozen
      gi_wp2
      refine ⟨g1.trans k1, kp_t g2 k2, ⟨_, k3, ?_, trivial⟩, ?_, k5, k7⟩
      · rw [HS2.out]
        simpa [prtV_snoc] using k6
      · rw [HS2.out]
        exact k4
  case done =>
    rintro D ys W hD rfl ⟨⟨v, hv, hrow, _⟩, he, hs, hB⟩ hK
    have hc := hv.cell
    have hce := he.cell
    have hfin : Fr w (W.putObj D (.deferred none)) := hB.trans (belowK_b (w := w) (Nat.le_refl _) W D _ _ (by omega) hK rfl rfl)
    cases hrun : (LK.run (LK.pc S.data.toList)).1 with
    | true =>
      rw [hrun] at hce
      gi_wp2
      refine ⟨by simp, .inl ⟨_, _, rfl, run_takeDeferred hK, ?_⟩⟩
      exact ⟨_, results_tmp2 rfl _ _ _, .inl ⟨hrun, rfl, hfin⟩⟩
    | false =>
      rw [hrun] at hce
      gi_wp2
      refine ⟨by simp, .inl ⟨_, _, rfl, run_takeDeferred hK, ?_⟩⟩
      exact ⟨_, results_tmp2 rfl _ _ _, .inr ⟨hrun, v, rfl, ownsRow_putObj hrow _ hK rfl, hfin⟩⟩
  case stop =>
    rintro D c pre W _ _ h _
    exact h.elim
end Go.Proofs.YtgjgmaadogkjfaaDoor
