/-
  Escape of package like.
-/
import Derived.Test.YtgjgmaadogkjfaaDoorPrefix
namespace Go.Proofs.YtgjgmaadogkjfaaDoor
open Go.ChangeShapes Go.WideShapes Go.ChangeAt Go.RowKit Go.Shelf
set_option linter.unusedVariables false
attribute [local go_sem] Oper.semAt_some

theorem bd_own {β : Type} (B b : Nat) (f : β → LK.Bs) : Own (fun s W => Bd B b (f s) W) := by
  intro s X Y row hs hg hrow
  have key : ∀ p, Lib.BuilderAt 56 5 B b p (Lib.byteCells (f s)) X → Lib.BuilderAt 56 5 B b p (Lib.byteCells (f s)) Y := by
    rintro p ⟨hB, v, hb, hown, hne⟩
    refine ⟨hB, v, (hg.block b (Array.getElem?_eq_some_iff.1 hb).1 ?_).trans hb, hown.kept hg ?_, hne⟩
    · intro e
      obtain ⟨o, ho, hc⟩ := hrow b e.symm
      rw [hb] at ho; cases ho; cases hc
    · rcases hown.2 with ⟨rfl, _⟩ | ⟨g, cap, cur, rfl, _, hgb, _⟩
      · exact .inl rfl
      · refine .inr fun e' => ?_
        obtain ⟨o, ho, hc⟩ := hrow g (by simpa [Value.ownBlock] using e'.symm)
        rw [hgb] at ho; cases ho; cases hc
  rcases hs with h | h
  · exact Or.inl (key _ h)
  · exact Or.inr (key _ h)

/-- behind a write into the builder -/
theorem wrote {W W1 W2 : World} {B N : Nat} {S : ByteArray} (hk : KeepsFrom N W W1 ∧ Kp B (B + 1) W W1) (hs : Boxed W1 (B + 1) 9 (.string S)) (hB : B < N) (hb : Below B W1 W2) (ho : Lib.OthersKept 5 (some B) W1 W2) :
    (KeepsFrom N W W2 ∧ Kp B (B + 1) W W2) ∧ Boxed W2 (B + 1) 9 (.string S) := by
  have hs2 : Boxed W2 (B + 1) 9 (.string S) := ho (B + 1) _ hs (by simp) (by intro c fz e; cases e)
  refine ⟨⟨hk.1.trans ⟨hb.size, fun k o hk' h1 h2 => ho k o h1 (by simp; omega) (by intro c fz e; subst e; cases h2)⟩, kp_t hk.2 ⟨hb, hs2.trans hs.symm⟩⟩, hs2⟩

set_option maxRecDepth 100000 in
set_option maxHeartbeats 2000000 in
theorem escape_in (n : Nat) (hn : 5 ≤ n) (S : ByteArray) (hS : S.size ≤ 16) (w : World) (hT : Tb w) :
    CallsIn Fence.wide n Tryd.prog 16 #[.string S] w fun e W' => e = .returned (.tuple #[.string ⟨(LK.esc (LK.pc S.data.toList)).toArray⟩, .int .i64 0]) ∧ Fr w W' := by
  have h1 : 1 ≤ n := by omega
  have hz : ¬ (16 : Int) < (S.size : Int) := by omega
  refine callsIn_of_wp_marks Tryd.func16 rfl trivial ?_ rfl
  simp only [Tryd.ntmps16, List.size_toArray, List.length_cons, List.length_nil, Nat.reduceAdd, Nat.reduceSub, Array.replicate_succ, Array.replicate_zero, List.push_toArray, List.append_toArray, List.nil_append, List.cons_append]
  gi_wp2_with (refine ⟨trivial, ?_⟩; gi_at_call 26; refine (callsIn_wide.2 (pieces_any S _)).mono ?_; rintro _ _ ⟨rfl, rfl⟩)
  obtain ⟨W0, hW0⟩ : ∃ W0, (w.alloc (.cells #[.pointer none, .slice none 0 0] 56)).alloc (.cells #[.string S] 9) = W0 := ⟨_, rfl⟩
  have bB : Bd w.heap.size w.heap.size [] W0 := by rw [← hW0]; exact Bd.alloc (Bd.fresh w) _
  have bS : Boxed W0 (w.heap.size + 1) 9 (.string S) := by
    rw [← hW0]
    have := Boxed.new (w.alloc (.cells #[.pointer none, .slice none 0 0] 56)) 9 (.string S)
    rwa [World.size_alloc] at this
  have hB0 : Below w.heap.size w W0 := by rw [← hW0]; exact ((Fr.refl w).alloc _).alloc _
  have hsz : W0.heap.size = w.heap.size + 2 := by rw [← hW0]; simp
  have hlen : (LK.pc S.data.toList).length ≤ 16 := by
    have h1 := LK.pc_len S.data.toList
    have h2 : S.data.toList.length = S.size := by rw [Array.length_toList]; rfl
    omega
  rw [hW0]
  clear hW0
  refine wpIn_rangeFunc_ownG rfl h1 (gf := 35) (lb := #[.pointer (some ⟨w.heap.size + 1, 0, none⟩)]) rfl trivial (enters_of Tryd.func35 (by kernel_rfl) rfl)
    (seq_stops4 (n - 1) (by omega) S (by omega) (w.heap.size + 1) w.heap.size W0 hT.size (by omega) bS.cell (hT.fr hB0)) kp_t (kp_b (by omega) (by omega)) (Below.refl _ _) (fun _ => rfl)
    (fun pre W => Bd w.heap.size w.heap.size (LK.esc (bs4 pre)) W ∧ Boxed W (w.heap.size + 1) 9 (.string S) ∧ Below w.heap.size w W)
    (fun _ _ _ => False)
    (OwnFrom.and (Own.from (bd_own w.heap.size w.heap.size (fun pre => LK.esc (bs4 pre))) _) (OwnFrom.and (Own.from (boxed_own (w.heap.size + 1) 9 (fun pre => .string S)) _) (ownFrom_below (Nat.le_refl _) (by omega))))
    (fun _ _ _ _ _ hs _ _ => hs)
    ⟨bB, bS, hB0⟩
    (fun x => { tmps := #[.string S, undef, .string ⟨#[]⟩, .int .i64 0, .pointer (some ⟨w.heap.size, 0, none⟩), .string ⟨x.1.toArray⟩, .string S, .int .i64 S.size, .bool false, .string S, .func (.func 35) #[] #[.pointer (some ⟨w.heap.size + 1, 0, none⟩)], .string ⟨x.1.toArray⟩, undef, undef, undef, undef, undef, undef, undef], defers := [] }) ?assign ?body ?done ?stop
  case assign =>
    intro l x W K hK
    gi_wp2
    exact hK
  case body =>
    rintro l pre x W ⟨hb, hs, hB⟩ hlt
    have hTW : Tb W := hT.fr hB
    have hkd := kindOf_any ⟨x.1.toArray⟩ W hTW
    have hel : (LK.esc (bs4 pre)).length ≤ 5 * 16 := by
      have h1 := LK.esc_len (bs4 pre) (fun y hy => by unfold bs4 at hy; obtain ⟨z, _, rfl⟩ := List.mem_map.1 hy; exact z.2)
      rw [bs4_len] at h1
      omega
    obtain ⟨y, hy4⟩ := x
    simp only at hkd
    obtain ⟨E, hE⟩ : ∃ E, LK.esc (bs4 pre) = E := ⟨_, rfl⟩
    obtain ⟨K, hK⟩ : ∃ K, LK.kd y = K := ⟨_, rfl⟩
    have HS : Hid (LK.esc (bs4 (pre ++ [⟨y, hy4⟩])) = E ++ (if K = 97 then y else 92 :: y)) := by
      unfold Hid
      rw [bs4_snoc, LK.esc_snoc, hE, hK]
    rw [hK] at hkd
    rw [hE] at hb hel
    have hys : (⟨y.toArray⟩ : ByteArray).size = y.length := rfl
    have HY : Hid _ := hys
    clear hE hK hys
    by_cases h97 : K = 97
    · subst h97
      have HS2 : Hid (LK.esc (bs4 (pre ++ [⟨y, hy4⟩])) = E ++ y) := by unfold Hid; rw [HS.out, if_pos rfl]
      clear HS
      gi_wp2_with fail
      refine ⟨trivial, fun _ => by omega, ?_⟩
      refine (CallsIn.inRound l (callsIn_wide.2 hkd)).mono ?_
      rintro _ W1 ⟨rfl, hf⟩
      have hs1 := Boxed.fr hs hf
      have hw1 := writeString_any w.heap.size w.heap.size E ⟨y.toArray⟩ W1 (Bd.fr hb hf) (by rw [HY.out]; omega) (by have := hB.size; have := hf.size; omega)
      have hk1 : KeepsFrom W0.heap.size W W1 ∧ Kp w.heap.size (w.heap.size + 1) W W1 := ⟨keeps_fr hf, Below.mono hf hB.size, hf.block _ hs.lt⟩
      clear hkd
      gi_wp2_with fail
      refine ⟨trivial, fun _ => by omega, ?_⟩
      refine (CallsIn.inRound l (callsIn_wide.2 hw1)).mono ?_
      rintro _ W2 ⟨rfl, hb2, hl2, ho2⟩
      obtain ⟨k1, k2⟩ := wrote hk1 hs1 (by omega) hl2 ho2
      gi_wp2
      exact ⟨k1.1, k1.2, by rw [HS2.out]; exact hb2, k2, hB.trans k1.2.1⟩
    · have b97 : (K != 97) = true := by simp [h97]
      have HS2 : Hid (LK.esc (bs4 (pre ++ [⟨y, hy4⟩])) = (E ++ [92]) ++ y) := by unfold Hid; rw [HS.out, if_neg h97]; simp
      clear HS
      gi_wp2_with fail
      refine ⟨trivial, fun _ => by omega, ?_⟩
      refine (CallsIn.inRound l (callsIn_wide.2 hkd)).mono ?_
      rintro _ W1 ⟨rfl, hf⟩
      have hs1 := Boxed.fr hs hf
      have hz1 : w.heap.size ≤ W1.heap.size := by have := hB.size; have := hf.size; omega
      have hr1 := writeRune_any w.heap.size w.heap.size E W1 (Bd.fr hb hf) (by omega) hz1
      have hk1 : KeepsFrom W0.heap.size W W1 ∧ Kp w.heap.size (w.heap.size + 1) W W1 := ⟨keeps_fr hf, Below.mono hf hB.size, hf.block _ hs.lt⟩
      clear hkd
      gi_wp2_with fail
      refine ⟨trivial, fun _ => by omega, ?_⟩
      refine (CallsIn.inRound l (callsIn_wide.2 hr1)).mono ?_
      rintro _ W2 ⟨v, rfl, hb2, hl2, ho2⟩
      obtain ⟨k1, k2⟩ := wrote hk1 hs1 (by omega) hl2 ho2
      have hw1 := writeString_any w.heap.size w.heap.size (E ++ [92]) ⟨y.toArray⟩ W2 hb2 (by rw [HY.out, List.length_append]; simp only [List.length_cons, List.length_nil]; omega) (by have := hl2.size; omega)
      clear hr1
      gi_wp2_with fail
      refine ⟨trivial, fun _ => by omega, ?_⟩
      refine (CallsIn.inRound l (callsIn_wide.2 hw1)).mono ?_
      rintro _ W3 ⟨rfl, hb3, hl3, ho3⟩
      obtain ⟨k3, k4⟩ := wrote k1 k2 (by omega) hl3 ho3
      gi_wp2
      exact ⟨k3.1, k3.2, by rw [HS2.out]; exact hb3, k4, hB.trans k3.2.1⟩
  case done =>
    rintro D ys W hD hys ⟨hb, hs, hB⟩ hK
    rw [hys] at hb
    have hst := Tryd.Builder_String_any_k w.heap.size w.heap.size _ W (Lib.IsBuilderF.of hb) hB.size
    gi_wp2_with fail
    refine ⟨trivial, ?_⟩
    refine (callsIn_wide.2 hst).mono ?_
    rintro _ W2 ⟨rfl, _, hl2, ho2⟩
    have hK2 : W2.heap[D]? = some (.deferred (some [])) := ho2 D _ hK (by simp; omega) (by intro c fz e; cases e)
    gi_wp2
    refine ⟨by simp, .inl ⟨_, _, rfl, run_takeDeferred hK2, ?_⟩⟩
    exact ⟨_, results_tmp2 rfl _ _ _, rfl, (hB.trans hl2).trans (belowK_b (w := w) (Nat.le_refl _) W2 D _ _ (by omega) hK2 rfl rfl)⟩
  case stop =>
    rintro D c pre W _ _ h _
    exact h.elim

/-- what Escape tells of a text -/
def escd (S : ByteArray) : LK.Bs := if 16 < S.size then [] else LK.esc (LK.pc S.data.toList)

set_option maxRecDepth 100000 in
set_option maxHeartbeats 1000000 in
theorem escape_any (S : ByteArray) (w : World) (hb : S.size ≤ 9223372036854775807) (hT : Tb w) :
    Calls Tryd.prog 16 #[.string S] w fun e W' => e = .returned (.tuple #[.string ⟨(escd S).toArray⟩, .int .i64 (if 16 < S.size then 2 else 0)]) ∧ Fr w W' := by
  unfold escd
  by_cases h16 : 16 < S.size
  · have hz : (16 : Int) < (S.size : Int) := by omega
    rw [if_pos h16, if_pos h16]
    go_enter Tryd.func16, Tryd.ntmps16
    go_wp2
    go_ret2
    exact ⟨rfl, Fr.refl _⟩
  · rw [if_neg h16, if_neg h16]
    exact callsIn_wide.1 (escape_in 5 (Nat.le_refl _) S (by omega) w hT)
end Go.Proofs.YtgjgmaadogkjfaaDoor
