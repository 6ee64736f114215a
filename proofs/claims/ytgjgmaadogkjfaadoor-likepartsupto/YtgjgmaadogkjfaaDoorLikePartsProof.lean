/-
  Proved: for all patterns and texts of together at most 1048576 values and letters, Pieces, Prefix and Escape answer just what the document says, errors too. (LikeParts, its second form; the two tables of Go's decoder are as its text lays them. The first form is false by size alone: the document's own pieces of a text of up to 2^47 bytes pass what a slice may take.)
-/
import Derived.Test.YtgjgmaadogkjfaaDoorTabs
import Derived.Test.YtgjgmaadogkjfaaDoorRefEsc
import Derived.Deep.DeepHandedRow
namespace Go.Proofs.YtgjgmaadogkjfaaDoor
namespace likePartsProof
open Go.ChangeShapes Go.WideShapes Go.ChangeAt Go.RowKit
open Go.ChangeMaps (open_string shut_string)
set_option linter.unusedVariables false

set_option maxRecDepth 100000 in
set_option maxHeartbeats 4000000 in
theorem core (p s px ts es fs : ByteArray) (wh all : Bool) (e u : Nat) (l m : List LK.Bs) (W : World) (hT : Tb W) (hm : m.length ≤ 4194304) (hl : l.length ≤ 4194304)
    (c1 : ∀ W1, Tb W1 → Calls Tryd.prog 14 #[.string s] W1 fun r W' => ∃ v l', r = .returned (.tuple #[v, .int .i64 e]) ∧ l' = l ∧ IsTx W' v l' ∧ Fr W1 W')
    (c2 : ∀ W1, Tb W1 → Calls Tryd.prog 15 #[.string p] W1 fun r W' => r = .returned (.tuple #[.string px, .bool wh, .int .i64 u]) ∧ Fr W1 W')
    (c3 : ∀ W1, Tb W1 → Calls Tryd.prog 16 #[.string s] W1 fun r W' => r = .returned (.tuple #[.string ts, .int .i64 e]) ∧ Fr W1 W')
    (c4 : ∀ W1, Calls Tryd.prog 17 #[.string s] W1 fun r W' => ∃ v, r = .returned v ∧ IsTx W' v m ∧ Fr W1 W')
    (c5 : ∀ W1, Calls Tryd.prog 18 #[.string s] W1 fun r W' => r = .returned (.string es) ∧ W1 = W')
    (c6 : ∀ W1, Calls Tryd.prog 11 #[.string p] W1 fun r W' => r = .returned (.int .i64 u) ∧ Fr W1 W')
    (c7 : ∀ W1, u = 0 → Calls Tryd.prog 19 #[.string p] W1 fun r W' => r = .returned (.tuple #[.string fs, .bool all]) ∧ Fr W1 W')
    (fit1 : (16 < s.size ∧ e = 2 ∧ l = [] ∧ ts = ⟨#[]⟩) ∨ (s.size ≤ 16 ∧ e = 0 ∧ l = m ∧ ts = es))
    (fit2 : (u ≠ 0 ∧ px = ⟨#[]⟩ ∧ wh = false) ∨ (u = 0 ∧ px = fs ∧ wh = all)) :
    Calls Tryd.prog 4 #[.string p, .string s] W fun r W' => r = .returned (.bool true) ∧ Fr W W' := by
  have C1 : Hid _ := c1
  have C2 : Hid _ := c2
  have C3 : Hid _ := c3
  have C4 : Hid _ := c4
  have C5 : Hid _ := c5
  have C6 : Hid _ := c6
  have HF1 : Hid _ := fit1
  clear c1 c2 c3 c4 c5 c6 fit1
  rcases fit2 with ⟨hu, rfl, rfl⟩ | ⟨rfl, rfl, rfl⟩
  · clear c7
    have q1 : ((u : Int) == 0) = false := by simp [hu]
    have q2 : ¬ ((u : Int) = 0) := by omega
    go_enter Tryd.func4, Tryd.ntmps4
    go_wp2_with fail
    refine (C1.out W hT).mono ?_
    rintro _ w1 ⟨v, l', rfl, rfl, htx, f1⟩
    have HTX : Hid (IsTx w1 v l') := htx
    clear htx
    have t1 := hT.fr f1
    go_wp2_with fail
    refine (C2.out w1 t1).mono ?_
    rintro _ w2 ⟨rfl, f2⟩
    go_wp2_with fail
    refine (C3.out w2 (t1.fr f2)).mono ?_
    rintro _ w3 ⟨rfl, f3⟩
    go_wp2_with fail
    refine (C4.out w3).mono ?_
    rintro _ w4 ⟨v2, rfl, htx2, f4⟩
    have HTX2 : Hid (IsTx w4 v2 m) := htx2
    clear htx2
    go_wp2_with fail
    refine (C5.out w4).mono ?_
    rintro _ _ ⟨rfl, rfl⟩
    have t4 : Tb w4 := ((t1.fr f2).fr f3).fr f4
    rcases HF1.out with ⟨h16, rfl, rfl, rfl⟩ | ⟨h16, rfl, rfl, rfl⟩
    · have z : (16 : Int) < (s.size : Int) := by omega
      go_wp2_with fail
      refine (C6.out w4).mono ?_
      rintro _ w5 ⟨rfl, f5⟩
      have cb := begun_any w5 (t4.fr f5)
      go_wp2_with fail
      refine cb.mono ?_
      rintro _ w6 ⟨rfl, f6⟩
      clear cb
      have cs := sameTexts_any v (.slice none 0 0) [] [] w6 (IsTx.fr HTX.out ((((f2.trans f3).trans f4).trans f5).trans f6)) ⟨none, 0, rfl, Nat.le_refl _, Or.inl rfl⟩ (by simp) (by simp)
      have es2 : (([] : List LK.Bs) == []) = true := rfl
      rw [es2] at cs
      clear es2
      go_wp2_with fail
      refine cs.mono ?_
      rintro _ w7 ⟨rfl, f7⟩
      clear cs
      go_wp2
      go_ret
      exact ⟨rfl, (((((f1.trans f2).trans f3).trans f4).trans f5).trans f6).trans f7⟩
    · have z : ¬ (16 : Int) < (s.size : Int) := by omega
      go_wp2_with fail
      refine (C6.out w4).mono ?_
      rintro _ w5 ⟨rfl, f5⟩
      have cb := begun_any w5 (t4.fr f5)
      go_wp2_with fail
      refine cb.mono ?_
      rintro _ w6 ⟨rfl, f6⟩
      clear cb
      have cs := sameTexts_any v v2 l' l' w6 (IsTx.fr HTX.out ((((f2.trans f3).trans f4).trans f5).trans f6)) (IsTx.fr HTX2.out (f5.trans f6)) (by omega) (by omega)
      rw [beq_self_eq_true] at cs
      go_wp2_with fail
      refine cs.mono ?_
      rintro _ w7 ⟨rfl, f7⟩
      clear cs
      go_wp2
      go_ret
      exact ⟨rfl, (((((f1.trans f2).trans f3).trans f4).trans f5).trans f6).trans f7⟩
  · have C7 : Hid _ := fun W1 => c7 W1 rfl
    clear c7
    go_enter Tryd.func4, Tryd.ntmps4
    go_wp2_with fail
    refine (C1.out W hT).mono ?_
    rintro _ w1 ⟨v, l', rfl, rfl, htx, f1⟩
    have HTX : Hid (IsTx w1 v l') := htx
    clear htx
    have t1 := hT.fr f1
    go_wp2_with fail
    refine (C2.out w1 t1).mono ?_
    rintro _ w2 ⟨rfl, f2⟩
    go_wp2_with fail
    refine (C3.out w2 (t1.fr f2)).mono ?_
    rintro _ w3 ⟨rfl, f3⟩
    go_wp2_with fail
    refine (C4.out w3).mono ?_
    rintro _ w4 ⟨v2, rfl, htx2, f4⟩
    have HTX2 : Hid (IsTx w4 v2 m) := htx2
    clear htx2
    go_wp2_with fail
    refine (C5.out w4).mono ?_
    rintro _ _ ⟨rfl, rfl⟩
    have t4 : Tb w4 := ((t1.fr f2).fr f3).fr f4
    rcases HF1.out with ⟨h16, rfl, rfl, rfl⟩ | ⟨h16, rfl, rfl, rfl⟩
    · have z : (16 : Int) < (s.size : Int) := by omega
      go_wp2_with fail
      refine (C6.out w4).mono ?_
      rintro _ w5 ⟨rfl, f5⟩
      go_wp2_with fail
      refine (C7.out w5).mono ?_
      rintro _ w8 ⟨rfl, f8⟩
      have cb := begun_any w8 ((t4.fr f5).fr f8)
      go_wp2_with fail
      refine cb.mono ?_
      rintro _ w6 ⟨rfl, f6⟩
      clear cb
      have cs := sameTexts_any v (.slice none 0 0) [] [] w6 (IsTx.fr HTX.out (((((f2.trans f3).trans f4).trans f5).trans f8).trans f6)) ⟨none, 0, rfl, Nat.le_refl _, Or.inl rfl⟩ (by simp) (by simp)
      have es2 : (([] : List LK.Bs) == []) = true := rfl
      rw [es2] at cs
      clear es2
      go_wp2_with fail
      refine cs.mono ?_
      rintro _ w7 ⟨rfl, f7⟩
      clear cs
      go_wp2
      go_ret
      exact ⟨rfl, ((((((f1.trans f2).trans f3).trans f4).trans f5).trans f8).trans f6).trans f7⟩
    · have z : ¬ (16 : Int) < (s.size : Int) := by omega
      go_wp2_with fail
      refine (C6.out w4).mono ?_
      rintro _ w5 ⟨rfl, f5⟩
      go_wp2_with fail
      refine (C7.out w5).mono ?_
      rintro _ w8 ⟨rfl, f8⟩
      have cb := begun_any w8 ((t4.fr f5).fr f8)
      go_wp2_with fail
      refine cb.mono ?_
      rintro _ w6 ⟨rfl, f6⟩
      clear cb
      have cs := sameTexts_any v v2 l' l' w6 (IsTx.fr HTX.out (((((f2.trans f3).trans f4).trans f5).trans f8).trans f6)) (IsTx.fr HTX2.out ((f5.trans f8).trans f6)) (by omega) (by omega)
      rw [beq_self_eq_true] at cs
      go_wp2_with fail
      refine cs.mono ?_
      rintro _ w7 ⟨rfl, f7⟩
      clear cs
      go_wp2
      go_ret
      exact ⟨rfl, ((((((f1.trans f2).trans f3).trans f4).trans f5).trans f8).trans f6).trans f7⟩

theorem walk (a0 a1 : ByteArray) (W : World) (hT : Tb W) (b0 : a0.size ≤ 1048576) (b1 : a1.size ≤ 1048576) :
    Calls Tryd.prog 4 #[.string a0, .string a1] W fun r W' => r = .returned (.bool true) ∧ Fr W W' := by
  have hpl : (LK.pc a1.data.toList).length ≤ 1048576 := by
    have h1 := LK.pc_len a1.data.toList
    have h2 : a1.data.toList.length = a1.size := by rw [Array.length_toList]; rfl
    omega
  refine core a0 a1 ⟨(pfx a0).toArray⟩ ⟨(escd a1).toArray⟩ ⟨(LK.besc a1.data.toList).toArray⟩ ⟨(LK.pre (prts a0)).toArray⟩ (whl a0) (LK.whole (prts a0)) (if 16 < a1.size then 2 else 0) (perr a0) (if 16 < a1.size then [] else LK.pc a1.data.toList) (LK.pc a1.data.toList) W hT (by omega) ?_ ?_
    (fun W1 t => prefix_any a0 W1 (by omega) t) ?_ (fun W1 => piecesOf_any a1 W1 (by omega)) (fun W1 => (escapedOf_any a1 W1 (by omega)).mono fun e w' h => ⟨h.1, h.2.symm⟩) (fun W1 => patternCheck_any a0 W1 (by omega)) (fun W1 h => prefixOf_any a0 W1 h) ?_ ?_
  · split
    · simp
    · omega
  · intro W1 t
    refine (likePieces_any a1 W1 (by omega) t).mono ?_
    rintro e w' ⟨v, l, h1, h2, h3, h4⟩
    refine ⟨v, l, ?_, h2, h3, h4⟩
    rw [h1]
    split <;> rfl
  · intro W1 t
    refine (escape_any a1 W1 (by omega) t).mono ?_
    rintro e w' ⟨h1, h2⟩
    refine ⟨?_, h2⟩
    rw [h1]
    split <;> rfl
  · by_cases h : 16 < a1.size
    · refine Or.inl ⟨h, if_pos h, if_pos h, ?_⟩
      unfold escd
      rw [if_pos h]
    · refine Or.inr ⟨by omega, if_neg h, if_neg h, ?_⟩
      unfold escd
      rw [if_neg h, LK.besc_eq]
  · by_cases h : perr a0 = 0
    · refine Or.inr ⟨h, ?_, ?_⟩
      · unfold pfx; rw [if_pos h]
      · unfold whl; rw [h]; simp
    · refine Or.inl ⟨h, ?_, ?_⟩
      · unfold pfx; rw [if_neg h]
      · unfold whl; simp [h]

theorem contract (H : Type) (enc : TypeId × Value → H) (W : World) (base : Nat) (args : Array Value) (ds gs : List (DataW H)) (before : List MemPlace)
    (hval : ∀ (j : Nat) t v, Tryd.f4.params[j]? = some t → args[j]? = some v → Value.okWide Tryd.prog W .any base t v)
    (hW : DataW.Whole enc Tryd.prog Tryd.f4.params.toList Rows.likePartsSpec.vars false W args.toList ds gs before) (hk : Rows.uptoSmall H (ds ++ gs) = true) (hL : laidMetH Tryd.prog Rows.likePartsUptoRow.laid W) :
    Calls Tryd.prog 4 args W fun e W' => ∃ v, e = .returned v ∧ Rows.likePartsSpec.post enc Tryd.prog Tryd.f4 false true false false W args v W' := by
  have hT : Tb W := tabs_of_laid hL
  have hW' := hW
  obtain ⟨p, q, hA0, hV, rfl, hfz, hnd⟩ := hW
  have hA : DataW.TrodAll enc Tryd.prog W 0 (fun _ => true) true Tryd.f4.params.toList args.toList ds p := hA0
  rw [Tryd.params4] at hA hval
  obtain ⟨v0, vs0, d0, ds0, p0, q0, hargs, rfl, rfl, h0, r0⟩ := trodAll_cons hA
  obtain ⟨v1, vs1, d1, ds1, p1, q1, rfl, rfl, rfl, h1, r1⟩ := trodAll_cons r0
  obtain ⟨rfl, rfl, rfl⟩ := trodAll_nil r1
  obtain rfl : args = #[v0, v1] := by cases args; simp_all
  obtain ⟨rfl, rfl⟩ := trodVars_none hV
  obtain ⟨a0, rfl, rfl, rfl, w0⟩ := open_string Tryd.underlying9 (hval 0 9 v0 rfl rfl) h0
  obtain ⟨a1, rfl, rfl, rfl, w1⟩ := open_string Tryd.underlying9 (hval 1 9 v1 rfl rfl) h1
  have hbulk : Rows.uptoBulkAll (H := H) [.lit (.string a0.data.toList), .lit (.string a1.data.toList)] ≤ 1048576 := of_decide_eq_true hk
  simp only [Rows.uptoBulkAll, Rows.uptoBulk] at hbulk
  have b0 : a0.size ≤ 1048576 := by
    have e : a0.data.toList.length = a0.size := by rw [Array.length_toList]; rfl
    omega
  have b1 : a1.size ≤ 1048576 := by
    have e : a1.data.toList.length = a1.size := by rw [Array.length_toList]; rfl
    omega
  clear hA0
  simp only [List.append_nil] at hW'
  refine (walk a0 a1 W hT b0 b1).mono fun e W' ⟨he, bel⟩ => ?_
  subst he
  exact ⟨_, rfl, _, _, _, [], _, [], hW', trodAll_mk1 (shut_bool Tryd.underlying4 _), (trodAll_cons_mk (shut_string Tryd.underlying9 w0) (trodAll_cons_mk (shut_string Tryd.underlying9 w1) trodAll_mk0)), rfl, Below.frame bel _, fun h => by cases h⟩


theorem reads (os : Os) {H : Type} (enc : TypeId × Value → H) : ∃ places, DataW.whole enc Tryd.prog ((World.laidAll Tryd.prog os Rows.likePartsUptoRow.laid).forCall (fun _ _ => 0) ⟨#[], #[.string ByteArray.empty, .string ByteArray.empty], []⟩).memory Tryd.f4.params.toList Rows.likePartsSpec.vars false #[Value.string ByteArray.empty, Value.string ByteArray.empty].toList 8 = some ([.lit (.string []), .lit (.string [])], [], places) :=
  ⟨[], by kernel_rfl⟩
set_option maxRecDepth 100000 in
theorem lifted (os : Os) (started : os.Started) (H : Type) (enc : TypeId × Value → H) (F : Stop.Interp) :
    ReturnsInHanded {} Tryd.checked os 4 .any ((Rows.OpenSpec.upto Rows.likePartsSpec).preRow enc Tryd.prog Tryd.f4 Rows.likePartsUptoRow.domain false Rows.likePartsUptoRow.laid) (((Rows.OpenSpec.upto Rows.likePartsSpec).at F).post enc Tryd.prog Tryd.f4 false true false false) := by
  obtain ⟨places, hx⟩ := reads os enc
  refine returnsInHanded_of_row (C := Tryd.checked) (s := Rows.OpenSpec.upto Rows.likePartsSpec) own started (by kernel_rfl) Tryd.func4
    (witness_row_at (enc := enc) (C := Tryd.checked) false (World.laidAll Tryd.prog os Rows.likePartsUptoRow.laid) #[.string ByteArray.empty, .string ByteArray.empty] (World.laidAll_os _ _ _) (by kernel_rfl) (by kernel_rfl) (by kernel_rfl)
      (OpenSpec.preRow_of_cond 8 hx (by kernel_rfl) (fun k hk => by cases hk; kernel_rfl) (by kernel_rfl) (by rw [MakeChecks.laidMetH_plain _ _ _ (by kernel_rfl)]; exact laidMet_laidAll _ (by kernel_rfl) (by kernel_rfl)))) ?_
  intro W base args ds gs before hval hW _ hcond _ hL _ _
  exact contract H enc W base args ds gs before hval hW (hcond _ rfl) hL

theorem over : Rows.likePartsUptoRow.holds Tryd.pinned (Rows.OpenSpec.upto Rows.likePartsSpec) :=
  OpenClaim.holds_of_cond 4 Tryd.f4 rfl rfl rfl rfl rfl rfl rfl ⟨rfl, rfl, rfl, rfl, rfl⟩ rfl rfl rfl rfl rfl (by kernel_rfl) Tryd.func4 (by kernel_rfl)
    (of_decide_eq_true (by kernel_rfl)) (by unfold Func.isWrapper; first | (rw [if_pos (by decide +kernel)]; kernel_rfl) | (rw [if_neg (by decide +kernel)]; exact ⟨rfl, rfl⟩))
    (fun os started H enc _ F => by rw [OpenClaim.pre_eq_preRow]; exact lifted os started H enc F)

theorem card : Rows.LikePartsUptoCardSaid :=
  Claim7.holds_tied_plain_at .later [] [.data, .pinned] true (true, "16a35cc793bfe44f891744ca83cbcb2362c0f7c3e5d28fcb30ada395105c9e56") false
    over (fun _ h => by cases h) (by kernel_rfl) (fun _ h => by cases h) likePartsUpto_row_tie rfl ⟨rfl, rfl⟩ (by kernel_rfl) rfl
    (fun f fn hf hfn => by
      obtain rfl : f = 4 := Option.some.inj ((show Tryd.prog.funcNamed "starling/starlinglaw.LikeParts" = some 4 by kernel_rfl).symm.trans hf) |>.symm
      obtain rfl : fn = Tryd.f4 := (Option.some.inj (Tryd.func4.symm.trans hfn)).symm
      exact ⟨by kernel_rfl, fun j t ht => by
        rw [Tryd.params4] at ht
        have hm : t ∈ [9, 9] := by simpa using Array.mem_of_getElem? ht
        have hall : ([9, 9].all fun u => !Tryd.prog.wantsStandIn u) = true := by kernel_rfl
        exact (show Tryd.prog.wantsStandIn t = false by simpa using List.all_eq_true.1 hall t hm)⟩)
    (by kernel_rfl)

end likePartsProof
theorem likePartsUpto_holds : Rows.LikePartsUptoCardSaid := likePartsProof.card
#print axioms likePartsUpto_holds
end Go.Proofs.YtgjgmaadogkjfaaDoor
