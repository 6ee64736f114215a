/-
  Bytes of keys stand in the order of their rows. For every two rows.
-/
import Derived.Test.YtpalikdnpchdeaaOpen
import Derived.Test.YtpalikdnpchdeaaOMath
namespace Go.Proofs.Ytpalikdnpchdeaa.KeyOrder
open Go.ChangeShapes Go.WideShapes Go.ChangeAt Go.RowKit
set_option linter.unusedVariables false
set_option linter.unusedSimpArgs false

theorem less_eq : ∀ (l m : List UInt8), Op.bytesLess l m = decide (Lib.compareBytes l m < 0) := by
  intro l
  induction l with
  | nil => intro m; cases m <;> simp [Op.bytesLess, Lib.compareBytes]
  | cons a t ih =>
    intro m
    cases m with
    | nil => simp [Op.bytesLess, Lib.compareBytes]
    | cons b u =>
      rw [OM.cb_eq]
      unfold Op.bytesLess
      simp only [ih, UInt8.lt_iff_toNat_lt]
      by_cases h1 : a.toNat < b.toNat
      · simp [h1]
      · by_cases h2 : b.toNat < a.toNat
        · have : a ≠ b := by rintro rfl; omega
          simp [h1, h2, this]
        · obtain rfl : a = b := UInt8.toNat_inj.1 (by omega)
          simp

set_option maxRecDepth 100000 in
set_option maxHeartbeats 4000000 in
theorem walk (v0 : Value) (l0 : List VM.Vl) (v1 : Value) (l1 : List VM.Vl) (w : World) (hr0 : IsRow w v0 l0) (hw0 : Wide l0) (hl0 : l0.length ≤ 9223372036854775807) (hr1 : IsRow w v1 l1) (hw1 : Wide l1) (hl1 : l1.length ≤ 9223372036854775807) :
    Calls Try.prog 8 #[v0, v1] w fun e w' => e = .returned (.bool true) ∧ Fr w w' := by
  have hcm0 := fun W hf => recCompare_any v0 v1 l0 l1 W (hr0.fr hf) (hr1.fr hf) hl0 hl1
  by_cases hc : VM.chkRow l0 = 0
  · have hk0 := recKey_ok v0 l0 w hr0 hw0 hc
    by_cases hd : VM.chkRow l1 = 0
    · have hk1 := fun W hf => recKey_ok v1 l1 W (hr1.fr hf) hw1 hd
      have hcm : ∀ W, Fr w W → Calls Try.prog 18 #[v0, v1] W fun e w' => e = .returned (.tuple #[.int .i64 (CM.rows l0 l1), .int .i64 (0)]) ∧ Fr W w' := by
        intro W hf
        have h := hcm0 W hf
        rw [if_pos ⟨hc, hd⟩, if_pos hc, hd] at h
        exact h
      clear hcm0
      have ho := OM.rows_ord l0 l1 (WM.chkRow_ok hc).2 (WM.chkRow_ok hd).2 hw0 hw1
      rw [← ho] at hcm
      have d0 : (⟨(KM.row l0).toArray⟩ : ByteArray).toList = KM.row l0 := by rw [ByteArray.toList_eq]
      have d1 : (⟨(KM.row l1).toArray⟩ : ByteArray).toList = KM.row l1 := by rw [ByteArray.toList_eq]
      rw [← d0, ← d1] at hcm
      generalize (⟨(KM.row l0).toArray⟩ : ByteArray) = s at *
      generalize (⟨(KM.row l1).toArray⟩ : ByteArray) = t at *
      have z1 : decide (Lib.compareBytes s.toList t.toList < 0) = Op.bytesLess s.toList t.toList := (less_eq _ _).symm
      have z2 : ((Lib.compareBytes s.toList t.toList == 0) == (s.toList == t.toList)) = true := by
        have := OM.cb_zero (l := s.toList) (m := t.toList)
        rw [beq_iff_eq, Bool.eq_iff_iff, beq_iff_eq, beq_iff_eq]
        exact this
      generalize Lib.compareBytes s.toList t.toList = n at *
      have Z1 : Hid _ := z1
      have Z2 : Hid _ := z2
      clear hr0 hr1 hw0 hw1 hc hd ho d0 d1 z1 z2
      go_enter Try.func8, Try.ntmps8
      go_wp2_with (go_at_call 19; refine hk0.mono ?_)
      rintro e w1 ⟨rfl, hf1⟩
      have hk1' := hk1 w1 hf1
      go_wp2_with (go_at_call 19; refine hk1'.mono ?_)
      rintro e w2 ⟨rfl, hf2⟩
      have hf3 : Fr w w2 := Fr.trans hf1 hf2
      have hcm' := hcm w2 hf3
      clear hk0 hk1 hk1' hcm hf1 hf2
      have F3 : Hid _ := hf3
      clear hf3
      go_wp2_with (go_at_call 18; refine hcm'.mono ?_; rintro e w3 ⟨rfl, hf4⟩)
      refine (begun_any _).mono ?_
      rintro e w4 ⟨rfl, hf6⟩
      have F6 : Hid _ := Fr.trans (Fr.trans F3.out hf4) hf6
      clear hf4 hf6 hcm'
      have y1 : decide (n < 0) = Op.bytesLess s.toList t.toList := Z1.out
      go_wp2_with fail
      go_ret
      exact ⟨ret_bool Z2.out, F6.out⟩
    · have hk1 := fun W hf => recKey_bad v1 l1 W (hr1.fr hf) hl1 hd
      have hcm : ∀ W, Fr w W → Calls Try.prog 18 #[v0, v1] W fun e w' => e = .returned (.tuple #[.int .i64 (0), .int .i64 ((VM.chkRow l1 : Nat))]) ∧ Fr W w' := by
        intro W hf
        have h := hcm0 W hf
        rw [if_neg (fun h => hd h.2), if_pos hc] at h
        exact h
      clear hcm0
      generalize (⟨(KM.row l0).toArray⟩ : ByteArray) = s at *
      clear hr0 hr1 hw0 hw1 hc
      generalize VM.chkRow l1 = c at *
      have q1 : ((c : Int) != 0) = true := by simp; omega
      have q2 : ¬ ((c : Int) = 0) := by omega
      go_enter Try.func8, Try.ntmps8
      go_wp2_with (go_at_call 19; refine hk0.mono ?_)
      rintro e w1 ⟨rfl, hf1⟩
      have hk1' := hk1 w1 hf1
      go_wp2_with (go_at_call 19; refine hk1'.mono ?_)
      rintro e w2 ⟨rfl, hf2⟩
      have hf3 : Fr w w2 := Fr.trans hf1 hf2
      have hcm' := hcm w2 hf3
      have F3 : Hid _ := hf3
      clear hk0 hk1 hk1' hcm hf1 hf2 hf3
      go_wp2_with (go_at_call 18; refine hcm'.mono ?_; rintro e w3 ⟨rfl, hf4⟩)
      refine (begun_any _).mono ?_
      rintro e w4 ⟨rfl, hf6⟩
      have F6 : Hid _ := Fr.trans (Fr.trans F3.out hf4) hf6
      clear hf4 hf6 hcm'
      go_wp2_with fail
      go_ret
      exact ⟨rfl, F6.out⟩
  · have hk0 := recKey_bad v0 l0 w hr0 hl0 hc
    have hcm : ∀ W, Fr w W → Calls Try.prog 18 #[v0, v1] W fun e w' => e = .returned (.tuple #[.int .i64 (0), .int .i64 ((VM.chkRow l0 : Nat))]) ∧ Fr W w' := by
      intro W hf
      have h := hcm0 W hf
      rw [if_neg (fun h => hc h.1), if_neg hc] at h
      exact h
    clear hcm0
    have hk1 : ∀ W, Fr w W → ∃ (x : ByteArray) (c1 : Nat), Calls Try.prog 19 #[v1] W fun e w' => e = .returned (.tuple #[.string x, .int .i64 (c1 : Nat)]) ∧ Fr W w' := by
      intro W hf
      by_cases hd : VM.chkRow l1 = 0
      · exact ⟨_, 0, recKey_ok v1 l1 W (hr1.fr hf) hw1 hd⟩
      · exact ⟨_, _, recKey_bad v1 l1 W (hr1.fr hf) hl1 hd⟩
    clear hr0 hr1 hw0 hw1
    generalize VM.chkRow l0 = c at *
    have q1 : ((c : Int) != 0) = true := by simp; omega
    have q2 : ¬ ((c : Int) = 0) := by omega
    go_enter Try.func8, Try.ntmps8
    go_wp2_with (go_at_call 19; refine hk0.mono ?_)
    rintro e w1 ⟨rfl, hf1⟩
    obtain ⟨x1, c1, hk1'⟩ := hk1 w1 hf1
    go_wp2_with (go_at_call 19; refine hk1'.mono ?_)
    rintro e w2 ⟨rfl, hf2⟩
    have hf3 : Fr w w2 := Fr.trans hf1 hf2
    have hcm' := hcm w2 hf3
    have F3 : Hid _ := hf3
    clear hk0 hk1 hk1' hcm hf1 hf2 hf3
    go_wp2_with (go_at_call 18; refine hcm'.mono ?_; rintro e w3 ⟨rfl, hf4⟩)
    refine (begun_any _).mono ?_
    rintro e w4 ⟨rfl, hf6⟩
    have F6 : Hid _ := Fr.trans (Fr.trans F3.out hf4) hf6
    clear hf4 hf6 hcm'
    go_wp2_with fail
    go_ret
    exact ⟨rfl, F6.out⟩

set_option maxRecDepth 100000 in
theorem lifted (os : Os) (started : os.Started) (H : Type) (enc : TypeId × Value → H) :
    ReturnsInHanded {} Try.checked os 8 .any (Rows.keyOrderSpec.pre6 enc Try.prog Try.f8 Rows.keyOrderRow.domain false) (Rows.keyOrderSpec.post enc Try.prog Try.f8 false true false false) := by
  refine returnsInHanded_of_change_sized (C := Try.checked) own started (by kernel_rfl) Try.func8
    (ChangeSpec.witness6 (enc := enc) (C := Try.checked) false ⟨#[], #[.slice none 0 0, .slice none 0 0], []⟩ 8 (by kernel_rfl) (by kernel_rfl) (by kernel_rfl) (by kernel_rfl)) ?_
  intro W base args ds gs before hval0 hW hcnd hsz0 _
  have hval : ∀ (j : Nat) t v, Try.f8.params[j]? = some t → args[j]? = some v → Value.okWide Try.prog W .any base t v := hval0
  have hsz : (DataW.weightsEach Try.prog (Try.f8.params.toList ++ Rows.keyOrderSpec.plain.varTypes Try.prog) (ds ++ gs)).all (· ≤ reachBytes) = true := hsz0
  have hW' := hW
  obtain ⟨p, q, hA0, hV, rfl, hfz, hnd⟩ := hW
  have hA : DataW.TrodAll enc Try.prog W 0 (fun _ => true) true Try.f8.params.toList args.toList ds p := hA0
  rw [Try.params8] at hA hval hsz
  obtain ⟨v0, vs0, d0, ds0, p0, q0, hargs, rfl, rfl, h0, r0⟩ := trodAll_cons hA
  obtain ⟨v1, vs1, d1, ds1, p1, q1, rfl, rfl, rfl, h1, r1⟩ := trodAll_cons r0
  obtain ⟨rfl, rfl, rfl⟩ := trodAll_nil r1
  obtain rfl : args = #[v0, v1] := by cases args; simp_all
  obtain ⟨rfl, rfl⟩ := trodVars_none hV
  obtain ⟨l0, rw0, wd0, ln0, sl0, dd0⟩ := open_row (hval 0 22 v0 rfl rfl) h0
  obtain ⟨l1, rw1, wd1, ln1, sl1, dd1⟩ := open_row (hval 1 22 v1 rfl rfl) h1
  clear hA0 hval0 hsz0
  refine (walk v0 l0 v1 l1 W rw0 wd0 (by unfold maxLen at ln0; omega) rw1 wd1 (by unfold maxLen at ln1; omega)).mono fun e W' ⟨he, bel⟩ => ?_
  subst he
  exact ⟨_, rfl, _, _, _, [], _, [], hW', trodAll_mk1 (shut_bool Try.underlying4 _), (trodAll_cons_mk (shut_row h0 bel) (trodAll_cons_mk (shut_row h1 bel) trodAll_mk0)), rfl, Below.frame bel _, fun h => by cases h⟩

theorem over : Rows.keyOrderRow.holds Try.pinned (OpenSpec.ofChange Rows.keyOrderSpec) :=
  OpenClaim.holds_of_wide 8 Try.f8 rfl rfl rfl rfl rfl rfl rfl ⟨rfl, rfl, rfl, rfl, rfl⟩ rfl rfl rfl rfl rfl (by kernel_rfl) Try.func8 (by kernel_rfl)
    (of_decide_eq_true (by kernel_rfl)) (by unfold Func.isWrapper; first | (rw [if_pos (by decide +kernel)]; kernel_rfl) | (rw [if_neg (by decide +kernel)]; exact ⟨rfl, rfl⟩))
    (fun os started H enc _ => lifted os started H enc)

end Go.Proofs.Ytpalikdnpchdeaa.KeyOrder
namespace Go.Proofs.Ytpalikdnpchdeaa
theorem keyOrder_holds : Rows.KeyOrderSaid := KeyOrder.over
end Go.Proofs.Ytpalikdnpchdeaa
