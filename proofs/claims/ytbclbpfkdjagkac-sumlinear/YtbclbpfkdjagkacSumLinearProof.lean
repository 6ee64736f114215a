/-
  Proved: for every three texts SumLinear answers true: of three texts of one length the xor of the sums is the sum of the bytes' xor. No condition but the form's own reach.
-/
import Derived.Test.YtbclbpfkdjagkacSumBegun
import Derived.Deep.RegionHeld3
namespace Go.Proofs.Ytbclbpfkdjagkac.sumLinearProof
open Go.ChangeShapes Go.WideShapes Go.ChangeAt Go.RowKit
open Go.ChangeMaps (open_string shut_string)
set_option linter.unusedVariables false

theorem xor3_len : ∀ (s t u : List UInt8), s.length = t.length → t.length = u.length → (SM.xor3 s t u).length = s.length
  | [], [], [], _, _ => rfl
  | a :: s, b :: t, c :: u, h1, h2 => by
    simp only [List.length_cons, Nat.add_right_cancel_iff] at h1 h2
    simp only [SM.xor3, List.length_cons, xor3_len s t u h1 h2]
theorem xor3_get : ∀ (s t u : List UInt8) (k : Nat) (h1 : k < s.length) (h2 : k < t.length) (h3 : k < u.length) (h : k < (SM.xor3 s t u).length), (SM.xor3 s t u)[k] = s[k] ^^^ t[k] ^^^ u[k]
  | a :: s, b :: t, c :: u, 0, _, _, _, _ => rfl
  | a :: s, b :: t, c :: u, k + 1, h1, h2, h3, h => by
    simp only [SM.xor3, List.getElem_cons_succ]
    exact xor3_get s t u k _ _ _ _

def X (s t u : ByteArray) : List UInt8 := SM.xor3 s.data.toList t.data.toList u.data.toList

theorem X_snoc (s t u : ByteArray) (h1 : s.size = t.size) (h2 : t.size = u.size) (k : Nat) (hk : k < s.size) (hk2 : k < t.size) (hk3 : k < u.size) :
    (X s t u).take (k + 1) = (X s t u).take k ++ [s[k] ^^^ t[k] ^^^ u[k]] := by
  have hl : (X s t u).length = s.size := by unfold X; rw [xor3_len _ _ _ (by simpa using h1) (by simpa using h2)]; simp
  rw [List.take_succ_eq_append_getElem (by omega)]
  congr 2
  unfold X
  rw [xor3_get _ _ _ k (by simpa using hk) (by simpa using hk2) (by simpa using hk3)]
  rfl
theorem X_take (s t u : ByteArray) (h1 : s.size = t.size) (h2 : t.size = u.size) (k : Nat) (hk : s.size ≤ k) : (X s t u).take k = X s t u := by
  have hl : (X s t u).length = s.size := by unfold X; rw [xor3_len _ _ _ (by simpa using h1) (by simpa using h2)]; simp
  exact List.take_of_length_le (by omega)
theorem X_len (s t u : ByteArray) (h1 : s.size = t.size) (h2 : t.size = u.size) (k : Nat) (hk : k ≤ s.size) : ((X s t u).take k).length = k := by
  have hl : (X s t u).length = s.size := by unfold X; rw [xor3_len _ _ _ (by simpa using h1) (by simpa using h2)]; simp
  rw [List.length_take]; omega

set_option maxRecDepth 100000 in
set_option maxHeartbeats 2000000 in
theorem core (s t u : ByteArray) (A B C D E : Nat) (w : World) (hs : s.size ≤ 140737488351232) (h1 : s.size = t.size) (h2 : t.size = u.size)
    (e0 : Hid (SM.more 0 (⟨(X s t u).toArray⟩ : ByteArray).data.toList = E)) (e1 : Hid (SM.more 0 s.data.toList = A)) (e2 : Hid (SM.more 0 t.data.toList = B)) (e3 : Hid (SM.more 0 u.data.toList = C))
    (x1 : bits .xor .u32 (A : Int) (B : Int) = (D : Int)) (x2 : bits .xor .u32 (D : Int) (C : Int) = (E : Int)) :
    Calls Try.prog 4 #[.string s, .string t, .string u] w fun e w' => e = .returned (.bool true) ∧ Fr w w' := by
  have HS : Hid (s.size ≤ maxLen) := by unfold Hid maxLen; omega
  have HT : Hid (t.size ≤ maxLen) := by unfold Hid maxLen; omega
  have HU : Hid (u.size ≤ maxLen) := by unfold Hid maxLen; omega
  have HX : Hid ((⟨(X s t u).toArray⟩ : ByteArray).size ≤ maxLen) := by
    unfold Hid maxLen
    have := X_len s t u h1 h2 s.size (Nat.le_refl _)
    rw [X_take s t u h1 h2 _ (Nat.le_refl _)] at this
    have : (⟨(X s t u).toArray⟩ : ByteArray).size = (X s t u).length := by simp [ByteArray.size]
    omega
  have g1 : ((s.size : Int) != (t.size : Int)) = false := by simp [h1]
  have g2 : ((t.size : Int) != (u.size : Int)) = false := by simp [h2]
  obtain ⟨i0, hi, hz0, hz1, hz2⟩ := info_parts Try.infoByte
  have H1 : Hid _ := h1
  have H2 : Hid _ := h2
  clear h1 h2
  go_enter Try.func4, Try.ntmps4
  go_wp2_with fail
  refine (sumBegun_any _).mono ?_
  rintro e w' ⟨rfl, rfl⟩
  go_wp2_with fail
  go_loopw [7, 8] (fun v i wr => ∃ k : Nat, k ≤ s.size ∧ i = .int .i64 k ∧ wr.ownsRow w'.heap.size 5 1 v k (byteV ((X s t u).take k)) ∧ Fr w' wr) (fun _ i _ => s.size - (intOf i).toNat)
  case atStart => exact ⟨0, Nat.zero_le _, rfl, World.ownsRow_nil _ _ _ _, Fr.refl _⟩
  case round =>
    obtain ⟨k, hk, rfl, hown, hfr⟩ := hrel
    have hle := hfr.size
    by_cases hlt : k < s.size
    · have hlt2 : k < t.size := by have := H1.out; omega
      have hlt3 : k < u.size := by have := H1.out; have := H2.out; omega
      have HN : Hid _ := X_snoc s t u H1.out H2.out k hlt hlt2 hlt3
      have y1 := u8_xor_nat s[k].toNat t[k].toNat s[k].toNat_lt t[k].toNat_lt
      have y2 := u8_xor_nat (s[k].toNat ^^^ t[k].toNat) u[k].toNat (by have := (s[k] ^^^ t[k]).toNat_lt; rwa [UInt8.toNat_xor] at this) u[k].toNat_lt
      have HB : Hid ((s[k].toNat ^^^ t[k].toNat) ^^^ u[k].toNat = (s[k] ^^^ t[k] ^^^ u[k]).toNat) := by unfold Hid; rw [UInt8.toNat_xor, UInt8.toNat_xor]
      generalize s[k].toNat ^^^ t[k].toNat = b1 at *
      generalize hb2 : b1 ^^^ u[k].toNat = b2 at *
      have HB2 : Hid _ := hb2
      clear hb2
      go_wp2_with fail
      go_region_held3 (fun _ => True) (trivial) (first | (refine step_append_own rfl _ _ 29 rfl w'.heap.size 5 i0 (.int .u8 0) 1 1 Try.underlying29 hi hz0 hz1 hz2 rfl (by decide) _ _ _ rfl (hown.alloc _) ⟨wr.heap.size, 0, none⟩ 1 1 [.int .u8 (b2 : Int)] rfl rfl (cell_one_new _ _ _) (by intro u hu; simp at hu; subst hu; rfl) (by unfold maxLen; omega) (by omega) (by simp; omega) ?_; intro v' w1 hown' hgrow))
      all_goals
        have ho : w1.ownsRow w'.heap.size 5 1 v' (k + 1) (byteV ((X s t u).take (k + 1))) := by
          rw [HN.out, byteV_snoc, ← HB.out]; exact hown'
        have hf : Fr w' w1 := Below.grown (Below.alloc (Below.drew hfr) hle _) hgrow (Nat.le_trans hle (by simp)) (fun k hk => (hown.lt k hk).1)
        have HO : Hid _ := ho
        clear ho hown' hgrow hown
        go_wp2
        go_roundw
        case rel => exact ⟨k + 1, by omega, by go_num, HO.out, hf⟩
        case measure => simp [intOf]; omega
    · have hx : wr.ownsRow w'.heap.size 5 1 u7 k (byteV (X s t u)) := by rw [X_take s t u H1.out H2.out k (by omega)] at hown; exact hown
      have hcv := conv_owned' hx
      clear hx hown
      go_wp2_with fail
      refine (of_named _ _ _ HX.out e0.out).mono ?_
      rintro e w' ⟨rfl, rfl⟩
      go_wp2_with fail
      refine (of_named _ _ _ HS.out e1.out).mono ?_
      rintro e w' ⟨rfl, rfl⟩
      go_wp2_with fail
      refine (of_named _ _ _ HT.out e2.out).mono ?_
      rintro e w' ⟨rfl, rfl⟩
      go_wp2_with fail
      refine (of_named _ _ _ HU.out e3.out).mono ?_
      rintro e w' ⟨rfl, rfl⟩
      go_wp2_with fail
      go_ret
      exact ⟨rfl, hfr⟩

set_option maxRecDepth 100000 in
set_option maxHeartbeats 1000000 in
theorem apart (s t u : ByteArray) (w : World) (h : ¬ (s.size = t.size ∧ t.size = u.size)) :
    Calls Try.prog 4 #[.string s, .string t, .string u] w fun e w' => e = .returned (.bool true) ∧ Fr w w' := by
  by_cases h1 : s.size = t.size
  · have g1 : ((s.size : Int) != (t.size : Int)) = false := by simp [h1]
    have g2 : ((t.size : Int) != (u.size : Int)) = true := by simp; omega
    have H1 : Hid _ := h1
    clear h1 h
    go_enter Try.func4, Try.ntmps4
    go_wp2_with fail
    refine (sumBegun_any _).mono ?_
    rintro e w' ⟨rfl, rfl⟩
    go_wp2_with fail
    go_ret
    exact ⟨rfl, Fr.refl _⟩
  · have g1 : ((s.size : Int) != (t.size : Int)) = true := by simp; omega
    clear h1 h
    go_enter Try.func4, Try.ntmps4
    go_wp2_with fail
    refine (sumBegun_any _).mono ?_
    rintro e w' ⟨rfl, rfl⟩
    go_wp2_with fail
    go_ret
    exact ⟨rfl, Fr.refl _⟩

theorem walk (s t u : ByteArray) (w : World) (hs : s.size ≤ 140737488351232) (ht : t.size ≤ 140737488351232) (hu : u.size ≤ 140737488351232) :
    Calls Try.prog 4 #[.string s, .string t, .string u] w fun e w' => e = .returned (.bool true) ∧ Fr w w' := by
  by_cases h : s.size = t.size ∧ t.size = u.size
  · have h0 : (0 : Nat) < 4294967296 := by omega
    have hA := SM.more_lt h0 s.data.toList
    have hB := SM.more_lt h0 t.data.toList
    have hC := SM.more_lt h0 u.data.toList
    exact core s t u _ _ _ (SM.more 0 s.data.toList ^^^ SM.more 0 t.data.toList) (SM.more 0 s.data.toList ^^^ SM.more 0 t.data.toList ^^^ SM.more 0 u.data.toList) w hs h.1 h.2
      (SM.more_xor3 _ _ _ (by simpa using h.1) (by simpa using h.2)) rfl rfl rfl (u32_xor_nat _ _ hA hB) (u32_xor_nat _ _ (SM.xor_lt hA hB) hC)
  · exact apart s t u w h

set_option maxRecDepth 100000 in
theorem lifted (os : Os) (started : os.Started) (H : Type) (enc : TypeId × Value → H) :
    ReturnsInHanded {} Try.checked os 4 .any (Rows.sumLinearSpec.pre6 enc Try.prog Try.f4 Rows.sumLinearRow.domain false) (Rows.sumLinearSpec.post enc Try.prog Try.f4 false true false false) := by
  refine returnsInHanded_of_change_sized (C := Try.checked) own started (by kernel_rfl) Try.func4
    (ChangeSpec.witness6 (enc := enc) (C := Try.checked) false ⟨#[], #[.string ByteArray.empty, .string ByteArray.empty, .string ByteArray.empty], []⟩ 8 (by kernel_rfl) (by kernel_rfl) (by kernel_rfl) (by kernel_rfl)) ?_
  intro W base args ds gs before hval0 hW hcnd hsz0 _
  have hval : ∀ (j : Nat) t v, Try.f4.params[j]? = some t → args[j]? = some v → Value.okWide Try.prog W .any base t v := hval0
  have hsz : (DataW.weightsEach Try.prog (Try.f4.params.toList ++ Rows.sumLinearSpec.plain.varTypes Try.prog) (ds ++ gs)).all (· ≤ reachBytes) = true := hsz0
  have hW' := hW
  obtain ⟨p, q, hA0, hV, rfl, hfz, hnd⟩ := hW
  have hA : DataW.TrodAll enc Try.prog W 0 (fun _ => true) true Try.f4.params.toList args.toList ds p := hA0
  rw [Try.params4] at hA hval hsz
  obtain ⟨v0, vs0, d0, ds0, p0, q0, hargs, rfl, rfl, h0, r0⟩ := trodAll_cons hA
  obtain ⟨v1, vs1, d1, ds1, p1, q1, rfl, rfl, rfl, h1, r1⟩ := trodAll_cons r0
  obtain ⟨v2, vs2, d2, ds2, p2, q2, rfl, rfl, rfl, h2, r2⟩ := trodAll_cons r1
  obtain ⟨rfl, rfl, rfl⟩ := trodAll_nil r2
  obtain rfl : args = #[v0, v1, v2] := by cases args; simp_all
  obtain ⟨rfl, rfl⟩ := trodVars_none hV
  obtain ⟨a0, rfl, rfl, rfl, w0⟩ := open_string Try.underlying9 (hval 0 9 v0 rfl rfl) h0
  obtain ⟨a1, rfl, rfl, rfl, w1⟩ := open_string Try.underlying9 (hval 1 9 v1 rfl rfl) h1
  obtain ⟨a2, rfl, rfl, rfl, w2⟩ := open_string Try.underlying9 (hval 2 9 v2 rfl rfl) h2
  have b0 : a0.size ≤ 140737488351232 := by
    have h := sized_string hsz (j := 0) (t := 9) rfl rfl
    simpa [reachBytes] using h
  have b1 : a1.size ≤ 140737488351232 := by
    have h := sized_string hsz (j := 1) (t := 9) rfl rfl
    simpa [reachBytes] using h
  have b2 : a2.size ≤ 140737488351232 := by
    have h := sized_string hsz (j := 2) (t := 9) rfl rfl
    simpa [reachBytes] using h
  clear hA0 hval0 hsz0
  refine (walk a0 a1 a2 W b0 b1 b2).mono fun e W' ⟨he, bel⟩ => ?_
  subst he
  exact ⟨_, rfl, _, _, _, [], _, [], hW', trodAll_mk1 (shut_bool Try.underlying4 _), (trodAll_cons_mk (shut_string Try.underlying9 w0) (trodAll_cons_mk (shut_string Try.underlying9 w1) (trodAll_cons_mk (shut_string Try.underlying9 w2) trodAll_mk0))), rfl, Below.frame bel _, fun h => by cases h⟩

theorem over : Rows.sumLinearRow.holds Try.pinned (OpenSpec.ofChange Rows.sumLinearSpec) :=
  OpenClaim.holds_of_wide 4 Try.f4 rfl rfl rfl rfl rfl rfl rfl ⟨rfl, rfl, rfl, rfl, rfl⟩ rfl rfl rfl rfl rfl (by kernel_rfl) Try.func4 (by kernel_rfl)
    (of_decide_eq_true (by kernel_rfl)) (by unfold Func.isWrapper; first | (rw [if_pos (by decide +kernel)]; kernel_rfl) | (rw [if_neg (by decide +kernel)]; exact ⟨rfl, rfl⟩))
    (fun os started H enc _ => lifted os started H enc)

end Go.Proofs.Ytbclbpfkdjagkac.sumLinearProof
namespace Go.Proofs.Ytbclbpfkdjagkac
theorem sumLinear_holds : Rows.SumLinearSaid := sumLinearProof.over
#print axioms sumLinear_holds
end Go.Proofs.Ytbclbpfkdjagkac
