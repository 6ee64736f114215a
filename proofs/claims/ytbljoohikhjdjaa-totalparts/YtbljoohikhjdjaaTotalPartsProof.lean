/-
  Proved: for every slice of int64 and every int TotalParts answers true: a sum of two parts, if both hold, is what Add tells of them, errors too. No condition but the form's own reach.
-/
import Derived.Test.YtbljoohikhjdjaaWBegun
import Derived.Test.YtbljoohikhjdjaaOpenL
namespace Go.Proofs.Ytbljoohikhjdjaa.totalPartsProof
open Go.ChangeShapes Go.WideShapes Go.ChangeAt Go.RowKit
set_option linter.unusedVariables false
set_option maxRecDepth 100000

/-- the walk where the list is cut, for a slice of some memory -/
def Ends (w : World) (n e a f b g : Int) : Prop := f = 8 ∨ (f = 0 ∧ (g = 8 ∨ (g = 0 ∧ ∀ W, Calls Try.prog 11 #[.int .i64 a, .int .i64 b] W fun y w' => y = .returned (.tuple #[.int .i64 n, .int .i64 e]) ∧ w' = W)))

set_option maxHeartbeats 4000000 in
theorem coreNil (cap : Nat) (w : World)
    (c1 : ∀ W c, Calls Try.prog 23 #[.slice none 0 c] W fun y w' => y = .returned (.tuple #[.int .i64 0, .int .i64 0]) ∧ w' = W)
    (c4 : ∀ W, Calls Try.prog 11 #[.int .i64 0, .int .i64 0] W fun y w' => y = .returned (.tuple #[.int .i64 0, .int .i64 0]) ∧ w' = W) :
    Calls Try.prog 10 #[.slice none 0 cap, .int .i64 0] w fun e w' => e = .returned (.bool true) ∧ Fr w w' := by
  go_enter Try.func10, Try.ntmps10
  go_wp2_with (go_at_call 23; refine (c1 _ _).mono ?_)
  rintro _ w1 ⟨rfl, rfl⟩
  go_wp2_with (go_at_call 18; refine (wholeBegun_any _).mono ?_)
  rintro _ w2 ⟨rfl, hf⟩
  go_wp2_with (go_at_call 23; refine (c1 _ _).mono ?_)
  rintro _ w3 ⟨rfl, rfl⟩
  go_wp2_with (go_at_call 23; refine (c1 _ _).mono ?_)
  rintro _ w3 ⟨rfl, rfl⟩
  go_wp2_with (go_at_call 11; refine (c4 _).mono ?_)
  rintro _ w3 ⟨rfl, rfl⟩
  go_wp2_with fail
  go_ret
  exact ⟨rfl, hf⟩

set_option maxHeartbeats 4000000 in
theorem coreSome (A B : Addr) (len cap c' k : Nat) (n e a f b g : Int) (w : World) (hk : k ≤ len) (hc : len ≤ cap)
    (hB : (cap - k = 0 ∧ B = A ∧ c' = 0) ∨ (¬ cap - k = 0 ∧ B = A.add k ∧ c' = cap - k))
    (he : (e == 2) = false) (hend : Ends w n e a f b g)
    (c1 : ∀ W, Fr w W → Calls Try.prog 23 #[.slice (some A) len cap] W fun y w' => y = .returned (.tuple #[.int .i64 n, .int .i64 e]) ∧ w' = W)
    (c2 : ∀ W, Fr w W → Calls Try.prog 23 #[.slice (some A) k cap] W fun y w' => y = .returned (.tuple #[.int .i64 a, .int .i64 f]) ∧ w' = W)
    (c3 : ∀ W, Fr w W → Calls Try.prog 23 #[.slice (some B) (len - k) c'] W fun y w' => y = .returned (.tuple #[.int .i64 b, .int .i64 g]) ∧ w' = W) :
    Calls Try.prog 10 #[.slice (some A) len cap, .int .i64 k] w fun e w' => e = .returned (.bool true) ∧ Fr w w' := by
  have q1 : (k : Int) ≤ (len : Int) := by omega
  unfold Ends at hend
  rcases hB with ⟨hz, rfl, rfl⟩ | ⟨hz, rfl, rfl⟩ <;> rcases hend with rfl | ⟨rfl, rfl | ⟨rfl, c4⟩⟩
  all_goals (
    go_enter Try.func10, Try.ntmps10
    go_wp2_with (go_at_call 23; refine (c1 _ (Fr.refl _)).mono ?_)
    rintro _ w1 ⟨rfl, rfl⟩
    go_wp2_with (go_at_call 18; refine (wholeBegun_any _).mono ?_)
    rintro _ w2 ⟨rfl, hf⟩
    go_wp2_with (go_at_call 23; refine (c2 _ hf).mono ?_)
    rintro _ w3 ⟨rfl, rfl⟩
    go_wp2_with (go_at_call 23; refine (c3 _ hf).mono ?_)
    rintro _ w3 ⟨rfl, rfl⟩
    first
    | (go_wp2_with (go_at_call 11; refine (c4 _).mono ?_)
       rintro _ w3 ⟨rfl, rfl⟩
       go_wp2_with fail
       go_ret
       exact ⟨rfl, hf⟩)
    | (go_wp2_with fail
       go_ret
       exact ⟨rfl, hf⟩))

set_option maxHeartbeats 4000000 in
theorem coreOut (A : Option Addr) (len cap : Nat) (k n e : Int) (w : World) (ho : k < 0 ∨ (0 ≤ k ∧ (len : Int) < k) ∨ (0 ≤ k ∧ k ≤ (len : Int) ∧ e = 2))
    (c1 : Calls Try.prog 23 #[.slice A len cap] w fun y w' => y = .returned (.tuple #[.int .i64 n, .int .i64 e]) ∧ w' = w) :
    Calls Try.prog 10 #[.slice A len cap, .int .i64 k] w fun e w' => e = .returned (.bool true) ∧ Fr w w' := by
  rcases ho with h | ⟨h0, h⟩ | ⟨h0, h, rfl⟩
  all_goals (
    go_enter Try.func10, Try.ntmps10
    go_wp2_with (go_at_call 23; refine c1.mono ?_)
    rintro _ w1 ⟨rfl, rfl⟩
    go_wp2_with (go_at_call 18; refine (wholeBegun_any _).mono ?_)
    rintro _ w2 ⟨rfl, hf⟩
    go_wp2_with fail
    go_ret
    exact ⟨rfl, hf⟩)

theorem take_part {w : World} {a : Option Addr} {cap : Nat} {l : List Int} (k : Nat) (hk : k ≤ l.length) (h : IsInts w (.slice a l.length cap) l) : IsInts w (.slice a k cap) (l.take k) := by
  obtain ⟨a', cap', he, hc, hr⟩ := h
  simp only [Value.slice.injEq] at he
  obtain ⟨rfl, _, rfl⟩ := he
  have hl : (l.take k).length = k := by rw [List.length_take]; omega
  refine ⟨a, cap, by rw [hl], by omega, ?_⟩
  rcases hr with h0 | ⟨b, o, rfl, hb, hcl⟩
  · exact Or.inl (by rw [h0]; simp)
  · refine Or.inr ⟨b, o, rfl, hb, fun i hi => ?_⟩
    rw [hcl i (by omega)]
    simp
theorem drop_part {w : World} {A : Addr} {cap : Nat} {l : List Int} (k : Nat) (hk : k ≤ l.length) (h : IsInts w (.slice (some A) l.length cap) l) : IsInts w (.slice (some (A.add k)) (l.length - k) (cap - k)) (l.drop k) := by
  obtain ⟨a', cap', he, hc, hr⟩ := h
  simp only [Value.slice.injEq] at he
  obtain ⟨rfl, _, rfl⟩ := he
  refine ⟨_, _, by rw [List.length_drop], by rw [List.length_drop]; omega, ?_⟩
  rcases hr with h0 | ⟨b, o, hA, hb, hcl⟩
  · exact Or.inl (by rw [h0]; simp)
  · simp only [Option.some.injEq] at hA
    subst hA
    rw [add_at _ _ rfl]
    refine Or.inr ⟨b, o + k, rfl, hb, fun i hi => ?_⟩
    rw [List.length_drop] at hi
    rw [Nat.add_assoc, hcl (k + i) (by omega)]
    simp

theorem walk (v : Value) (l : List Int) (k : Int) (w : World) (hl : IsInts w v l) (hok : ∀ x ∈ l, -9223372036854775808 ≤ x ∧ x ≤ 9223372036854775807) (hs : l.length * 8 ≤ 140737488351232) (hk : -9223372036854775808 ≤ k ∧ k ≤ 9223372036854775807) :
    Calls Try.prog 10 #[v, .int .i64 k] w fun e w' => e = .returned (.bool true) ∧ Fr w w' := by
  have c1 : ∀ W, Fr w W → _ := fun W f => sum_any v l W (hl.fr f) hok (by omega)
  have hl' := hl
  obtain ⟨a, cap, rfl, hcap, hr⟩ := hl
  by_cases h40 : 40 < l.length
  · have e : sumTwo l = .tuple #[.int .i64 0, .int .i64 2] := if_pos h40
    rw [e] at c1
    exact coreOut a l.length cap k 0 2 w (by omega) (c1 w (Fr.refl w))
  have e : sumTwo l = two l.sum := if_neg h40
  rw [e] at c1
  by_cases hin : 0 ≤ k ∧ k ≤ l.length
  · obtain ⟨j, rfl⟩ := Int.eq_ofNat_of_zero_le hin.1
    have hj : j ≤ l.length := by omega
    have c2 : ∀ W, Fr w W → _ := fun W f => sum_any _ _ W ((take_part j hj hl').fr f) (fun x hx => hok x (List.mem_of_mem_take hx)) (by rw [List.length_take]; omega)
    have e2 : sumTwo (l.take j) = two (l.take j).sum := if_neg (by rw [List.length_take]; omega)
    rw [e2] at c2
    cases a with
    | none =>
      have h0 : l = [] := by
        rcases hr with h0 | ⟨b, o, h, _⟩
        · exact h0
        · cases h
      subst h0
      have hj0 : j = 0 := by simpa using hj
      subst hj0
      have z : two 0 = .tuple #[.int .i64 0, .int .i64 0] := rfl
      refine coreNil cap w (fun W c => ?_) (fun W => ?_)
      · have h := sum_any (.slice none 0 c) [] W ⟨none, c, rfl, Nat.zero_le _, Or.inl rfl⟩ hok (by simp)
        exact h
      · exact add_any 0 0 W ⟨by omega, by omega⟩ ⟨by omega, by omega⟩
    | some A =>
      have he2 : (WH.err l.sum == 2) = false := by unfold WH.err; split <;> rfl
      have hend : Ends w (WH.val l.sum) (WH.err l.sum) (WH.val (l.take j).sum) (WH.err (l.take j).sum) (WH.val (l.drop j).sum) (WH.err (l.drop j).sum) := by
        unfold Ends
        rcases WH.ok_em (l.take j).sum with h1 | h1
        · refine Or.inr ⟨WH.err_ok h1, ?_⟩
          rcases WH.ok_em (l.drop j).sum with h2 | h2
          · refine Or.inr ⟨WH.err_ok h2, fun W => ?_⟩
            have h := add_any _ _ W h1 h2
            rw [← List.sum_append, List.take_append_drop] at h
            rw [WH.val_ok h1, WH.val_ok h2]
            exact h
          · exact Or.inl (WH.err_over h2)
        · exact Or.inl (WH.err_over h1)
      have e3 : sumTwo (l.drop j) = two (l.drop j).sum := if_neg (by rw [List.length_drop]; omega)
      by_cases hz : cap - j = 0
      · refine coreSome A A l.length cap 0 j _ _ _ _ _ _ w hj hcap (Or.inl ⟨hz, rfl, rfl⟩) he2 hend c1 c2 (fun W f => ?_)
        have hd : l.drop j = [] := List.drop_of_length_le (by omega)
        have hI : IsInts W (.slice (some A) (l.length - j) 0) (l.drop j) := ⟨_, 0, by rw [List.length_drop], by rw [hd]; exact Nat.le_refl _, Or.inl hd⟩
        have h := sum_any _ _ W hI (fun x hx => hok x (List.mem_of_mem_drop hx)) (by rw [List.length_drop]; omega)
        rw [e3] at h
        exact h
      · refine coreSome A (A.add j) l.length cap (cap - j) j _ _ _ _ _ _ w hj hcap (Or.inr ⟨hz, rfl, rfl⟩) he2 hend c1 c2 (fun W f => ?_)
        have h := sum_any _ _ W ((drop_part j hj hl').fr f) (fun x hx => hok x (List.mem_of_mem_drop hx)) (by rw [List.length_drop]; omega)
        rw [e3] at h
        exact h
  · exact coreOut a l.length cap k _ _ w (by omega) (c1 w (Fr.refl w))

set_option maxRecDepth 100000 in
theorem lifted (os : Os) (started : os.Started) (H : Type) (enc : TypeId × Value → H) :
    ReturnsInHanded {} Try.checked os 10 .any (Rows.totalPartsSpec.pre6 enc Try.prog Try.f10 Rows.totalPartsRow.domain false) (Rows.totalPartsSpec.post enc Try.prog Try.f10 false true false false) := by
  refine returnsInHanded_of_change_sized (C := Try.checked) own started (by kernel_rfl) Try.func10
    (ChangeSpec.witness6 (enc := enc) (C := Try.checked) false ⟨#[], #[.slice none 0 0, .int .i64 0], []⟩ 8 (by kernel_rfl) (by kernel_rfl) (by kernel_rfl) (by kernel_rfl)) ?_
  intro W base args ds gs before hval0 hW hcnd hsz0 _
  have hval : ∀ (j : Nat) t v, Try.f10.params[j]? = some t → args[j]? = some v → Value.okWide Try.prog W .any base t v := hval0
  have hsz : (DataW.weightsEach Try.prog (Try.f10.params.toList ++ Rows.totalPartsSpec.plain.varTypes Try.prog) (ds ++ gs)).all (· ≤ reachBytes) = true := hsz0
  have hW' := hW
  obtain ⟨p, q, hA0, hV, rfl, hfz, hnd⟩ := hW
  have hA : DataW.TrodAll enc Try.prog W 0 (fun _ => true) true Try.f10.params.toList args.toList ds p := hA0
  rw [Try.params10] at hA hval hsz
  obtain ⟨v0, vs0, d0, ds0, p0, q0, hargs, rfl, rfl, h0, r0⟩ := trodAll_cons hA
  obtain ⟨v1, vs1, d1, ds1, p1, q1, rfl, rfl, rfl, h1, r1⟩ := trodAll_cons r0
  obtain ⟨rfl, rfl, rfl⟩ := trodAll_nil r1
  obtain rfl : args = #[v0, v1] := by cases args; simp_all
  obtain ⟨rfl, rfl⟩ := trodVars_none hV
  obtain ⟨l0, rw0, wd0, dd0⟩ := open_list (hval 0 29 v0 rfl rfl) h0
  obtain ⟨a1, rfl, rfl, rfl, w1⟩ := open_int Try.underlying3 (hval 1 3 v1 rfl rfl) h1
  have b0 : l0.length * 8 ≤ 140737488351232 := by
    rcases dd0 with ⟨_, rfl⟩ | ⟨es, sp, hd, hl⟩
    · simp
    · have h := sized_slice hsz (j := 0) (t := 29) rfl (by rw [hd]; rfl) Try.underlying29
      rw [Try.bytesElem] at h
      unfold reachBytes at h
      omega
  clear hA0 hval0 hsz0
  refine (walk v0 l0 a1 W rw0 wd0 b0 (wf_i64 w1)).mono fun e W' ⟨he, bel⟩ => ?_
  subst he
  exact ⟨_, rfl, _, _, _, [], _, [], hW', trodAll_mk1 (shut_bool Try.underlying4 _), (trodAll_cons_mk (shut_list h0 bel) (trodAll_cons_mk (shut_int Try.underlying3 w1) trodAll_mk0)), rfl, Below.frame bel _, fun h => by cases h⟩

theorem over : Rows.totalPartsRow.holds Try.pinned (OpenSpec.ofChange Rows.totalPartsSpec) :=
  OpenClaim.holds_of_wide 10 Try.f10 rfl rfl rfl rfl rfl rfl rfl ⟨rfl, rfl, rfl, rfl, rfl⟩ rfl rfl rfl rfl rfl (by kernel_rfl) Try.func10 (by kernel_rfl)
    (of_decide_eq_true (by kernel_rfl)) (by unfold Func.isWrapper; first | (rw [if_pos (by decide +kernel)]; kernel_rfl) | (rw [if_neg (by decide +kernel)]; exact ⟨rfl, rfl⟩))
    (fun os started H enc _ => lifted os started H enc)

end Go.Proofs.Ytbljoohikhjdjaa.totalPartsProof
namespace Go.Proofs.Ytbljoohikhjdjaa
theorem totalParts_holds : Rows.TotalPartsSaid := totalPartsProof.over
#print axioms totalParts_holds
end Go.Proofs.Ytbljoohikhjdjaa
