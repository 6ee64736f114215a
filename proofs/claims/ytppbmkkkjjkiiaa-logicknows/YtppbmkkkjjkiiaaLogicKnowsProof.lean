/-
  Proved: for every slice of ints and every two ints LogicKnows answers true: what All and Any tell to be true or false stays so, whatever an Unknown turns out to be. No condition but the form's own reach.
-/
import Derived.Test.YtppbmkkkjjkiiaaLBegun
namespace Go.Proofs.Ytppbmkkkjjkiiaa.logicKnowsProof
open Go.ChangeShapes Go.WideShapes Go.ChangeAt Go.RowKit
set_option linter.unusedVariables false
set_option maxRecDepth 100000

theorem all_knows (t : Int) : ∀ (l : List Int) (k : Nat) (h : k < l.length), l[k] = 1 → LG.all l ≠ 1 → LG.all (l.set k t) = LG.all l
  | [], _, h, _, _ => by simp at h
  | a :: s, 0, _, h1, hn => by
    simp only [List.getElem_cons_zero] at h1
    subst h1
    have h2 := LG.all_in s
    have h3 : LG.all (1 :: s) = min 1 (LG.all s) := by show min (LG.kn 1) (LG.kn (LG.all s)) = _; rw [LG.kn_of h2]; rfl
    have h4 := LG.kn_in t
    rw [h3] at hn ⊢
    show min (LG.kn t) (LG.kn (LG.all s)) = _
    rw [LG.kn_of h2]
    omega
  | a :: s, k + 1, h, h1, hn => by
    have hk : k < s.length := by simpa using h
    have ih := all_knows t s k hk (by simpa using h1)
    have h2 := LG.all_in s
    have h5 := LG.all_in (s.set k t)
    have h4 := LG.kn_in a
    have e1 : LG.all (a :: s) = min (LG.kn a) (LG.all s) := by show min (LG.kn a) (LG.kn (LG.all s)) = _; rw [LG.kn_of h2]
    have e2 : LG.all ((a :: s).set (k + 1) t) = min (LG.kn a) (LG.all (s.set k t)) := by show min (LG.kn a) (LG.kn (LG.all (s.set k t))) = _; rw [LG.kn_of h5]
    rw [e1] at hn
    rw [e1, e2]
    by_cases h6 : LG.all s = 1
    · omega
    · rw [ih h6]
theorem any_knows (t : Int) : ∀ (l : List Int) (k : Nat) (h : k < l.length), l[k] = 1 → LG.any l ≠ 1 → LG.any (l.set k t) = LG.any l
  | [], _, h, _, _ => by simp at h
  | a :: s, 0, _, h1, hn => by
    simp only [List.getElem_cons_zero] at h1
    subst h1
    have h2 := LG.any_in s
    have h3 : LG.any (1 :: s) = max 1 (LG.any s) := by show max (LG.kn 1) (LG.kn (LG.any s)) = _; rw [LG.kn_of h2]; rfl
    have h4 := LG.kn_in t
    rw [h3] at hn ⊢
    show max (LG.kn t) (LG.kn (LG.any s)) = _
    rw [LG.kn_of h2]
    omega
  | a :: s, k + 1, h, h1, hn => by
    have hk : k < s.length := by simpa using h
    have ih := any_knows t s k hk (by simpa using h1)
    have h2 := LG.any_in s
    have h5 := LG.any_in (s.set k t)
    have h4 := LG.kn_in a
    have e1 : LG.any (a :: s) = max (LG.kn a) (LG.any s) := by show max (LG.kn a) (LG.kn (LG.any s)) = _; rw [LG.kn_of h2]
    have e2 : LG.any ((a :: s).set (k + 1) t) = max (LG.kn a) (LG.any (s.set k t)) := by show max (LG.kn a) (LG.kn (LG.any (s.set k t))) = _; rw [LG.kn_of h5]
    rw [e1] at hn
    rw [e1, e2]
    by_cases h6 : LG.any s = 1
    · omega
    · rw [ih h6]

set_option maxHeartbeats 1000000 in
theorem out (A : Option Addr) (len cap : Nat) (k t : Int) (w : World) (ho : k < 0 ∨ (0 ≤ k ∧ (len : Int) ≤ k)) :
    Calls Try.prog 5 #[.slice A len cap, .int .i64 k, .int .i64 t] w fun e w' => e = .returned (.bool true) ∧ Fr w w' := by
  rcases ho with h | ⟨h0, h⟩
  all_goals (
    go_enter Try.func5, Try.ntmps5
    go_wp2_with (go_at_call 10; refine (logicBegun_any _).mono ?_)
    rintro _ w1 ⟨rfl, hf⟩
    go_wp2_with fail
    go_ret
    exact ⟨rfl, hf⟩)

set_option maxHeartbeats 4000000 in
theorem inn (b o cap k : Nat) (l : List Int) (t : Int) (w : World) (hk : k < l.length) (hb : b < w.heap.size) (hc : IntsAt w b o l) (hs : l.length * 8 ≤ 140737488351232) (hcap : l.length ≤ cap) :
    Calls Try.prog 5 #[.slice (some ⟨b, o, none⟩) l.length cap, .int .i64 k, .int .i64 t] w fun e w' => e = .returned (.bool true) ∧ Fr w w' := by
  obtain ⟨i0, hi0, hz0, hz1, hz2⟩ := info_parts Try.infoElem
  have hk' : (k : Int) < (l.length : Int) := by omega
  by_cases h1 : l[k] = 1
  · have ha := all_knows t l k hk h1
    have hy := any_knows t l k hk h1
    have HC : Hid _ := hc
    have HM : Hid (∀ W v m, IsInts W v m → m.length = l.length → Calls Try.prog 17 #[v] W fun e w' => e = .returned (.int .i64 (LG.all m)) ∧ w' = W) := fun W v m hm hl => all_any v m W hm (by omega)
    have HN : Hid (∀ W v m, IsInts W v m → m.length = l.length → Calls Try.prog 19 #[v] W fun e w' => e = .returned (.int .i64 (LG.any m)) ∧ w' = W) := fun W v m hm hl => any_any v m W hm (by omega)
    have HA : Hid _ := ha
    have HY : Hid _ := hy
    have H1 : Hid _ := h1
    clear ha hy hc h1
    go_enter Try.func5, Try.ntmps5
    go_wp2_with (go_at_call 10; refine (logicBegun_any _).mono ?_)
    rintro _ w1 ⟨rfl, hf⟩
    have c0 := (IntsAt.fr HC.out hb hf) k hk
    rw [H1.out] at c0
    have hfr2 : Fr w (w1.alloc (.cells #[] 3)) := hf.alloc _
    have hcs := IntsAt.fr HC.out hb hfr2
    have hle := hf.size
    go_wp2_with (at_builtin; refine wpList_append_own _ rfl _ _ 22 rfl w.heap.size 3 i0 (.int .i64 0) 1 8 Try.underlying22 hi0 hz0 hz1 hz2 rfl (by decide) _ _ _ rfl (World.ownsRow_lit _ #[] 0 hle (by decide) rfl) ⟨b, o, none⟩ l.length cap (intV l) rfl (by rw [intV_len]; omega) ?c1 ?c2 ?c3 ?c4 ?c5 ?_)
    case c1 => exact IsInts.news hcs
    case c2 => exact intV_one l
    case c3 => unfold maxLen; omega
    case c4 => omega
    case c5 => simp; omega
    intro v' w4 hown' hgrow _
    obtain ⟨g, cap4, rfl, hg1, hg2⟩ := own_form hown' (by omega)
    have hf4 : Fr w w4 := Below.grown hfr2 hgrow (Fr.size hfr2) (fun k hk => by simp [Value.ownBlock] at hk; omega)
    have op : w4.cell? ⟨g, k, none⟩ = some (.int .i64 l[k]) := by rw [hown'.cellAt k (by omega)]; simp [intV, hk]
    have fp := hown'.frozenAt k
    have hst := hown'.stored k (.int .i64 t)
    rw [intV_set] at hst
    have hf5 : Fr w (w4.setCell ⟨g, k, none⟩ (.int .i64 t)) := Below.grown hf4 hst.2 (Fr.size hf4) (fun k hk => by simp at hk; omega)
    have hrow : IsInts w (.slice (some ⟨b, o, none⟩) l.length cap) l := ⟨_, cap, rfl, hcap, Or.inr ⟨b, o, rfl, hb, HC.out⟩⟩
    have x1 := HM.out _ _ _ (hrow.fr hf5) rfl
    have x2 := HN.out _ _ _ (hrow.fr hf5) rfl
    have y1 := HM.out _ _ _ (ints_of_own hst.1) (by simp)
    have y2 := HN.out _ _ _ (ints_of_own hst.1) (by simp)
    generalize LG.all l = p1 at *
    generalize LG.any l = p2 at *
    generalize LG.all (l.set k t) = q1 at *
    generalize LG.any (l.set k t) = q2 at *
    generalize l[k] = lk at *
    have HF5 : Hid _ := hf5
    have e1 : p1 = 1 ∨ ((p1 == 1) = false ∧ q1 = p1) := by
      by_cases h : p1 = 1
      · exact Or.inl h
      · exact Or.inr ⟨by simpa using h, HA.out h⟩
    have e2 : p2 = 1 ∨ ((p2 == 1) = false ∧ q2 = p2) := by
      by_cases h : p2 = 1
      · exact Or.inl h
      · exact Or.inr ⟨by simpa using h, HY.out h⟩
    clear hown' hgrow hf4 hst hf5 hrow hfr2 hcs HC HM HN HA HY hf c0
    rcases e1 with rfl | ⟨z1, rfl⟩ <;> rcases e2 with rfl | ⟨z2, rfl⟩
    all_goals (
      go_wp2_with (go_at_call 17; refine x1.mono ?_)
      rintro _ w5 ⟨rfl, rfl⟩
      go_wp2_with (go_at_call 19; refine x2.mono ?_)
      rintro _ w5 ⟨rfl, rfl⟩
      go_wp2_with (first
        | (go_at_call 17; refine y1.mono ?_; rintro _ w5 ⟨rfl, rfl⟩)
        | (go_at_call 19; refine y2.mono ?_; rintro _ w5 ⟨rfl, rfl⟩))
      go_ret
      exact ⟨rfl, HF5.out⟩)
  · have q : (l[k] != 1) = true := by simpa using h1
    have HC : Hid _ := hc
    clear hc h1
    go_enter Try.func5, Try.ntmps5
    go_wp2_with (go_at_call 10; refine (logicBegun_any _).mono ?_)
    rintro _ w1 ⟨rfl, hf⟩
    have c0 := (IntsAt.fr HC.out hb hf) k hk
    generalize l[k] = x at *
    go_wp2_with fail
    go_ret
    exact ⟨rfl, hf⟩

theorem walk (v : Value) (l : List Int) (k t : Int) (w : World) (hl : IsInts w v l) (hok : ∀ x ∈ l, -9223372036854775808 ≤ x ∧ x ≤ 9223372036854775807) (hs : l.length * 8 ≤ 140737488351232) (hk : -9223372036854775808 ≤ k ∧ k ≤ 9223372036854775807) (ht : -9223372036854775808 ≤ t ∧ t ≤ 9223372036854775807) :
    Calls Try.prog 5 #[v, .int .i64 k, .int .i64 t] w fun e w' => e = .returned (.bool true) ∧ Fr w w' := by
  obtain ⟨A, cap, rfl, hcap, hr⟩ := hl
  by_cases hin : 0 ≤ k ∧ k < l.length
  · obtain ⟨j, rfl⟩ := Int.eq_ofNat_of_zero_le hin.1
    have hj : j < l.length := by omega
    rcases hr with h0 | ⟨b, o, rfl, hb, hc⟩
    · subst h0; simp at hj
    · exact inn b o cap j l t w hj hb hc hs hcap
  · exact out A l.length cap k t w (by omega)

set_option maxRecDepth 100000 in
theorem lifted (os : Os) (started : os.Started) (H : Type) (enc : TypeId × Value → H) :
    ReturnsInHanded {} Try.checked os 5 .any (Rows.logicKnowsSpec.pre6 enc Try.prog Try.f5 Rows.logicKnowsRow.domain false) (Rows.logicKnowsSpec.post enc Try.prog Try.f5 false true false false) := by
  refine returnsInHanded_of_change_sized (C := Try.checked) own started (by kernel_rfl) Try.func5
    (ChangeSpec.witness6 (enc := enc) (C := Try.checked) false ⟨#[], #[.slice none 0 0, .int .i64 0, .int .i64 0], []⟩ 8 (by kernel_rfl) (by kernel_rfl) (by kernel_rfl) (by kernel_rfl)) ?_
  intro W base args ds gs before hval0 hW hcnd hsz0 _
  have hval : ∀ (j : Nat) t v, Try.f5.params[j]? = some t → args[j]? = some v → Value.okWide Try.prog W .any base t v := hval0
  have hsz : (DataW.weightsEach Try.prog (Try.f5.params.toList ++ Rows.logicKnowsSpec.plain.varTypes Try.prog) (ds ++ gs)).all (· ≤ reachBytes) = true := hsz0
  have hW' := hW
  obtain ⟨p, q, hA0, hV, rfl, hfz, hnd⟩ := hW
  have hA : DataW.TrodAll enc Try.prog W 0 (fun _ => true) true Try.f5.params.toList args.toList ds p := hA0
  rw [Try.params5] at hA hval hsz
  obtain ⟨v0, vs0, d0, ds0, p0, q0, hargs, rfl, rfl, h0, r0⟩ := trodAll_cons hA
  obtain ⟨v1, vs1, d1, ds1, p1, q1, rfl, rfl, rfl, h1, r1⟩ := trodAll_cons r0
  obtain ⟨v2, vs2, d2, ds2, p2, q2, rfl, rfl, rfl, h2, r2⟩ := trodAll_cons r1
  obtain ⟨rfl, rfl, rfl⟩ := trodAll_nil r2
  obtain rfl : args = #[v0, v1, v2] := by cases args; simp_all
  obtain ⟨rfl, rfl⟩ := trodVars_none hV
  obtain ⟨l0, rw0, wd0, dd0⟩ := open_list (hval 0 22 v0 rfl rfl) h0
  obtain ⟨a1, rfl, rfl, rfl, w1⟩ := open_int Try.underlying3 (hval 1 3 v1 rfl rfl) h1
  obtain ⟨a2, rfl, rfl, rfl, w2⟩ := open_int Try.underlying3 (hval 2 3 v2 rfl rfl) h2
  have b0 : l0.length * 8 ≤ 140737488351232 := by
    rcases dd0 with ⟨_, rfl⟩ | ⟨es, sp, hd, hl⟩
    · simp
    · have h := sized_slice hsz (j := 0) (t := 22) rfl (by rw [hd]; rfl) Try.underlying22
      rw [Try.bytesElem] at h
      unfold reachBytes at h
      omega
  clear hA0 hval0 hsz0
  refine (walk v0 l0 a1 a2 W rw0 wd0 b0 (wf_i64 w1) (wf_i64 w2)).mono fun e W' ⟨he, bel⟩ => ?_
  subst he
  exact ⟨_, rfl, _, _, _, [], _, [], hW', trodAll_mk1 (shut_bool Try.underlying4 _), (trodAll_cons_mk (shut_list h0 bel) (trodAll_cons_mk (shut_int Try.underlying3 w1) (trodAll_cons_mk (shut_int Try.underlying3 w2) trodAll_mk0))), rfl, Below.frame bel _, fun h => by cases h⟩

theorem over : Rows.logicKnowsRow.holds Try.pinned (OpenSpec.ofChange Rows.logicKnowsSpec) :=
  OpenClaim.holds_of_wide 5 Try.f5 rfl rfl rfl rfl rfl rfl rfl ⟨rfl, rfl, rfl, rfl, rfl⟩ rfl rfl rfl rfl rfl (by kernel_rfl) Try.func5 (by kernel_rfl)
    (of_decide_eq_true (by kernel_rfl)) (by unfold Func.isWrapper; first | (rw [if_pos (by decide +kernel)]; kernel_rfl) | (rw [if_neg (by decide +kernel)]; exact ⟨rfl, rfl⟩))
    (fun os started H enc _ => lifted os started H enc)

end Go.Proofs.Ytppbmkkkjjkiiaa.logicKnowsProof
namespace Go.Proofs.Ytppbmkkkjjkiiaa
theorem logicKnows_holds : Rows.LogicKnowsSaid := logicKnowsProof.over
#print axioms logicKnows_holds
end Go.Proofs.Ytppbmkkkjjkiiaa
