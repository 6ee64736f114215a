/-
  Proved: for every two slices of ints (of at most 1048576 values together) LogicLists answers true: All of two lists is All of one and All of the other one, Any likewise; Not of All is Any of the Nots. The condition is the second form's own.
-/
import Derived.Test.YtppbmkkkjjkiiaaLBegun
import Derived.Test.YtppbmkkkjjkiiaaAppAny
namespace Go.Proofs.Ytppbmkkkjjkiiaa.logicListsProof
open Go.ChangeShapes Go.WideShapes Go.ChangeAt Go.RowKit
set_option linter.unusedVariables false
set_option linter.unusedSimpArgs false
set_option maxRecDepth 100000

theorem map_take (l : List Int) (n : Nat) (h : n < l.length) : (l.map LG.not).take (n + 1) = (l.map LG.not).take n ++ [LG.not l[n]] := by
  rw [List.take_succ_eq_append_getElem (by simpa using h)]
  simp

set_option maxHeartbeats 2000000 in
theorem core (u v : Value) (l m : List Int) (w : World) (hu : IsInts w u l) (hv : IsInts w v m) (nu : NilOr u) (nv : NilOr v) (hl : l.length ≤ 1048576) (hm : m.length ≤ 1048576) :
    Calls Try.prog 6 #[u, v] w fun e w' => e = .returned (.bool true) ∧ Fr w w' := by
  obtain ⟨i0, hi0, hz0, hz1, hz2⟩ := info_parts Try.infoElem
  have HU : Hid _ := hu
  have HV : Hid _ := hv
  have NV : Hid _ := nv
  have NU : Hid _ := nu
  obtain ⟨A, cap, rfl, _, hcs⟩ := hu
  have HC : Hid _ := hcs
  clear hv nv nu hcs
  go_enter Try.func6, Try.ntmps6
  go_wp2_with (at_builtin; refine append_list rfl _ _ rfl w.heap.size _ 0 [] rfl (World.ownsRow_lit _ #[] 0 (Nat.le_refl _) (by decide) rfl) _ l rfl (IsInts.fr HU.out ((Fr.refl w).alloc _)) NU.out (by omega) (by simp) ?_)
  intro v1 w1 own1 gr1
  have f1 : Fr w w1 := Below.grown ((Fr.refl w).alloc _) gr1 (by simp) (fun k hk => by simp [Value.ownBlock] at hk; omega)
  clear gr1
  go_wp2_with (at_builtin; refine append_list rfl _ _ rfl w.heap.size _ _ l rfl own1 _ m rfl (IsInts.fr HV.out f1) NV.out (by omega) f1.size ?_)
  intro v2 w2 own2 gr2
  have f2 : Fr w w2 := Below.grown f1 gr2 f1.size (fun k hk => (own1.lt k hk).1)
  have HB : Hid _ := ints_of_own own2
  have HF2 : Hid _ := f2
  clear own1 gr2 own2 f1 f2
  go_wp2_with fail
  go_loopw [6, 7] (fun nv iv wr => ∃ n : Nat, n ≤ l.length ∧ iv = .int .i64 n ∧ wr.ownsRow w2.heap.size 3 1 nv n (intV ((l.map LG.not).take n)) ∧ Fr w2 wr) (fun _ iv _ => l.length - (intOf iv).toNat)
  case atStart => exact ⟨0, Nat.zero_le _, rfl, World.ownsRow_nil _ _ _ _, Fr.refl _⟩
  case round =>
    obtain ⟨n, hn, rfl, hown, hfr⟩ := hrel
    have hle := hfr.size
    by_cases hlt : n < l.length
    · obtain ⟨b, o, rfl, hb, hc⟩ : ∃ b o, A = some ⟨b, o, none⟩ ∧ b < w.heap.size ∧ IntsAt w b o l := by
        rcases HC.out with h | h
        · subst h; simp at hlt
        · exact h
      have hcell := (hc.fr hb (Fr.trans HF2.out hfr)) n hlt
      have hst := map_take l n hlt
      have hnot := fun W => not_any l[n] W
      generalize l[n] = z at *
      generalize LG.not z = y at *
      have HR : Hid _ := hst
      clear hst hc
      go_wp2_with (go_at_call 15; refine (hnot _).mono ?_)
      rintro _ w3 ⟨rfl, rfl⟩
      go_wp2_with (at_builtin; refine wpList_append_own _ rfl _ _ 22 rfl w2.heap.size 3 i0 (.int .i64 0) 1 8 Try.underlying22 hi0 hz0 hz1 hz2 rfl (by decide) _ _ _ rfl (hown.alloc _) ⟨_, 0, none⟩ 1 1 [.int .i64 y] rfl rfl ?c1 ?c2 ?c3 ?c4 ?c5 ?_)
      case c1 => exact cell_one_new _ _ _
      case c2 => intro u hu; simp at hu; subst hu; rfl
      case c3 => unfold maxLen; omega
      case c4 => omega
      case c5 => simp; omega
      intro v' w4 hown' hgrow _
      have ho : w4.ownsRow w2.heap.size 3 1 v' (n + 1) (intV ((l.map LG.not).take (n + 1))) := by rw [HR.out, intV_app]; exact hown'
      have hf3 : Fr w2 w4 := Below.grown (Below.alloc hfr hle _) hgrow (Nat.le_trans hle (by simp)) (fun k hk => (hown.lt k hk).1)
      have HO2 : Hid _ := ho
      clear ho hown' hgrow hown hcell
      go_wp2_with fail
      go_roundw
      case rel => exact ⟨n + 1, by omega, by go_num, HO2.out, hf3⟩
      case measure => simp [intOf]; omega
    · obtain rfl : n = l.length := by omega
      rw [List.take_of_length_le (by simp)] at hown
      have hrow := ints_of_own hown
      have HF : Hid (Fr w wr) := Fr.trans HF2.out hfr
      have hB := IsInts.fr HB.out hfr
      have hU := IsInts.fr HU.out HF.out
      have hV := IsInts.fr HV.out HF.out
      have K : ∀ W, Fr wr W → _ := fun W f => And.intro (all_any _ _ W (hB.fr f) (by simp; omega)) (And.intro (any_any _ _ W (hB.fr f) (by simp; omega)) (And.intro (all_any _ _ W (hU.fr f) (by omega)) (And.intro (any_any _ _ W (hU.fr f) (by omega)) (And.intro (all_any _ _ W (hV.fr f) (by omega)) (And.intro (any_any _ _ W (hV.fr f) (by omega)) (any_any _ _ W (hrow.fr f) (by simp; omega)))))))
      rw [LG.all_app, LG.any_app, ← LG.not_all] at K
      have HK : Hid _ := K
      have aa := fun W => and_any (LG.all l) (LG.all m) W
      have oo := fun W => or_any (LG.any l) (LG.any m) W
      have nn := fun W => not_any (LG.all l) W
      generalize LG.and (LG.all l) (LG.all m) = x1 at *
      generalize LG.or (LG.any l) (LG.any m) = x2 at *
      generalize LG.not (LG.all l) = x3 at *
      generalize LG.all l = y1 at *
      generalize LG.any l = y2 at *
      generalize LG.all m = y3 at *
      generalize LG.any m = y4 at *
      clear K hB hU hV hrow hown hfr HU HV NV NU HC HB HF2
      go_wp2_with (go_at_call 10; refine (logicBegun_any _).mono ?_)
      rintro _ w5 ⟨rfl, hf5⟩
      obtain ⟨k1, k2, k3, k4, k5, k6, k7⟩ := HK.out w5 hf5
      have HF5 : Hid (Fr w w5) := Fr.trans HF.out hf5
      clear hf5 HF HK
      go_wp2_with (go_at_call 17; refine k1.mono ?_)
      rintro _ w6 ⟨rfl, rfl⟩
      go_wp2_with (go_at_call 17; refine k3.mono ?_)
      rintro _ w6 ⟨rfl, rfl⟩
      go_wp2_with (go_at_call 17; refine k5.mono ?_)
      rintro _ w6 ⟨rfl, rfl⟩
      go_wp2_with (go_at_call 11; refine (aa _).mono ?_)
      rintro _ w6 ⟨rfl, rfl⟩
      go_wp2_with (go_at_call 19; refine k2.mono ?_)
      rintro _ w6 ⟨rfl, rfl⟩
      go_wp2_with (go_at_call 19; refine k4.mono ?_)
      rintro _ w6 ⟨rfl, rfl⟩
      go_wp2_with (go_at_call 19; refine k6.mono ?_)
      rintro _ w6 ⟨rfl, rfl⟩
      go_wp2_with (go_at_call 13; refine (oo _).mono ?_)
      rintro _ w6 ⟨rfl, rfl⟩
      go_wp2_with (go_at_call 17; refine k3.mono ?_)
      rintro _ w6 ⟨rfl, rfl⟩
      go_wp2_with (go_at_call 15; refine (nn _).mono ?_)
      rintro _ w6 ⟨rfl, rfl⟩
      go_wp2_with (go_at_call 19; refine k7.mono ?_)
      rintro _ w6 ⟨rfl, rfl⟩
      go_wp2_with fail
      go_ret
      exact ⟨rfl, HF5.out⟩
theorem walk (u : Value) (l : List Int) (v : Value) (m : List Int) (w : World) (hu : IsInts w u l) (ou : ∀ x ∈ l, -9223372036854775808 ≤ x ∧ x ≤ 9223372036854775807) (hl : l.length ≤ 1048576) (nu : NilOr u) (hv : IsInts w v m) (ov : ∀ x ∈ m, -9223372036854775808 ≤ x ∧ x ≤ 9223372036854775807) (hm : m.length ≤ 1048576) (nv : NilOr v) :
    Calls Try.prog 6 #[u, v] w fun e w' => e = .returned (.bool true) ∧ Fr w w' := core u v l m w hu hv nu nv hl hm

theorem contract (H : Type) (enc : TypeId × Value → H) (W : World) (base : Nat) (args : Array Value) (ds gs : List (DataW H)) (before : List MemPlace)
    (hval : ∀ (j : Nat) t v, Try.f6.params[j]? = some t → args[j]? = some v → Value.okWide Try.prog W .any base t v)
    (hW : DataW.Whole enc Try.prog Try.f6.params.toList Rows.logicListsSpec.vars false W args.toList ds gs before) (hk : Rows.uptoSmall H (ds ++ gs) = true) :
    Calls Try.prog 6 args W fun e W' => ∃ v, e = .returned v ∧ Rows.logicListsSpec.post enc Try.prog Try.f6 false true false false W args v W' := by
  have hW' := hW
  obtain ⟨p, q, hA0, hV, rfl, hfz, hnd⟩ := hW
  have hA : DataW.TrodAll enc Try.prog W 0 (fun _ => true) true Try.f6.params.toList args.toList ds p := hA0
  rw [Try.params6] at hA hval
  obtain ⟨v0, vs0, d0, ds0, p0, q0, hargs, rfl, rfl, h0, r0⟩ := trodAll_cons hA
  obtain ⟨v1, vs1, d1, ds1, p1, q1, rfl, rfl, rfl, h1, r1⟩ := trodAll_cons r0
  obtain ⟨rfl, rfl, rfl⟩ := trodAll_nil r1
  obtain rfl : args = #[v0, v1] := by cases args; simp_all
  obtain ⟨rfl, rfl⟩ := trodVars_none hV
  obtain ⟨l0, rw0, wd0, dd0⟩ := open_list (hval 0 22 v0 rfl rfl) h0
  obtain ⟨l1, rw1, wd1, dd1⟩ := open_list (hval 1 22 v1 rfl rfl) h1
  have hbulk : Rows.uptoBulkAll (H := H) [d0, d1] ≤ 1048576 := of_decide_eq_true hk
  simp only [Rows.uptoBulkAll, Rows.uptoBulk] at hbulk
  have b0 : l0.length ≤ 1048576 := by
    have := list_bulk dd0
    omega
  have b1 : l1.length ≤ 1048576 := by
    have := list_bulk dd1
    omega
  clear hA0
  simp only [List.append_nil] at hW'
  refine (walk v0 l0 v1 l1 W rw0 wd0 b0 (open_nil (hval 0 22 v0 rfl rfl) h0) rw1 wd1 b1 (open_nil (hval 1 22 v1 rfl rfl) h1)).mono fun e W' ⟨he, bel⟩ => ?_
  subst he
  exact ⟨_, rfl, _, _, _, [], _, [], hW', trodAll_mk1 (shut_bool Try.underlying4 _), (trodAll_cons_mk (shut_list h0 bel) (trodAll_cons_mk (shut_list h1 bel) trodAll_mk0)), rfl, Below.frame bel _, fun h => by cases h⟩

set_option maxRecDepth 100000 in
theorem lifted (os : Os) (started : os.Started) (H : Type) (enc : TypeId × Value → H) (F : Stop.Interp) :
    ReturnsInHanded {} Try.checked os 6 .any ((Rows.OpenSpec.upto Rows.logicListsSpec).pre6 enc Try.prog Try.f6 Rows.logicListsUptoRow.domain false) (((Rows.OpenSpec.upto Rows.logicListsSpec).at F).post enc Try.prog Try.f6 false true false false) := by
  refine returnsInHanded_of_cond (C := Try.checked) (s := Rows.OpenSpec.upto Rows.logicListsSpec) (k := Rows.uptoSmall) rfl own started (by kernel_rfl) Try.func6
    (OpenSpec.witness (enc := enc) (C := Try.checked) (s := Rows.OpenSpec.upto Rows.logicListsSpec) (k := Rows.uptoSmall) rfl false ⟨#[], #[.slice none 0 0, .slice none 0 0], []⟩ 8 (by kernel_rfl) (by kernel_rfl) (by kernel_rfl)
      (x := ([.nil, .nil], [], [])) (by kernel_rfl) rfl (by kernel_rfl)) ?_
  intro W base args ds gs before hval hW _ hk _
  exact contract H enc W base args ds gs before hval hW hk

theorem over : Rows.logicListsUptoRow.holds Try.pinned (Rows.OpenSpec.upto Rows.logicListsSpec) :=
  OpenClaim.holds_of_cond 6 Try.f6 rfl rfl rfl rfl rfl rfl rfl ⟨rfl, rfl, rfl, rfl, rfl⟩ rfl rfl rfl rfl rfl (by kernel_rfl) Try.func6 (by kernel_rfl)
    (of_decide_eq_true (by kernel_rfl)) (by unfold Func.isWrapper; first | (rw [if_pos (by decide +kernel)]; kernel_rfl) | (rw [if_neg (by decide +kernel)]; exact ⟨rfl, rfl⟩))
    (fun os started H enc _ F => lifted os started H enc F)

end Go.Proofs.Ytppbmkkkjjkiiaa.logicListsProof
namespace Go.Proofs.Ytppbmkkkjjkiiaa
theorem logicListsUpto_holds : Rows.LogicListsUptoSaid := logicListsProof.over
#print axioms logicListsUpto_holds
end Go.Proofs.Ytppbmkkkjjkiiaa
