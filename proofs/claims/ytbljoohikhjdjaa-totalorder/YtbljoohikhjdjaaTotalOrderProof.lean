/-
  Proved: for every slice of int64 and every two ints TotalOrder answers true: a sum does not hang on the order, errors neither: turned round, or two of them changed about. No condition but the form's own reach.
-/
import Derived.Test.YtbljoohikhjdjaaWBegun
import Derived.Test.YtbljoohikhjdjaaIntL
namespace Go.Proofs.Ytbljoohikhjdjaa.totalOrderProof
open Go.ChangeShapes Go.WideShapes Go.ChangeAt Go.RowKit
set_option linter.unusedVariables false
set_option maxRecDepth 100000

theorem rev_take (l : List Int) (n : Nat) (h : n < l.length) : l.reverse.take (n + 1) = l.reverse.take n ++ [l[l.length - n - 1]'(by omega)] := by
  rw [List.take_succ_eq_append_getElem (by simpa using h)]
  congr 2
  rw [List.getElem_reverse]
  congr 1
  omega

set_option maxHeartbeats 1000000 in
theorem core (a : Option Addr) (cap : Nat) (l : List Int) (i k x y : Int) (w : World) (hI : IsInts w (.slice a l.length cap) l) (hs : l.length * 8 ≤ 140737488351232)
    (c1 : ∀ W v m, IsInts W v m → m.length = l.length → m.sum = l.sum → (∀ z ∈ m, z ∈ l) → Calls Try.prog 23 #[v] W fun z w' => z = .returned (.tuple #[.int .i64 x, .int .i64 y]) ∧ w' = W) :
    Calls Try.prog 9 #[.slice a l.length cap, .int .i64 i, .int .i64 k] w fun e w' => e = .returned (.bool true) ∧ Fr w w' := by
  obtain ⟨i0, hi0, hz0, hz1, hz2⟩ := info_parts Try.infoElem
  have c0 := c1 w _ l hI rfl rfl (fun z hz => hz)
  have HI : Hid _ := hI
  have HC : Hid _ := c1
  clear hI c1
  go_enter Try.func9, Try.ntmps9
  go_wp2_with (go_at_call 23; refine c0.mono ?_)
  rintro _ w1 ⟨rfl, rfl⟩
  clear c0
  go_wp2_with (go_at_call 18; refine (wholeBegun_any _).mono ?_)
  rintro _ w2 ⟨rfl, hf⟩
  go_wp2_with fail
  go_loopw [9, 10] (fun v jv wr => ∃ n : Nat, n ≤ l.length ∧ jv = .int .i64 (((l.length - n : Nat) : Int) - 1) ∧ wr.ownsRow w1.heap.size 2 1 v n (intV (l.reverse.take n)) ∧ Fr w1 wr) (fun _ jv _ => (intOf jv + 1).toNat)
  case atStart => exact ⟨0, Nat.zero_le _, by simp, World.ownsRow_nil _ _ _ _, hf⟩
  case round =>
    obtain ⟨n, hn, rfl, hown, hfr⟩ := hrel
    have hle := hfr.size
    by_cases hlt : n < l.length
    · obtain ⟨q, hq⟩ : ∃ q, l.length - n = q + 1 := ⟨l.length - n - 1, by omega⟩
      rw [hq]
      obtain ⟨b, o, rfl, hb, hc⟩ : ∃ b o, a = some ⟨b, o, none⟩ ∧ b < w1.heap.size ∧ CellsAt w1 b o l := by
        obtain ⟨a', cap', he, _, h0 | ⟨b, o, h1, h2, h3⟩⟩ := HI.out
        · subst h0; simp at hlt
        · simp only [Value.slice.injEq] at he
          obtain ⟨rfl, _, _⟩ := he
          exact ⟨b, o, h1, h2, h3⟩
      have hq0 : q < l.length := by omega
      have hcell := (hc.fr hb hfr) q hq0
      have hrev := rev_take l n hlt
      have hnq : l[l.length - n - 1]'(by omega) = l[q] := by congr 1; omega
      rw [hnq] at hrev
      generalize hz : l[q] = z at hcell hrev
      have HR : Hid _ := hrev
      have HQ : Hid _ := hq
      have hq1 : (q : Int) ≤ (l.length : Int) := by omega
      clear hz hrev hq hc hnq
      go_wp2_with (at_builtin; refine wpList_append_own _ rfl _ _ 29 rfl w1.heap.size 2 i0 (.int .i64 0) 1 8 Try.underlying29 hi0 hz0 hz1 hz2 rfl (by decide) _ _ _ rfl (hown.alloc _) ⟨wr.heap.size, 0, none⟩ 1 1 [.int .i64 z] rfl rfl ?c1 ?c2 ?c3 ?c4 ?c5 ?_)
      case c1 => exact cell_one_new _ _ _
      case c2 => intro u hu; simp at hu; subst hu; rfl
      case c3 => unfold maxLen; omega
      case c4 => omega
      case c5 => simp; omega
      intro v' w3 hown' hgrow _
      have ho : w3.ownsRow w1.heap.size 2 1 v' (n + 1) (intV (l.reverse.take (n + 1))) := by rw [HR.out, intV_app]; exact hown'
      have hf3 : Fr w1 w3 := Below.grown (Below.alloc hfr hle _) hgrow (Nat.le_trans hle (by simp)) (fun k hk => (hown.lt k hk).1)
      have HO2 : Hid _ := ho
      clear ho hown' hgrow hown hcell
      go_wp2_with fail
      go_roundw
      case rel => exact ⟨n + 1, by omega, by have := HQ.out; go_num, HO2.out, hf3⟩
      case measure => simp [intOf]
    · obtain rfl : n = l.length := by omega
      rw [List.take_of_length_le (by simp)] at hown
      have hrow := ints_of_own hown
      have c2 := HC.out wr _ l.reverse hrow (by simp) (sum_turned l) (fun z hz => by simpa using hz)
      have HO : Hid _ := hown
      clear hown hrow
      by_cases hin : (0 ≤ i ∧ i < l.length) ∧ 0 ≤ k ∧ k < l.length
      · obtain ⟨⟨hi1, hi2⟩, hk1, hk2⟩ := hin
        obtain ⟨p, rfl⟩ := Int.eq_ofNat_of_zero_le hi1
        obtain ⟨q, rfl⟩ := Int.eq_ofNat_of_zero_le hk1
        have hp : p < l.length := by omega
        have hq : q < l.length := by omega
        obtain ⟨b, o, rfl, hb, hc⟩ : ∃ b o, a = some ⟨b, o, none⟩ ∧ b < w1.heap.size ∧ CellsAt w1 b o l := by
          obtain ⟨a', cap', he, _, h0 | ⟨b, o, h1, h2, h3⟩⟩ := HI.out
          · subst h0; simp at hp
          · simp only [Value.slice.injEq] at he
            obtain ⟨rfl, _, _⟩ := he
            exact ⟨b, o, h1, h2, h3⟩
        have hfr2 : Fr w1 (wr.alloc (.cells #[] 2)) := hfr.alloc _
        have hcs := hc.fr hb hfr2
        have HH : Hid _ := hc
        clear hc
        go_wp2_with (go_at_call 23; refine c2.mono ?_)
        rintro _ w3 ⟨rfl, rfl⟩
        go_wp2_with (at_builtin; refine wpList_append_own _ rfl _ _ 29 rfl w1.heap.size 2 i0 (.int .i64 0) 1 8 Try.underlying29 hi0 hz0 hz1 hz2 rfl (by decide) _ _ _ rfl (World.ownsRow_lit _ #[] 0 hle (by decide) rfl) ⟨b, o, none⟩ l.length cap (intV l) rfl (by rw [intV_len]; omega) ?c1 ?c2 ?c3 ?c4 ?c5 ?_)
        case c1 => exact IsInts.news hcs
        case c2 => exact intV_one l
        case c3 => unfold maxLen; omega
        case c4 => omega
        case c5 => simp; omega
        intro v' w4 hown' hgrow _
        obtain ⟨g, cap4, rfl, hg1, hg2⟩ := own_form hown' (by omega)
        have hf4 : Fr w1 w4 := Below.grown hfr2 hgrow (Fr.size hfr2) (fun k hk => by simp [Value.ownBlock] at hk; omega)
        have hcs4 := HH.out
        have cp : w4.cell? ⟨b, o + p, none⟩ = some (.int .i64 l[p]) := (Below.cell hf4 hb).trans (hcs4 p hp)
        have cq : w4.cell? ⟨b, o + q, none⟩ = some (.int .i64 l[q]) := (Below.cell hf4 hb).trans (hcs4 q hq)
        have op : w4.cell? ⟨g, p, none⟩ = some (.int .i64 l[p]) := by rw [hown'.cellAt p (by omega)]; simp [intV, hp]
        have oq : w4.cell? ⟨g, q, none⟩ = some (.int .i64 l[q]) := by rw [hown'.cellAt q (by omega)]; simp [intV, hq]
        have fp := hown'.frozenAt p
        have fq := hown'.frozenAt q
        have hbg : b ≠ g := by omega
        have hgb : g ≠ b := by omega
        have hst := (hown'.stored p (.int .i64 l[q]))
        have oq2 : (w4.setCell ⟨g, p, none⟩ (.int .i64 l[q])).cell? ⟨g, q, none⟩ = some (.int .i64 l[q]) := by
          rw [hst.1.cellAt q (by omega), intV_set]
          simp only [intV, List.getElem?_map, List.getElem?_set, hp, if_true]
          split
          · simp
          · simp [hq]
        have fq2 := hst.1.frozenAt q
        have hst2 := (hst.1.stored q (.int .i64 l[p]))
        rw [intV_set, intV_set] at hst2
        have c3 := HC.out _ _ _ ((ints_of_own hst2.1).fr ((Fr.refl _).drew)) (by simp) (sum_swap l p q hp hq) (fun z hz => by
          rcases List.mem_or_eq_of_mem_set hz with h | h
          · rcases List.mem_or_eq_of_mem_set h with h | h
            · exact h
            · rw [h]; exact List.getElem_mem hq
          · rw [h]; exact List.getElem_mem hp)
        have hf5 : Fr w1 ((w4.setCell ⟨g, p, none⟩ (.int .i64 l[q])).setCell ⟨g, q, none⟩ (.int .i64 l[p])) :=
          Below.grown (Below.grown hf4 hst.2 (Fr.size hf4) (fun k hk => by simp at hk; omega)) hst2.2 (by simp; exact Fr.size hf4) (fun k hk => by simp at hk; omega)
        have HF5 : Hid _ := hf5.drew
        generalize l[p] = lp at *
        generalize l[q] = lq at *
        clear hown' hgrow hf4 hcs4 hst hst2 hf5 hfr2 hcs HI HC HO hn hlt
        go_wp2_with fail
        go_region
        go_wp2_with (go_at_call 23; refine c3.mono ?_)
        rintro _ w5 ⟨rfl, rfl⟩
        go_wp2_with fail
        go_ret
        exact ⟨rfl, HF5.out⟩
      · have hout : i < 0 ∨ (0 ≤ i ∧ (l.length : Int) ≤ i) ∨ (0 ≤ i ∧ i < (l.length : Int) ∧ k < 0) ∨ (0 ≤ i ∧ i < (l.length : Int) ∧ 0 ≤ k ∧ (l.length : Int) ≤ k) := by omega
        clear hin HI HC HO
        rcases hout with h | ⟨h1, h2⟩ | ⟨h1, h2, h3⟩ | ⟨h1, h2, h3, h4⟩
        all_goals (
          go_wp2_with (go_at_call 23; refine c2.mono ?_)
          rintro _ w3 ⟨rfl, rfl⟩
          go_wp2_with fail
          go_ret
          exact ⟨rfl, hfr⟩)

theorem walk (v : Value) (l : List Int) (i k : Int) (w : World) (hl : IsInts w v l) (hok : ∀ x ∈ l, -9223372036854775808 ≤ x ∧ x ≤ 9223372036854775807) (hs : l.length * 8 ≤ 140737488351232) (hi : -9223372036854775808 ≤ i ∧ i ≤ 9223372036854775807) (hk : -9223372036854775808 ≤ k ∧ k ≤ 9223372036854775807) :
    Calls Try.prog 9 #[v, .int .i64 i, .int .i64 k] w fun e w' => e = .returned (.bool true) ∧ Fr w w' := by
  obtain ⟨x, y, h⟩ : ∃ x y, sumTwo l = .tuple #[.int .i64 x, .int .i64 y] := by
    unfold sumTwo
    split
    · exact ⟨_, _, rfl⟩
    · exact ⟨_, _, rfl⟩
  have hl' := hl
  obtain ⟨a, cap, rfl, _⟩ := hl
  refine core a cap l i k x y w hl' hs (fun W v m hm hlen hsum hmem => ?_)
  have c := sum_any v m W hm (fun z hz => hok z (hmem z hz)) (by omega)
  rw [sumTwo_of hsum hlen, h] at c
  exact c

set_option maxRecDepth 100000 in
theorem lifted (os : Os) (started : os.Started) (H : Type) (enc : TypeId × Value → H) :
    ReturnsInHanded {} Try.checked os 9 .any (Rows.totalOrderSpec.pre6 enc Try.prog Try.f9 Rows.totalOrderRow.domain false) (Rows.totalOrderSpec.post enc Try.prog Try.f9 false true false false) := by
  refine returnsInHanded_of_change_sized (C := Try.checked) own started (by kernel_rfl) Try.func9
    (ChangeSpec.witness6 (enc := enc) (C := Try.checked) false ⟨#[], #[.slice none 0 0, .int .i64 0, .int .i64 0], []⟩ 8 (by kernel_rfl) (by kernel_rfl) (by kernel_rfl) (by kernel_rfl)) ?_
  intro W base args ds gs before hval0 hW hcnd hsz0 _
  have hval : ∀ (j : Nat) t v, Try.f9.params[j]? = some t → args[j]? = some v → Value.okWide Try.prog W .any base t v := hval0
  have hsz : (DataW.weightsEach Try.prog (Try.f9.params.toList ++ Rows.totalOrderSpec.plain.varTypes Try.prog) (ds ++ gs)).all (· ≤ reachBytes) = true := hsz0
  have hW' := hW
  obtain ⟨p, q, hA0, hV, rfl, hfz, hnd⟩ := hW
  have hA : DataW.TrodAll enc Try.prog W 0 (fun _ => true) true Try.f9.params.toList args.toList ds p := hA0
  rw [Try.params9] at hA hval hsz
  obtain ⟨v0, vs0, d0, ds0, p0, q0, hargs, rfl, rfl, h0, r0⟩ := trodAll_cons hA
  obtain ⟨v1, vs1, d1, ds1, p1, q1, rfl, rfl, rfl, h1, r1⟩ := trodAll_cons r0
  obtain ⟨v2, vs2, d2, ds2, p2, q2, rfl, rfl, rfl, h2, r2⟩ := trodAll_cons r1
  obtain ⟨rfl, rfl, rfl⟩ := trodAll_nil r2
  obtain rfl : args = #[v0, v1, v2] := by cases args; simp_all
  obtain ⟨rfl, rfl⟩ := trodVars_none hV
  obtain ⟨l0, rw0, wd0, dd0⟩ := open_list (hval 0 29 v0 rfl rfl) h0
  obtain ⟨a1, rfl, rfl, rfl, w1⟩ := open_int Try.underlying3 (hval 1 3 v1 rfl rfl) h1
  obtain ⟨a2, rfl, rfl, rfl, w2⟩ := open_int Try.underlying3 (hval 2 3 v2 rfl rfl) h2
  have b0 : l0.length * 8 ≤ 140737488351232 := by
    rcases dd0 with ⟨_, rfl⟩ | ⟨es, sp, hd, hl⟩
    · simp
    · have h := sized_slice hsz (j := 0) (t := 29) rfl (by rw [hd]; rfl) Try.underlying29
      rw [Try.bytesElem] at h
      unfold reachBytes at h
      omega
  clear hA0 hval0 hsz0
  refine (walk v0 l0 a1 a2 W rw0 wd0 b0 (wf_i64 w1) (wf_i64 w2)).mono fun e W' ⟨he, bel⟩ => ?_
  subst he
  exact ⟨_, rfl, _, _, _, [], _, [], hW', trodAll_mk1 (shut_bool Try.underlying4 _), (trodAll_cons_mk (shut_list h0 bel) (trodAll_cons_mk (shut_int Try.underlying3 w1) (trodAll_cons_mk (shut_int Try.underlying3 w2) trodAll_mk0))), rfl, Below.frame bel _, fun h => by cases h⟩

theorem over : Rows.totalOrderRow.holds Try.pinned (OpenSpec.ofChange Rows.totalOrderSpec) :=
  OpenClaim.holds_of_wide 9 Try.f9 rfl rfl rfl rfl rfl rfl rfl ⟨rfl, rfl, rfl, rfl, rfl⟩ rfl rfl rfl rfl rfl (by kernel_rfl) Try.func9 (by kernel_rfl)
    (of_decide_eq_true (by kernel_rfl)) (by unfold Func.isWrapper; first | (rw [if_pos (by decide +kernel)]; kernel_rfl) | (rw [if_neg (by decide +kernel)]; exact ⟨rfl, rfl⟩))
    (fun os started H enc _ => lifted os started H enc)

end Go.Proofs.Ytbljoohikhjdjaa.totalOrderProof
namespace Go.Proofs.Ytbljoohikhjdjaa
theorem totalOrder_holds : Rows.TotalOrderSaid := totalOrderProof.over
#print axioms totalOrder_holds
end Go.Proofs.Ytbljoohikhjdjaa
