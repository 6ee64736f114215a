/-
  Proved: for every expression PushDown answers true: below a Not of what was pushed is neither And nor Or nor Not, nor what has a counterpart; and Not of it, pushed, pushed again, is it. No condition but the form's own reach.
-/
import Derived.Test.YtjboeabddnnlcaaGreatDoorEwG
import Derived.Test.YtjboeabddnnlcaaGreatDoorTabs
namespace Go.Proofs.YtjboeabddnnlcaaGreatDoor.pushDownProof
open Go.ChangeShapes Go.WideShapes Go.ChangeAt Go.RowKit
open Go.ChangeMaps (open_string shut_string)
set_option linter.unusedVariables false
set_option linter.unusedSimpArgs false
set_option maxRecDepth 100000

namespace EV
open VM EX Go.Proofs.YtjboeabddnnlcaaGreatDoor.EV
theorem push_not {n : Nd} {k : F} (h : (F.nd n k .nil).good) : (F.nd notN (.nd n k .nil) .nil).good ∧ psh ((k.flat ++ [n]) ++ [notN]) = (pf true (.nd n k .nil)).flat ∧ (ck ((k.flat ++ [n]) ++ [notN]) = 0 ∨ ck ((k.flat ++ [n]) ++ [notN]) = 2 ∨ ck ((k.flat ++ [n]) ++ [notN]) = 10) := by
  have hg : (F.nd notN (.nd n k .nil) .nil).good := ⟨nchk_not, rfl, h, trivial⟩
  have e : (F.nd n k .nil).flat = k.flat ++ [n] := rfl
  refine ⟨hg, ?_, ?_⟩
  · unfold psh
    rw [← e, tre_of hg.right, pf, if_pos (show notN.op = 4 from rfl)]
    show (F.app (pf true (.nd n k .nil)) (pf false .nil)).flat = _
    rw [show pf false .nil = .nil by rw [pf], F.app_nil]
  · rw [← e]
    exact ck_else hg
theorem ck_of_good {t : F} (h : t.good) (h1 : t.len = 1) : ck t.flat = 0 ∨ ck t.flat = 2 ∨ ck t.flat = 10 := by
  cases t with
  | nil => cases h1
  | nd n k s =>
    cases s with
    | nd _ _ _ => simp only [F.len] at h1; omega
    | nil => exact ck_else h
/-- what is known of what was pushed -/
theorem down {e : List Nd} (hc : ck e = 0) :
    (∃ k2 n2 n', psh e = k2 ++ [n2, n'] ∧ n'.op = 4 ∧ (n2.op = 1 ∨ n2.op = 2 ∨ n2.op = 3 ∨ (5 ≤ n2.op ∧ n2.op ≤ 9))) ∨ (∃ k2 n', psh e = k2 ++ [n'] ∧ n'.op ≠ 4) := by
  obtain ⟨n, k, n', k', rfl, hg, hT, hg1, hn1, hp⟩ := psh_tree hc
  by_cases h4 : n'.op = 4
  · left
    unfold nf at hn1
    rw [if_pos h4] at hn1
    obtain ⟨⟨_, n2, k2, rfl, g1, g2, g3, g4⟩, _⟩ := hn1
    refine ⟨k2.flat, n2, n', by rw [hp]; simp [F.flat], h4, ?_⟩
    have ho := op_in hg1.2.2.1.1
    have : cpt n2.op = 0 := g4
    by_cases hx : n2.op = 1 ∨ n2.op = 2 ∨ n2.op = 3 ∨ (5 ≤ n2.op ∧ n2.op ≤ 9)
    · exact hx
    · exfalso
      have hin : n2.op = 10 ∨ n2.op = 11 ∨ n2.op = 12 ∨ n2.op = 13 ∨ n2.op = 14 ∨ n2.op = 15 ∨ n2.op = 18 ∨ n2.op = 19 ∨ n2.op = 20 ∨ n2.op = 21 ∨ n2.op = 22 ∨ n2.op = 23 ∨ n2.op = 24 ∨ n2.op = 25 := by omega
      rcases hin with h | h | h | h | h | h | h | h | h | h | h | h | h | h <;> (rw [h] at this; revert this; decide)
  · exact .inr ⟨k'.flat, n', hp, h4⟩
/-- what Push says of Not of what was pushed, and of Not of that -/
theorem twice {e : List Nd} (hc : ck e = 0) :
    (ck (psh e ++ [notN]) = 0 ∨ ck (psh e ++ [notN]) = 2 ∨ ck (psh e ++ [notN]) = 10) ∧
    (ck (psh (psh e ++ [notN])) = 0 ∨ ck (psh (psh e ++ [notN])) = 2 ∨ ck (psh (psh e ++ [notN])) = 10) ∧
    psh (psh (psh e ++ [notN]) ++ [notN]) = psh e := by
  obtain ⟨n, k, n', k', rfl, hg, hT, hg1, hn1, hp⟩ := psh_tree hc
  obtain ⟨h1, h2, h3⟩ := push_not hg1
  have hgt := pf_good (.nd n' k' .nil) true hg1
  have hlt := pf_len (.nd n' k' .nil) true hg1
  have hpp := pf_pf (.nd n' k' .nil) hn1 hg1
  rw [hp, h2]
  refine ⟨h3, ck_of_good hgt hlt, ?_⟩
  cases hq : pf true (.nd n' k' .nil) with
  | nil => rw [hq] at hlt; cases hlt
  | nd n2 k2 s2 =>
    cases s2 with
    | nd _ _ _ => rw [hq] at hlt; simp only [F.len] at hlt; omega
    | nil =>
      rw [hq] at hgt hpp
      have e : (F.nd n2 k2 .nil).flat = k2.flat ++ [n2] := rfl
      rw [e, (push_not hgt).2.1, hpp]
      rfl
end EV
set_option maxHeartbeats 4000000 in
theorem walk (v0 : Value) (e : List EX.Nd) (w : World) (hT : Tt w)
    (h0 : IsL cdN w v0 e) (k0 : ∀ y ∈ e, EV.okN y ∧ (-9223372036854775808 ≤ y.op ∧ y.op ≤ 9223372036854775807) ∧ (-9223372036854775808 ≤ y.kids ∧ y.kids ≤ 9223372036854775807)) (b0 : e.length * 64 ≤ 140737488351232) :
    Calls Tryz.prog 12 #[v0] w fun e w' => e = .returned (.bool true) ∧ Fr w w' := by
  obtain ⟨i0, hi0, hz0, hz1, hz2⟩ := info_parts Tryz.infoN
  have HP := hideP (psh_any v0 e w h0 (fun n hn => (k0 n hn).1.1) (by omega) hT.tn)
  have HBg := hideP (fun W (g : Fr w W) => evalBegun_any W (hT.tn.fr g) (hT.tb.fr g))
  obtain ⟨a0, c0, rfl, _⟩ := h0
  unfold PsAns at HP
  have HTn := hideP hT.tn
  have H0 : Hid (∀ n ∈ e, EV.okN n) := fun n hn => (k0 n hn).1
  obtain ⟨n0, hn0⟩ : ∃ n0, e.length = n0 := ⟨_, rfl⟩
  have HN0 := hideP hn0
  rw [hn0] at HP b0 ⊢
  clear k0 hT hn0
  by_cases hc : EX.ck e = 0
  case neg =>
    have e1 : ((EX.ck e : Int) != 0) = true := by simp; omega
    have e2 : ¬ ((EX.ck e : Int) = 0) := by omega
    have e3 : ((EX.ck e : Int) == 0) = false := by simp; omega
    simp only [hc, ne_eq, not_false_eq_true, true_and, false_and, or_false] at HP
    generalize (EX.ck e : Int) = z at *
    go_enter Tryz.func12, Tryz.ntmps12
    go_wp2_with fail
    refine HP.out.mono ?_
    rintro _ w1 ⟨rfl, f1⟩
    go_wp2_with fail
    refine (HBg.out _ f1).mono ?_
    rintro _ w2 ⟨rfl, f2⟩
    go_wp2_with fail
    go_ret
    exact ⟨rfl, f1.trans f2⟩
  simp only [hc, ne_eq, not_true, true_and, false_and, false_or] at HP
  by_cases hc2 : EX.ck (EV.psh e) = 0
  case neg =>
    have e1 : ((EX.ck (EV.psh e) : Int) != 0) = true := by simp; omega
    have e2 : ¬ ((EX.ck (EV.psh e) : Int) = 0) := by omega
    have e3 : ((EX.ck (EV.psh e) : Int) == 0) = false := by simp; omega
    simp only [hc2, ne_eq, not_false_eq_true, true_and, false_and, or_false] at HP
    generalize (EX.ck (EV.psh e) : Int) = z at *
    go_enter Tryz.func12, Tryz.ntmps12
    go_wp2_with fail
    refine HP.out.mono ?_
    rintro _ w1 ⟨rfl, f1⟩
    go_wp2_with fail
    refine (HBg.out _ f1).mono ?_
    rintro _ w2 ⟨rfl, f2⟩
    go_wp2_with fail
    go_ret
    exact ⟨rfl, f1.trans f2⟩
  simp only [hc2, ne_eq, not_true, true_and, false_and, false_or] at HP
  by_cases h60 : 60 ≤ n0
  · have h60' : (60 : Int) ≤ (n0 : Int) := by omega
    go_enter Tryz.func12, Tryz.ntmps12
    go_wp2_with fail
    refine HP.out.mono ?_
    rintro _ w1 ⟨⟨u, rfl, hown⟩, f1⟩
    obtain ⟨ua, uc, rfl⟩ := own_slice hown
    go_wp2_with fail
    refine (HBg.out _ f1).mono ?_
    rintro _ w2 ⟨rfl, f2⟩
    go_wp2_with fail
    go_ret
    exact ⟨rfl, f1.trans f2⟩
  have h60' : ¬ (60 : Int) ≤ (n0 : Int) := by omega
  have h60'' : (n0 : Int) < 60 := by omega
  obtain ⟨hk1, hk2, hk3⟩ := EV.twice hc
  have hm60 := (EX.ck_ok hc2).1
  have hdn := EV.down hc
  have HOk := hideP (EV.psh_ok hc H0.out)
  clear H0 hc hc2 h60 HN0
  generalize EV.psh e = m at *
  -- what Push says of Not of it
  have hok2 : ∀ x ∈ m ++ [EV.notN], EV.okN x := by
    intro x hx
    rcases List.mem_append.1 hx with h | h
    · exact HOk.out x h
    · obtain rfl : x = EV.notN := by simpa using h
      exact EV.notN_ok
  have HP2 := hideP (fun W u (g : Fr w W) (hu : IsL cdN W u (m ++ [EV.notN])) => psh_any u (m ++ [EV.notN]) W hu (fun n hn => (hok2 n hn).1) (by rw [List.length_append]; simp only [List.length_cons, List.length_nil]; omega) (HTn.out.fr g))
  unfold PsAns at HP2
  have hok3 : EX.ck (m ++ [EV.notN]) = 0 → ∀ x ∈ EV.psh (m ++ [EV.notN]) ++ [EV.notN], EV.okN x := by
    intro hc x hx
    rcases List.mem_append.1 hx with h | h
    · exact EV.psh_ok hc hok2 x h
    · obtain rfl : x = EV.notN := by simpa using h
      exact EV.notN_ok
  have HP3 := hideP (fun W u (g : Fr w W) (hc : EX.ck (m ++ [EV.notN]) = 0) (hl : (EV.psh (m ++ [EV.notN])).length ≤ 60) (hu : IsL cdN W u (EV.psh (m ++ [EV.notN]) ++ [EV.notN])) => psh_any u (EV.psh (m ++ [EV.notN]) ++ [EV.notN]) W hu (fun n hn => (hok3 hc n hn).1) (by rw [List.length_append]; simp only [List.length_cons, List.length_nil]; omega) (HTn.out.fr g))
  unfold PsAns at HP3
  rw [hk3] at HP3
  have HCk2 := hideP (fun (h : EX.ck (EV.psh (m ++ [EV.notN])) = 0) => (EX.ck_ok h).1)
  generalize EV.psh (m ++ [EV.notN]) = m2 at *
  have HK1 := hideP hk1
  have HK2 := hideP hk2
  clear hk1 hk2 hk3 hok2 hok3 HOk
  have HNot := hideP (fun W => nOp_any 4 1 W)
  rcases hdn with ⟨k2, n2, n', hm, h4, hq⟩ | ⟨k2, n', hm, h4⟩
  · obtain ⟨K, hK⟩ : ∃ K, k2.length = K := ⟨_, rfl⟩
    have HKl := hideP hK
    have HMm := hideP hm
    have HLm : Hid (m.length = K + 2) := by unfold Hid; rw [hm, List.length_append, hK]; rfl
    have hK60 : K + 2 ≤ 60 := by rw [← HLm.out]; exact hm60
    have hK1 : (2 : Int) ≤ (K : Int) + 2 := by omega
    have hlast : ∀ W g, (∀ j u, (flat cdN (k2 ++ [n2, n']))[j]? = some u → World.cell? W ⟨g, j, none⟩ = some u) → W.cell? ⟨g, (K + 1) * 6, none⟩ = some (.int .i64 n'.op) ∧ W.cell? ⟨g, K * 6, none⟩ = some (.int .i64 n2.op) := by
      intro W g hcc
      constructor
      · refine hcc _ _ ?_
        have := flat_get cdN (k2 ++ [n2, n']) (K + 1) 0 (by rw [List.length_append, hK]; simp) (by decide)
        rw [show (K + 1) * cdN.k + 0 = (K + 1) * 6 from rfl] at this
        rw [this]
        simp [cdN, ← hK]
      · refine hcc _ _ ?_
        have := flat_get cdN (k2 ++ [n2, n']) K 0 (by rw [List.length_append, hK]; simp) (by decide)
        rw [show K * cdN.k + 0 = K * 6 from rfl] at this
        rw [this]
        simp [cdN, ← hK]
    have HLast := hideP hlast
    rw [HLm.out] at HP hm60
    clear hm hK hlast
    generalize n2.op = q at *
    generalize n'.op = q4 at *
    subst h4
    rcases hq with rfl | rfl | rfl | hq
    · go_enter Tryz.func12, Tryz.ntmps12
      go_wp2_with fail
      refine HP.out.mono ?_
      rintro _ w1 ⟨⟨u, rfl, hown⟩, f1⟩
      obtain ⟨ua, uc, rfl⟩ := own_slice hown
      have HO := hideP hown
      have F1 := hideP f1
      clear f1 hown
      go_wp2_with fail
      refine (HBg.out _ F1.out).mono ?_
      rintro _ w2 ⟨rfl, f2⟩
      have F2 := hideP (F1.out.trans f2)
      replace HO := hideP (own_fr HO.out f2)
      have HIs := hideP (show IsL cdN w2 (.slice ua (K + 2) uc) m from isL_own (E := cdN) (by rw [HLm.out]; exact HO.out))
      clear f2
      have hgs : ∃ g, ua = some ⟨g, 0, none⟩ ∧ ∀ j u, (flat cdN m)[j]? = some u → w2.cell? ⟨g, j, none⟩ = some u := by
        rcases HO.out.2 with ⟨_, h0⟩ | ⟨g, cap', cur, e9, _⟩
        · cases h0
        · cases e9
          obtain ⟨a9, c9, h9, _, h8⟩ := HIs.out
          injection h9 with h9a h9b h9c
          subst h9a
          rcases h8 with h8 | ⟨b9, o9, h7, _, h6⟩
          · have h5 := HLm.out
            rw [h8] at h5
            simp at h5
          · cases h7
            exact ⟨_, rfl, fun j u hj => by have := h6 j u hj; rwa [Nat.zero_add] at this⟩
      obtain ⟨g, rfl, hcell⟩ := hgs
      rw [HMm.out] at hcell
      obtain ⟨d1, d2⟩ := HLast.out w2 g hcell
      clear hcell

      have HL0 := hideP (own_lit0 cdN w2 38 w2.heap.size (Nat.le_refl _))
      have FL0 := hideP ((Fr.refl w2).alloc (.cells #[] 38))
      go_wp2_with (at_builtin; refine wpList_append_L cdN rfl _ _ 22 38 i0 _ 64 rfl Tryz.underlying22 hi0 hz0 hz1 hz2 rfl w2.heap.size _ 0 [] rfl HL0.out (.slice (some ⟨g, 0, none⟩) (K + 2) uc) m rfl (HIs.out.fr FL0.out) ?c3 ?c4 ?c5 ?_)
      case c3 => unfold maxLen; rw [HLm.out]; omega
      case c4 => rw [HLm.out]; omega
      case c5 => simp
      intro v3 w3 own3 gr3
      have F3 := hideP (show Fr w2 w3 from Below.grown FL0.out gr3 (by simp) (own_base HL0.out))
      have HO3 := hideP (show w3.ownsRow w2.heap.size 38 6 v3 (K + 2) (flat cdN m) from by
        have := own3
        simp only [HLm.out, Nat.zero_add, List.nil_append] at this
        exact this)
      replace HIs := hideP (HIs.out.fr F3.out)
      clear own3 gr3 HL0 FL0 d1 d2
      go_wp2_with fail
      refine (HNot.out _).mono ?_
      rintro _ w4 ⟨rfl, f4⟩
      have HLit := hideP (lit_one cdN w4 EV.notN 38)
      have g4 : Fr w3 (w4.alloc (.cells #[.int .i64 4, .int .i64 1, .int .i64 0, .int .i64 0, .string ⟨#[]⟩, .string ⟨#[]⟩] 38)) := f4.alloc _
      have HO4 := hideP (own_fr HO3.out g4)
      replace HIs := hideP (HIs.out.fr g4)
      have F4 := hideP (F3.out.trans g4)
      have hsz4 : w2.heap.size ≤ w4.heap.size := (F3.out.trans f4).size
      clear f4 g4 HO3
      go_wp2_with (at_builtin; refine wpList_append_L cdN rfl _ _ 22 38 i0 _ 64 rfl Tryz.underlying22 hi0 hz0 hz1 hz2 rfl w2.heap.size _ (K + 2) m rfl HO4.out (.slice (some ⟨w4.heap.size, 0, none⟩) 1 1) [EV.notN] rfl HLit.out ?c3 ?c4 ?c5 ?_)
      case c3 => unfold maxLen; simp <;> omega
      case c4 => simp <;> omega
      case c5 => simp <;> omega
      intro v5 w5 own5 gr5
      have F5 := hideP (show Fr w2 w5 from Below.grown F4.out gr5 (by simp; omega) (own_base HO4.out))
      have HI5 := hideP (show IsL cdN w5 v5 (m ++ [EV.notN]) from isL_own (E := cdN) (by rw [List.length_append, HLm.out]; exact own5))
      replace HIs := hideP (show IsL cdN w5 (.slice (some ⟨g, 0, none⟩) (K + 2) uc) m from (isL_own (E := cdN) (by rw [HLm.out]; exact HO.out)).fr F5.out)
      obtain ⟨xa, xn, xc, rfl⟩ := own_slice' own5
      clear own5 gr5 HO4 HLit
      have HCa := hideP (HP2.out w5 _ (F2.out.trans F5.out) HI5.out)
      go_wp2_with fail
      refine HCa.out.mono ?_
      rintro _ w6 ⟨ha, f6⟩
      have F6 := hideP (F5.out.trans f6)
      replace HIs := hideP (HIs.out.fr f6)
      clear f6 HCa
      rcases ha with ⟨hn, rfl⟩ | ⟨hy, hn, rfl⟩ | ⟨hy, hy2, u6, rfl, own6⟩
      · rcases HK1.out with h | h | h
        · exact absurd h hn
        all_goals (
          rw [h]
          clear HK1 HK2 hn h
          go_wp2_with fail
          go_ret
          exact ⟨rfl, F2.out.trans F6.out⟩)
      · rcases HK2.out with h | h | h
        · exact absurd h hn
        all_goals (
          rw [h]
          clear HK1 HK2 hn h hy
          go_wp2_with fail
          go_ret
          exact ⟨rfl, F2.out.trans F6.out⟩)
      · have hm2 := HCk2.out hy2
        have HPc := hideP (fun W u g hu => HP3.out W u g hy hm2 hu)
        obtain ⟨ya, yc, rfl⟩ := own_slice own6
        obtain ⟨M, hM⟩ : ∃ M, m2.length = M := ⟨_, rfl⟩
        have HMl := hideP hM
        have HI6 := hideP (show IsL cdN w6 (.slice ya M yc) m2 from isL_own (E := cdN) (by rw [← hM]; exact own6))
        rw [hM] at hm2 ⊢
        clear hy hy2 own6 hM HP3 HK1 HK2
        have HL6 := hideP (own_lit0 cdN w6 38 w6.heap.size (Nat.le_refl _))
        have FL6 := hideP ((Fr.refl w6).alloc (.cells #[] 38))
        go_wp2_with (at_builtin; refine wpList_append_L cdN rfl _ _ 22 38 i0 _ 64 rfl Tryz.underlying22 hi0 hz0 hz1 hz2 rfl w6.heap.size _ 0 [] rfl HL6.out (.slice ya M yc) m2 rfl (HI6.out.fr FL6.out) ?c3 ?c4 ?c5 ?_)
        case c3 => unfold maxLen; rw [HMl.out]; omega
        case c4 => rw [HMl.out]; omega
        case c5 => simp
        intro v7 w7 own7 gr7
        have F7 := hideP (show Fr w6 w7 from Below.grown FL6.out gr7 (by simp) (own_base HL6.out))
        have HO7 := hideP (show w7.ownsRow w6.heap.size 38 6 v7 M (flat cdN m2) from by
          have := own7
          simp only [HMl.out, Nat.zero_add, List.nil_append] at this
          exact this)
        replace HIs := hideP (HIs.out.fr F7.out)
        clear own7 gr7 HL6 FL6
        go_wp2_with fail
        refine (HNot.out _).mono ?_
        rintro _ w8 ⟨rfl, f8⟩
        have HLit := hideP (lit_one cdN w8 EV.notN 38)
        have g8 : Fr w7 (w8.alloc (.cells #[.int .i64 4, .int .i64 1, .int .i64 0, .int .i64 0, .string ⟨#[]⟩, .string ⟨#[]⟩] 38)) := f8.alloc _
        have HO8 := hideP (own_fr HO7.out g8)
        have F8 := hideP (F7.out.trans g8)
        have hsz8 : w6.heap.size ≤ w8.heap.size := (F7.out.trans f8).size
        replace HIs := hideP (HIs.out.fr g8)
        clear f8 g8 HO7
        go_wp2_with (at_builtin; refine wpList_append_L cdN rfl _ _ 22 38 i0 _ 64 rfl Tryz.underlying22 hi0 hz0 hz1 hz2 rfl w6.heap.size _ M m2 rfl HO8.out (.slice (some ⟨w8.heap.size, 0, none⟩) 1 1) [EV.notN] rfl HLit.out ?c3 ?c4 ?c5 ?_)
        case c3 => unfold maxLen; simp <;> omega
        case c4 => simp <;> omega
        case c5 => simp <;> omega
        intro v9 w9 own9 gr9
        have F9 := hideP (show Fr w6 w9 from Below.grown F8.out gr9 (by simp; omega) (own_base HO8.out))
        have HI9 := hideP (show IsL cdN w9 v9 (m2 ++ [EV.notN]) from isL_own (E := cdN) (by rw [List.length_append, HMl.out]; exact own9))
        replace HIs := hideP (show IsL cdN w9 (.slice (some ⟨g, 0, none⟩) (K + 2) uc) m from ((isL_own (E := cdN) (by rw [HLm.out]; exact HO.out)).fr F6.out).fr F9.out)
        obtain ⟨za, zn, zc, rfl⟩ := own_slice' own9
        clear own9 gr9 HO8 HLit
        have HCa := hideP (HPc.out w9 _ (F2.out.trans (F6.out.trans F9.out)) HI9.out)
        go_wp2_with fail
        refine HCa.out.mono ?_
        rintro _ wa ⟨ha, fa⟩
        have FA := hideP (F2.out.trans (F6.out.trans (F9.out.trans fa)))
        replace HIs := hideP (HIs.out.fr fa)
        clear fa HCa
        rcases ha with ⟨hn, rfl⟩ | ⟨hy, hn, rfl⟩ | ⟨hy, hy2, ub, rfl, ownb⟩
        · have e1 : ((EX.ck (m2 ++ [EV.notN]) : Int) != 0) = true := by simp; omega
          have e2 : ¬ ((EX.ck (m2 ++ [EV.notN]) : Int) = 0) := by omega
          generalize (EX.ck (m2 ++ [EV.notN]) : Int) = z at *
          go_wp2_with fail
          go_ret
          exact ⟨rfl, FA.out⟩
        · have e1 : ((EX.ck m : Int) != 0) = true := by simp; omega
          have e2 : ¬ ((EX.ck m : Int) = 0) := by omega
          generalize (EX.ck m : Int) = z at *
          go_wp2_with fail
          go_ret
          exact ⟨rfl, FA.out⟩
        · rw [HLm.out] at ownb
          obtain ⟨ba, bc, rfl⟩ := own_slice ownb
          have HCs := hideP (sameNodes_eq (.slice ba (K + 2) bc) (.slice (some ⟨g, 0, none⟩) (K + 2) uc) m wa (isL_own (E := cdN) (by rw [HLm.out]; exact ownb)) HIs.out (by rw [HLm.out]; omega))
          clear ownb hy hy2
          go_wp2_with fail
          refine HCs.out.mono ?_
          rintro _ wb ⟨rfl, fb⟩
          go_wp2_with fail
          go_ret
          exact ⟨rfl, FA.out.trans fb⟩
    · go_enter Tryz.func12, Tryz.ntmps12
      go_wp2_with fail
      refine HP.out.mono ?_
      rintro _ w1 ⟨⟨u, rfl, hown⟩, f1⟩
      obtain ⟨ua, uc, rfl⟩ := own_slice hown
      have HO := hideP hown
      have F1 := hideP f1
      clear f1 hown
      go_wp2_with fail
      refine (HBg.out _ F1.out).mono ?_
      rintro _ w2 ⟨rfl, f2⟩
      have F2 := hideP (F1.out.trans f2)
      replace HO := hideP (own_fr HO.out f2)
      have HIs := hideP (show IsL cdN w2 (.slice ua (K + 2) uc) m from isL_own (E := cdN) (by rw [HLm.out]; exact HO.out))
      clear f2
      have hgs : ∃ g, ua = some ⟨g, 0, none⟩ ∧ ∀ j u, (flat cdN m)[j]? = some u → w2.cell? ⟨g, j, none⟩ = some u := by
        rcases HO.out.2 with ⟨_, h0⟩ | ⟨g, cap', cur, e9, _⟩
        · cases h0
        · cases e9
          obtain ⟨a9, c9, h9, _, h8⟩ := HIs.out
          injection h9 with h9a h9b h9c
          subst h9a
          rcases h8 with h8 | ⟨b9, o9, h7, _, h6⟩
          · have h5 := HLm.out
            rw [h8] at h5
            simp at h5
          · cases h7
            exact ⟨_, rfl, fun j u hj => by have := h6 j u hj; rwa [Nat.zero_add] at this⟩
      obtain ⟨g, rfl, hcell⟩ := hgs
      rw [HMm.out] at hcell
      obtain ⟨d1, d2⟩ := HLast.out w2 g hcell
      clear hcell

      have HL0 := hideP (own_lit0 cdN w2 38 w2.heap.size (Nat.le_refl _))
      have FL0 := hideP ((Fr.refl w2).alloc (.cells #[] 38))
      go_wp2_with (at_builtin; refine wpList_append_L cdN rfl _ _ 22 38 i0 _ 64 rfl Tryz.underlying22 hi0 hz0 hz1 hz2 rfl w2.heap.size _ 0 [] rfl HL0.out (.slice (some ⟨g, 0, none⟩) (K + 2) uc) m rfl (HIs.out.fr FL0.out) ?c3 ?c4 ?c5 ?_)
      case c3 => unfold maxLen; rw [HLm.out]; omega
      case c4 => rw [HLm.out]; omega
      case c5 => simp
      intro v3 w3 own3 gr3
      have F3 := hideP (show Fr w2 w3 from Below.grown FL0.out gr3 (by simp) (own_base HL0.out))
      have HO3 := hideP (show w3.ownsRow w2.heap.size 38 6 v3 (K + 2) (flat cdN m) from by
        have := own3
        simp only [HLm.out, Nat.zero_add, List.nil_append] at this
        exact this)
      replace HIs := hideP (HIs.out.fr F3.out)
      clear own3 gr3 HL0 FL0 d1 d2
      go_wp2_with fail
      refine (HNot.out _).mono ?_
      rintro _ w4 ⟨rfl, f4⟩
      have HLit := hideP (lit_one cdN w4 EV.notN 38)
      have g4 : Fr w3 (w4.alloc (.cells #[.int .i64 4, .int .i64 1, .int .i64 0, .int .i64 0, .string ⟨#[]⟩, .string ⟨#[]⟩] 38)) := f4.alloc _
      have HO4 := hideP (own_fr HO3.out g4)
      replace HIs := hideP (HIs.out.fr g4)
      have F4 := hideP (F3.out.trans g4)
      have hsz4 : w2.heap.size ≤ w4.heap.size := (F3.out.trans f4).size
      clear f4 g4 HO3
      go_wp2_with (at_builtin; refine wpList_append_L cdN rfl _ _ 22 38 i0 _ 64 rfl Tryz.underlying22 hi0 hz0 hz1 hz2 rfl w2.heap.size _ (K + 2) m rfl HO4.out (.slice (some ⟨w4.heap.size, 0, none⟩) 1 1) [EV.notN] rfl HLit.out ?c3 ?c4 ?c5 ?_)
      case c3 => unfold maxLen; simp <;> omega
      case c4 => simp <;> omega
      case c5 => simp <;> omega
      intro v5 w5 own5 gr5
      have F5 := hideP (show Fr w2 w5 from Below.grown F4.out gr5 (by simp; omega) (own_base HO4.out))
      have HI5 := hideP (show IsL cdN w5 v5 (m ++ [EV.notN]) from isL_own (E := cdN) (by rw [List.length_append, HLm.out]; exact own5))
      replace HIs := hideP (show IsL cdN w5 (.slice (some ⟨g, 0, none⟩) (K + 2) uc) m from (isL_own (E := cdN) (by rw [HLm.out]; exact HO.out)).fr F5.out)
      obtain ⟨xa, xn, xc, rfl⟩ := own_slice' own5
      clear own5 gr5 HO4 HLit
      have HCa := hideP (HP2.out w5 _ (F2.out.trans F5.out) HI5.out)
      go_wp2_with fail
      refine HCa.out.mono ?_
      rintro _ w6 ⟨ha, f6⟩
      have F6 := hideP (F5.out.trans f6)
      replace HIs := hideP (HIs.out.fr f6)
      clear f6 HCa
      rcases ha with ⟨hn, rfl⟩ | ⟨hy, hn, rfl⟩ | ⟨hy, hy2, u6, rfl, own6⟩
      · rcases HK1.out with h | h | h
        · exact absurd h hn
        all_goals (
          rw [h]
          clear HK1 HK2 hn h
          go_wp2_with fail
          go_ret
          exact ⟨rfl, F2.out.trans F6.out⟩)
      · rcases HK2.out with h | h | h
        · exact absurd h hn
        all_goals (
          rw [h]
          clear HK1 HK2 hn h hy
          go_wp2_with fail
          go_ret
          exact ⟨rfl, F2.out.trans F6.out⟩)
      · have hm2 := HCk2.out hy2
        have HPc := hideP (fun W u g hu => HP3.out W u g hy hm2 hu)
        obtain ⟨ya, yc, rfl⟩ := own_slice own6
        obtain ⟨M, hM⟩ : ∃ M, m2.length = M := ⟨_, rfl⟩
        have HMl := hideP hM
        have HI6 := hideP (show IsL cdN w6 (.slice ya M yc) m2 from isL_own (E := cdN) (by rw [← hM]; exact own6))
        rw [hM] at hm2 ⊢
        clear hy hy2 own6 hM HP3 HK1 HK2
        have HL6 := hideP (own_lit0 cdN w6 38 w6.heap.size (Nat.le_refl _))
        have FL6 := hideP ((Fr.refl w6).alloc (.cells #[] 38))
        go_wp2_with (at_builtin; refine wpList_append_L cdN rfl _ _ 22 38 i0 _ 64 rfl Tryz.underlying22 hi0 hz0 hz1 hz2 rfl w6.heap.size _ 0 [] rfl HL6.out (.slice ya M yc) m2 rfl (HI6.out.fr FL6.out) ?c3 ?c4 ?c5 ?_)
        case c3 => unfold maxLen; rw [HMl.out]; omega
        case c4 => rw [HMl.out]; omega
        case c5 => simp
        intro v7 w7 own7 gr7
        have F7 := hideP (show Fr w6 w7 from Below.grown FL6.out gr7 (by simp) (own_base HL6.out))
        have HO7 := hideP (show w7.ownsRow w6.heap.size 38 6 v7 M (flat cdN m2) from by
          have := own7
          simp only [HMl.out, Nat.zero_add, List.nil_append] at this
          exact this)
        replace HIs := hideP (HIs.out.fr F7.out)
        clear own7 gr7 HL6 FL6
        go_wp2_with fail
        refine (HNot.out _).mono ?_
        rintro _ w8 ⟨rfl, f8⟩
        have HLit := hideP (lit_one cdN w8 EV.notN 38)
        have g8 : Fr w7 (w8.alloc (.cells #[.int .i64 4, .int .i64 1, .int .i64 0, .int .i64 0, .string ⟨#[]⟩, .string ⟨#[]⟩] 38)) := f8.alloc _
        have HO8 := hideP (own_fr HO7.out g8)
        have F8 := hideP (F7.out.trans g8)
        have hsz8 : w6.heap.size ≤ w8.heap.size := (F7.out.trans f8).size
        replace HIs := hideP (HIs.out.fr g8)
        clear f8 g8 HO7
        go_wp2_with (at_builtin; refine wpList_append_L cdN rfl _ _ 22 38 i0 _ 64 rfl Tryz.underlying22 hi0 hz0 hz1 hz2 rfl w6.heap.size _ M m2 rfl HO8.out (.slice (some ⟨w8.heap.size, 0, none⟩) 1 1) [EV.notN] rfl HLit.out ?c3 ?c4 ?c5 ?_)
        case c3 => unfold maxLen; simp <;> omega
        case c4 => simp <;> omega
        case c5 => simp <;> omega
        intro v9 w9 own9 gr9
        have F9 := hideP (show Fr w6 w9 from Below.grown F8.out gr9 (by simp; omega) (own_base HO8.out))
        have HI9 := hideP (show IsL cdN w9 v9 (m2 ++ [EV.notN]) from isL_own (E := cdN) (by rw [List.length_append, HMl.out]; exact own9))
        replace HIs := hideP (show IsL cdN w9 (.slice (some ⟨g, 0, none⟩) (K + 2) uc) m from ((isL_own (E := cdN) (by rw [HLm.out]; exact HO.out)).fr F6.out).fr F9.out)
        obtain ⟨za, zn, zc, rfl⟩ := own_slice' own9
        clear own9 gr9 HO8 HLit
        have HCa := hideP (HPc.out w9 _ (F2.out.trans (F6.out.trans F9.out)) HI9.out)
        go_wp2_with fail
        refine HCa.out.mono ?_
        rintro _ wa ⟨ha, fa⟩
        have FA := hideP (F2.out.trans (F6.out.trans (F9.out.trans fa)))
        replace HIs := hideP (HIs.out.fr fa)
        clear fa HCa
        rcases ha with ⟨hn, rfl⟩ | ⟨hy, hn, rfl⟩ | ⟨hy, hy2, ub, rfl, ownb⟩
        · have e1 : ((EX.ck (m2 ++ [EV.notN]) : Int) != 0) = true := by simp; omega
          have e2 : ¬ ((EX.ck (m2 ++ [EV.notN]) : Int) = 0) := by omega
          generalize (EX.ck (m2 ++ [EV.notN]) : Int) = z at *
          go_wp2_with fail
          go_ret
          exact ⟨rfl, FA.out⟩
        · have e1 : ((EX.ck m : Int) != 0) = true := by simp; omega
          have e2 : ¬ ((EX.ck m : Int) = 0) := by omega
          generalize (EX.ck m : Int) = z at *
          go_wp2_with fail
          go_ret
          exact ⟨rfl, FA.out⟩
        · rw [HLm.out] at ownb
          obtain ⟨ba, bc, rfl⟩ := own_slice ownb
          have HCs := hideP (sameNodes_eq (.slice ba (K + 2) bc) (.slice (some ⟨g, 0, none⟩) (K + 2) uc) m wa (isL_own (E := cdN) (by rw [HLm.out]; exact ownb)) HIs.out (by rw [HLm.out]; omega))
          clear ownb hy hy2
          go_wp2_with fail
          refine HCs.out.mono ?_
          rintro _ wb ⟨rfl, fb⟩
          go_wp2_with fail
          go_ret
          exact ⟨rfl, FA.out.trans fb⟩
    · go_enter Tryz.func12, Tryz.ntmps12
      go_wp2_with fail
      refine HP.out.mono ?_
      rintro _ w1 ⟨⟨u, rfl, hown⟩, f1⟩
      obtain ⟨ua, uc, rfl⟩ := own_slice hown
      have HO := hideP hown
      have F1 := hideP f1
      clear f1 hown
      go_wp2_with fail
      refine (HBg.out _ F1.out).mono ?_
      rintro _ w2 ⟨rfl, f2⟩
      have F2 := hideP (F1.out.trans f2)
      replace HO := hideP (own_fr HO.out f2)
      have HIs := hideP (show IsL cdN w2 (.slice ua (K + 2) uc) m from isL_own (E := cdN) (by rw [HLm.out]; exact HO.out))
      clear f2
      have hgs : ∃ g, ua = some ⟨g, 0, none⟩ ∧ ∀ j u, (flat cdN m)[j]? = some u → w2.cell? ⟨g, j, none⟩ = some u := by
        rcases HO.out.2 with ⟨_, h0⟩ | ⟨g, cap', cur, e9, _⟩
        · cases h0
        · cases e9
          obtain ⟨a9, c9, h9, _, h8⟩ := HIs.out
          injection h9 with h9a h9b h9c
          subst h9a
          rcases h8 with h8 | ⟨b9, o9, h7, _, h6⟩
          · have h5 := HLm.out
            rw [h8] at h5
            simp at h5
          · cases h7
            exact ⟨_, rfl, fun j u hj => by have := h6 j u hj; rwa [Nat.zero_add] at this⟩
      obtain ⟨g, rfl, hcell⟩ := hgs
      rw [HMm.out] at hcell
      obtain ⟨d1, d2⟩ := HLast.out w2 g hcell
      clear hcell

      have HL0 := hideP (own_lit0 cdN w2 38 w2.heap.size (Nat.le_refl _))
      have FL0 := hideP ((Fr.refl w2).alloc (.cells #[] 38))
      go_wp2_with (at_builtin; refine wpList_append_L cdN rfl _ _ 22 38 i0 _ 64 rfl Tryz.underlying22 hi0 hz0 hz1 hz2 rfl w2.heap.size _ 0 [] rfl HL0.out (.slice (some ⟨g, 0, none⟩) (K + 2) uc) m rfl (HIs.out.fr FL0.out) ?c3 ?c4 ?c5 ?_)
      case c3 => unfold maxLen; rw [HLm.out]; omega
      case c4 => rw [HLm.out]; omega
      case c5 => simp
      intro v3 w3 own3 gr3
      have F3 := hideP (show Fr w2 w3 from Below.grown FL0.out gr3 (by simp) (own_base HL0.out))
      have HO3 := hideP (show w3.ownsRow w2.heap.size 38 6 v3 (K + 2) (flat cdN m) from by
        have := own3
        simp only [HLm.out, Nat.zero_add, List.nil_append] at this
        exact this)
      replace HIs := hideP (HIs.out.fr F3.out)
      clear own3 gr3 HL0 FL0 d1 d2
      go_wp2_with fail
      refine (HNot.out _).mono ?_
      rintro _ w4 ⟨rfl, f4⟩
      have HLit := hideP (lit_one cdN w4 EV.notN 38)
      have g4 : Fr w3 (w4.alloc (.cells #[.int .i64 4, .int .i64 1, .int .i64 0, .int .i64 0, .string ⟨#[]⟩, .string ⟨#[]⟩] 38)) := f4.alloc _
      have HO4 := hideP (own_fr HO3.out g4)
      replace HIs := hideP (HIs.out.fr g4)
      have F4 := hideP (F3.out.trans g4)
      have hsz4 : w2.heap.size ≤ w4.heap.size := (F3.out.trans f4).size
      clear f4 g4 HO3
      go_wp2_with (at_builtin; refine wpList_append_L cdN rfl _ _ 22 38 i0 _ 64 rfl Tryz.underlying22 hi0 hz0 hz1 hz2 rfl w2.heap.size _ (K + 2) m rfl HO4.out (.slice (some ⟨w4.heap.size, 0, none⟩) 1 1) [EV.notN] rfl HLit.out ?c3 ?c4 ?c5 ?_)
      case c3 => unfold maxLen; simp <;> omega
      case c4 => simp <;> omega
      case c5 => simp <;> omega
      intro v5 w5 own5 gr5
      have F5 := hideP (show Fr w2 w5 from Below.grown F4.out gr5 (by simp; omega) (own_base HO4.out))
      have HI5 := hideP (show IsL cdN w5 v5 (m ++ [EV.notN]) from isL_own (E := cdN) (by rw [List.length_append, HLm.out]; exact own5))
      replace HIs := hideP (show IsL cdN w5 (.slice (some ⟨g, 0, none⟩) (K + 2) uc) m from (isL_own (E := cdN) (by rw [HLm.out]; exact HO.out)).fr F5.out)
      obtain ⟨xa, xn, xc, rfl⟩ := own_slice' own5
      clear own5 gr5 HO4 HLit
      have HCa := hideP (HP2.out w5 _ (F2.out.trans F5.out) HI5.out)
      go_wp2_with fail
      refine HCa.out.mono ?_
      rintro _ w6 ⟨ha, f6⟩
      have F6 := hideP (F5.out.trans f6)
      replace HIs := hideP (HIs.out.fr f6)
      clear f6 HCa
      rcases ha with ⟨hn, rfl⟩ | ⟨hy, hn, rfl⟩ | ⟨hy, hy2, u6, rfl, own6⟩
      · rcases HK1.out with h | h | h
        · exact absurd h hn
        all_goals (
          rw [h]
          clear HK1 HK2 hn h
          go_wp2_with fail
          go_ret
          exact ⟨rfl, F2.out.trans F6.out⟩)
      · rcases HK2.out with h | h | h
        · exact absurd h hn
        all_goals (
          rw [h]
          clear HK1 HK2 hn h hy
          go_wp2_with fail
          go_ret
          exact ⟨rfl, F2.out.trans F6.out⟩)
      · have hm2 := HCk2.out hy2
        have HPc := hideP (fun W u g hu => HP3.out W u g hy hm2 hu)
        obtain ⟨ya, yc, rfl⟩ := own_slice own6
        obtain ⟨M, hM⟩ : ∃ M, m2.length = M := ⟨_, rfl⟩
        have HMl := hideP hM
        have HI6 := hideP (show IsL cdN w6 (.slice ya M yc) m2 from isL_own (E := cdN) (by rw [← hM]; exact own6))
        rw [hM] at hm2 ⊢
        clear hy hy2 own6 hM HP3 HK1 HK2
        have HL6 := hideP (own_lit0 cdN w6 38 w6.heap.size (Nat.le_refl _))
        have FL6 := hideP ((Fr.refl w6).alloc (.cells #[] 38))
        go_wp2_with (at_builtin; refine wpList_append_L cdN rfl _ _ 22 38 i0 _ 64 rfl Tryz.underlying22 hi0 hz0 hz1 hz2 rfl w6.heap.size _ 0 [] rfl HL6.out (.slice ya M yc) m2 rfl (HI6.out.fr FL6.out) ?c3 ?c4 ?c5 ?_)
        case c3 => unfold maxLen; rw [HMl.out]; omega
        case c4 => rw [HMl.out]; omega
        case c5 => simp
        intro v7 w7 own7 gr7
        have F7 := hideP (show Fr w6 w7 from Below.grown FL6.out gr7 (by simp) (own_base HL6.out))
        have HO7 := hideP (show w7.ownsRow w6.heap.size 38 6 v7 M (flat cdN m2) from by
          have := own7
          simp only [HMl.out, Nat.zero_add, List.nil_append] at this
          exact this)
        replace HIs := hideP (HIs.out.fr F7.out)
        clear own7 gr7 HL6 FL6
        go_wp2_with fail
        refine (HNot.out _).mono ?_
        rintro _ w8 ⟨rfl, f8⟩
        have HLit := hideP (lit_one cdN w8 EV.notN 38)
        have g8 : Fr w7 (w8.alloc (.cells #[.int .i64 4, .int .i64 1, .int .i64 0, .int .i64 0, .string ⟨#[]⟩, .string ⟨#[]⟩] 38)) := f8.alloc _
        have HO8 := hideP (own_fr HO7.out g8)
        have F8 := hideP (F7.out.trans g8)
        have hsz8 : w6.heap.size ≤ w8.heap.size := (F7.out.trans f8).size
        replace HIs := hideP (HIs.out.fr g8)
        clear f8 g8 HO7
        go_wp2_with (at_builtin; refine wpList_append_L cdN rfl _ _ 22 38 i0 _ 64 rfl Tryz.underlying22 hi0 hz0 hz1 hz2 rfl w6.heap.size _ M m2 rfl HO8.out (.slice (some ⟨w8.heap.size, 0, none⟩) 1 1) [EV.notN] rfl HLit.out ?c3 ?c4 ?c5 ?_)
        case c3 => unfold maxLen; simp <;> omega
        case c4 => simp <;> omega
        case c5 => simp <;> omega
        intro v9 w9 own9 gr9
        have F9 := hideP (show Fr w6 w9 from Below.grown F8.out gr9 (by simp; omega) (own_base HO8.out))
        have HI9 := hideP (show IsL cdN w9 v9 (m2 ++ [EV.notN]) from isL_own (E := cdN) (by rw [List.length_append, HMl.out]; exact own9))
        replace HIs := hideP (show IsL cdN w9 (.slice (some ⟨g, 0, none⟩) (K + 2) uc) m from ((isL_own (E := cdN) (by rw [HLm.out]; exact HO.out)).fr F6.out).fr F9.out)
        obtain ⟨za, zn, zc, rfl⟩ := own_slice' own9
        clear own9 gr9 HO8 HLit
        have HCa := hideP (HPc.out w9 _ (F2.out.trans (F6.out.trans F9.out)) HI9.out)
        go_wp2_with fail
        refine HCa.out.mono ?_
        rintro _ wa ⟨ha, fa⟩
        have FA := hideP (F2.out.trans (F6.out.trans (F9.out.trans fa)))
        replace HIs := hideP (HIs.out.fr fa)
        clear fa HCa
        rcases ha with ⟨hn, rfl⟩ | ⟨hy, hn, rfl⟩ | ⟨hy, hy2, ub, rfl, ownb⟩
        · have e1 : ((EX.ck (m2 ++ [EV.notN]) : Int) != 0) = true := by simp; omega
          have e2 : ¬ ((EX.ck (m2 ++ [EV.notN]) : Int) = 0) := by omega
          generalize (EX.ck (m2 ++ [EV.notN]) : Int) = z at *
          go_wp2_with fail
          go_ret
          exact ⟨rfl, FA.out⟩
        · have e1 : ((EX.ck m : Int) != 0) = true := by simp; omega
          have e2 : ¬ ((EX.ck m : Int) = 0) := by omega
          generalize (EX.ck m : Int) = z at *
          go_wp2_with fail
          go_ret
          exact ⟨rfl, FA.out⟩
        · rw [HLm.out] at ownb
          obtain ⟨ba, bc, rfl⟩ := own_slice ownb
          have HCs := hideP (sameNodes_eq (.slice ba (K + 2) bc) (.slice (some ⟨g, 0, none⟩) (K + 2) uc) m wa (isL_own (E := cdN) (by rw [HLm.out]; exact ownb)) HIs.out (by rw [HLm.out]; omega))
          clear ownb hy hy2
          go_wp2_with fail
          refine HCs.out.mono ?_
          rintro _ wb ⟨rfl, fb⟩
          go_wp2_with fail
          go_ret
          exact ⟨rfl, FA.out.trans fb⟩
    · have q1 : (q == 1) = false := by simp; omega
      have q2 : (q == 2) = false := by simp; omega
      have q3 : (q == 3) = false := by simp; omega
      have q1' : ¬ q = 1 := by omega
      have q2' : ¬ q = 2 := by omega
      have q3' : ¬ q = 3 := by omega
      have q5 : ¬ q < 5 := by omega
      have q5' : 5 ≤ q := by omega
      have q9 : ¬ 9 < q := by omega
      have q9' : q ≤ 9 := by omega
      clear hq
      go_enter Tryz.func12, Tryz.ntmps12
      go_wp2_with fail
      refine HP.out.mono ?_
      rintro _ w1 ⟨⟨u, rfl, hown⟩, f1⟩
      obtain ⟨ua, uc, rfl⟩ := own_slice hown
      have HO := hideP hown
      have F1 := hideP f1
      clear f1 hown
      go_wp2_with fail
      refine (HBg.out _ F1.out).mono ?_
      rintro _ w2 ⟨rfl, f2⟩
      have F2 := hideP (F1.out.trans f2)
      replace HO := hideP (own_fr HO.out f2)
      have HIs := hideP (show IsL cdN w2 (.slice ua (K + 2) uc) m from isL_own (E := cdN) (by rw [HLm.out]; exact HO.out))
      clear f2
      have hgs : ∃ g, ua = some ⟨g, 0, none⟩ ∧ ∀ j u, (flat cdN m)[j]? = some u → w2.cell? ⟨g, j, none⟩ = some u := by
        rcases HO.out.2 with ⟨_, h0⟩ | ⟨g, cap', cur, e9, _⟩
        · cases h0
        · cases e9
          obtain ⟨a9, c9, h9, _, h8⟩ := HIs.out
          injection h9 with h9a h9b h9c
          subst h9a
          rcases h8 with h8 | ⟨b9, o9, h7, _, h6⟩
          · have h5 := HLm.out
            rw [h8] at h5
            simp at h5
          · cases h7
            exact ⟨_, rfl, fun j u hj => by have := h6 j u hj; rwa [Nat.zero_add] at this⟩
      obtain ⟨g, rfl, hcell⟩ := hgs
      rw [HMm.out] at hcell
      obtain ⟨d1, d2⟩ := HLast.out w2 g hcell
      clear hcell

      have HL0 := hideP (own_lit0 cdN w2 38 w2.heap.size (Nat.le_refl _))
      have FL0 := hideP ((Fr.refl w2).alloc (.cells #[] 38))
      go_wp2_with (at_builtin; refine wpList_append_L cdN rfl _ _ 22 38 i0 _ 64 rfl Tryz.underlying22 hi0 hz0 hz1 hz2 rfl w2.heap.size _ 0 [] rfl HL0.out (.slice (some ⟨g, 0, none⟩) (K + 2) uc) m rfl (HIs.out.fr FL0.out) ?c3 ?c4 ?c5 ?_)
      case c3 => unfold maxLen; rw [HLm.out]; omega
      case c4 => rw [HLm.out]; omega
      case c5 => simp
      intro v3 w3 own3 gr3
      have F3 := hideP (show Fr w2 w3 from Below.grown FL0.out gr3 (by simp) (own_base HL0.out))
      have HO3 := hideP (show w3.ownsRow w2.heap.size 38 6 v3 (K + 2) (flat cdN m) from by
        have := own3
        simp only [HLm.out, Nat.zero_add, List.nil_append] at this
        exact this)
      replace HIs := hideP (HIs.out.fr F3.out)
      clear own3 gr3 HL0 FL0 d1 d2
      go_wp2_with fail
      refine (HNot.out _).mono ?_
      rintro _ w4 ⟨rfl, f4⟩
      have HLit := hideP (lit_one cdN w4 EV.notN 38)
      have g4 : Fr w3 (w4.alloc (.cells #[.int .i64 4, .int .i64 1, .int .i64 0, .int .i64 0, .string ⟨#[]⟩, .string ⟨#[]⟩] 38)) := f4.alloc _
      have HO4 := hideP (own_fr HO3.out g4)
      replace HIs := hideP (HIs.out.fr g4)
      have F4 := hideP (F3.out.trans g4)
      have hsz4 : w2.heap.size ≤ w4.heap.size := (F3.out.trans f4).size
      clear f4 g4 HO3
      go_wp2_with (at_builtin; refine wpList_append_L cdN rfl _ _ 22 38 i0 _ 64 rfl Tryz.underlying22 hi0 hz0 hz1 hz2 rfl w2.heap.size _ (K + 2) m rfl HO4.out (.slice (some ⟨w4.heap.size, 0, none⟩) 1 1) [EV.notN] rfl HLit.out ?c3 ?c4 ?c5 ?_)
      case c3 => unfold maxLen; simp <;> omega
      case c4 => simp <;> omega
      case c5 => simp <;> omega
      intro v5 w5 own5 gr5
      have F5 := hideP (show Fr w2 w5 from Below.grown F4.out gr5 (by simp; omega) (own_base HO4.out))
      have HI5 := hideP (show IsL cdN w5 v5 (m ++ [EV.notN]) from isL_own (E := cdN) (by rw [List.length_append, HLm.out]; exact own5))
      replace HIs := hideP (show IsL cdN w5 (.slice (some ⟨g, 0, none⟩) (K + 2) uc) m from (isL_own (E := cdN) (by rw [HLm.out]; exact HO.out)).fr F5.out)
      obtain ⟨xa, xn, xc, rfl⟩ := own_slice' own5
      clear own5 gr5 HO4 HLit
      have HCa := hideP (HP2.out w5 _ (F2.out.trans F5.out) HI5.out)
      go_wp2_with fail
      refine HCa.out.mono ?_
      rintro _ w6 ⟨ha, f6⟩
      have F6 := hideP (F5.out.trans f6)
      replace HIs := hideP (HIs.out.fr f6)
      clear f6 HCa
      rcases ha with ⟨hn, rfl⟩ | ⟨hy, hn, rfl⟩ | ⟨hy, hy2, u6, rfl, own6⟩
      · rcases HK1.out with h | h | h
        · exact absurd h hn
        all_goals (
          rw [h]
          clear HK1 HK2 hn h
          go_wp2_with fail
          go_ret
          exact ⟨rfl, F2.out.trans F6.out⟩)
      · rcases HK2.out with h | h | h
        · exact absurd h hn
        all_goals (
          rw [h]
          clear HK1 HK2 hn h hy
          go_wp2_with fail
          go_ret
          exact ⟨rfl, F2.out.trans F6.out⟩)
      · have hm2 := HCk2.out hy2
        have HPc := hideP (fun W u g hu => HP3.out W u g hy hm2 hu)
        obtain ⟨ya, yc, rfl⟩ := own_slice own6
        obtain ⟨M, hM⟩ : ∃ M, m2.length = M := ⟨_, rfl⟩
        have HMl := hideP hM
        have HI6 := hideP (show IsL cdN w6 (.slice ya M yc) m2 from isL_own (E := cdN) (by rw [← hM]; exact own6))
        rw [hM] at hm2 ⊢
        clear hy hy2 own6 hM HP3 HK1 HK2
        have HL6 := hideP (own_lit0 cdN w6 38 w6.heap.size (Nat.le_refl _))
        have FL6 := hideP ((Fr.refl w6).alloc (.cells #[] 38))
        go_wp2_with (at_builtin; refine wpList_append_L cdN rfl _ _ 22 38 i0 _ 64 rfl Tryz.underlying22 hi0 hz0 hz1 hz2 rfl w6.heap.size _ 0 [] rfl HL6.out (.slice ya M yc) m2 rfl (HI6.out.fr FL6.out) ?c3 ?c4 ?c5 ?_)
        case c3 => unfold maxLen; rw [HMl.out]; omega
        case c4 => rw [HMl.out]; omega
        case c5 => simp
        intro v7 w7 own7 gr7
        have F7 := hideP (show Fr w6 w7 from Below.grown FL6.out gr7 (by simp) (own_base HL6.out))
        have HO7 := hideP (show w7.ownsRow w6.heap.size 38 6 v7 M (flat cdN m2) from by
          have := own7
          simp only [HMl.out, Nat.zero_add, List.nil_append] at this
          exact this)
        replace HIs := hideP (HIs.out.fr F7.out)
        clear own7 gr7 HL6 FL6
        go_wp2_with fail
        refine (HNot.out _).mono ?_
        rintro _ w8 ⟨rfl, f8⟩
        have HLit := hideP (lit_one cdN w8 EV.notN 38)
        have g8 : Fr w7 (w8.alloc (.cells #[.int .i64 4, .int .i64 1, .int .i64 0, .int .i64 0, .string ⟨#[]⟩, .string ⟨#[]⟩] 38)) := f8.alloc _
        have HO8 := hideP (own_fr HO7.out g8)
        have F8 := hideP (F7.out.trans g8)
        have hsz8 : w6.heap.size ≤ w8.heap.size := (F7.out.trans f8).size
        replace HIs := hideP (HIs.out.fr g8)
        clear f8 g8 HO7
        go_wp2_with (at_builtin; refine wpList_append_L cdN rfl _ _ 22 38 i0 _ 64 rfl Tryz.underlying22 hi0 hz0 hz1 hz2 rfl w6.heap.size _ M m2 rfl HO8.out (.slice (some ⟨w8.heap.size, 0, none⟩) 1 1) [EV.notN] rfl HLit.out ?c3 ?c4 ?c5 ?_)
        case c3 => unfold maxLen; simp <;> omega
        case c4 => simp <;> omega
        case c5 => simp <;> omega
        intro v9 w9 own9 gr9
        have F9 := hideP (show Fr w6 w9 from Below.grown F8.out gr9 (by simp; omega) (own_base HO8.out))
        have HI9 := hideP (show IsL cdN w9 v9 (m2 ++ [EV.notN]) from isL_own (E := cdN) (by rw [List.length_append, HMl.out]; exact own9))
        replace HIs := hideP (show IsL cdN w9 (.slice (some ⟨g, 0, none⟩) (K + 2) uc) m from ((isL_own (E := cdN) (by rw [HLm.out]; exact HO.out)).fr F6.out).fr F9.out)
        obtain ⟨za, zn, zc, rfl⟩ := own_slice' own9
        clear own9 gr9 HO8 HLit
        have HCa := hideP (HPc.out w9 _ (F2.out.trans (F6.out.trans F9.out)) HI9.out)
        go_wp2_with fail
        refine HCa.out.mono ?_
        rintro _ wa ⟨ha, fa⟩
        have FA := hideP (F2.out.trans (F6.out.trans (F9.out.trans fa)))
        replace HIs := hideP (HIs.out.fr fa)
        clear fa HCa
        rcases ha with ⟨hn, rfl⟩ | ⟨hy, hn, rfl⟩ | ⟨hy, hy2, ub, rfl, ownb⟩
        · have e1 : ((EX.ck (m2 ++ [EV.notN]) : Int) != 0) = true := by simp; omega
          have e2 : ¬ ((EX.ck (m2 ++ [EV.notN]) : Int) = 0) := by omega
          generalize (EX.ck (m2 ++ [EV.notN]) : Int) = z at *
          go_wp2_with fail
          go_ret
          exact ⟨rfl, FA.out⟩
        · have e1 : ((EX.ck m : Int) != 0) = true := by simp; omega
          have e2 : ¬ ((EX.ck m : Int) = 0) := by omega
          generalize (EX.ck m : Int) = z at *
          go_wp2_with fail
          go_ret
          exact ⟨rfl, FA.out⟩
        · rw [HLm.out] at ownb
          obtain ⟨ba, bc, rfl⟩ := own_slice ownb
          have HCs := hideP (sameNodes_eq (.slice ba (K + 2) bc) (.slice (some ⟨g, 0, none⟩) (K + 2) uc) m wa (isL_own (E := cdN) (by rw [HLm.out]; exact ownb)) HIs.out (by rw [HLm.out]; omega))
          clear ownb hy hy2
          go_wp2_with fail
          refine HCs.out.mono ?_
          rintro _ wb ⟨rfl, fb⟩
          go_wp2_with fail
          go_ret
          exact ⟨rfl, FA.out.trans fb⟩
  · obtain ⟨K, hK⟩ : ∃ K, k2.length = K := ⟨_, rfl⟩
    have HMm := hideP hm
    have HLm : Hid (m.length = K + 1) := by unfold Hid; rw [hm, List.length_append, hK]; rfl
    have hK60 : K + 1 ≤ 60 := by rw [← HLm.out]; exact hm60
    have hlast : ∀ W g, (∀ j u, (flat cdN (k2 ++ [n']))[j]? = some u → World.cell? W ⟨g, j, none⟩ = some u) → W.cell? ⟨g, K * 6, none⟩ = some (.int .i64 n'.op) := by
      intro W g hcc
      refine hcc _ _ ?_
      have := flat_get cdN (k2 ++ [n']) K 0 (by rw [List.length_append, hK]; simp) (by decide)
      rw [show K * cdN.k + 0 = K * 6 from rfl] at this
      rw [this]
      simp [cdN, ← hK]
    have HLast := hideP hlast
    rw [HLm.out] at HP hm60
    have e4 : (n'.op == 4) = false := by simpa using h4
    clear hm hK hlast
    generalize n'.op = q4 at *
    by_cases hK1 : 2 ≤ K + 1
    · have hK2 : (2 : Int) ≤ (K : Int) + 1 := by omega
      go_enter Tryz.func12, Tryz.ntmps12
      go_wp2_with fail
      refine HP.out.mono ?_
      rintro _ w1 ⟨⟨u, rfl, hown⟩, f1⟩
      obtain ⟨ua, uc, rfl⟩ := own_slice hown
      have HO := hideP hown
      have F1 := hideP f1
      clear f1 hown
      go_wp2_with fail
      refine (HBg.out _ F1.out).mono ?_
      rintro _ w2 ⟨rfl, f2⟩
      have F2 := hideP (F1.out.trans f2)
      replace HO := hideP (own_fr HO.out f2)
      have HIs := hideP (show IsL cdN w2 (.slice ua (K + 1) uc) m from isL_own (E := cdN) (by rw [HLm.out]; exact HO.out))
      clear f2
      have hgs : ∃ g, ua = some ⟨g, 0, none⟩ ∧ ∀ j u, (flat cdN m)[j]? = some u → w2.cell? ⟨g, j, none⟩ = some u := by
        rcases HO.out.2 with ⟨_, h0⟩ | ⟨g, cap', cur, e9, _⟩
        · cases h0
        · cases e9
          obtain ⟨a9, c9, h9, _, h8⟩ := HIs.out
          injection h9 with h9a h9b h9c
          subst h9a
          rcases h8 with h8 | ⟨b9, o9, h7, _, h6⟩
          · have h5 := HLm.out
            rw [h8] at h5
            simp at h5
          · cases h7
            exact ⟨_, rfl, fun j u hj => by have := h6 j u hj; rwa [Nat.zero_add] at this⟩
      obtain ⟨g, rfl, hcell⟩ := hgs
      rw [HMm.out] at hcell
      have d1 := HLast.out w2 g hcell
      clear hcell

      have HL0 := hideP (own_lit0 cdN w2 38 w2.heap.size (Nat.le_refl _))
      have FL0 := hideP ((Fr.refl w2).alloc (.cells #[] 38))
      go_wp2_with (at_builtin; refine wpList_append_L cdN rfl _ _ 22 38 i0 _ 64 rfl Tryz.underlying22 hi0 hz0 hz1 hz2 rfl w2.heap.size _ 0 [] rfl HL0.out (.slice (some ⟨g, 0, none⟩) (K + 1) uc) m rfl (HIs.out.fr FL0.out) ?c3 ?c4 ?c5 ?_)
      case c3 => unfold maxLen; rw [HLm.out]; omega
      case c4 => rw [HLm.out]; omega
      case c5 => simp
      intro v3 w3 own3 gr3
      have F3 := hideP (show Fr w2 w3 from Below.grown FL0.out gr3 (by simp) (own_base HL0.out))
      have HO3 := hideP (show w3.ownsRow w2.heap.size 38 6 v3 (K + 1) (flat cdN m) from by
        have := own3
        simp only [HLm.out, Nat.zero_add, List.nil_append] at this
        exact this)
      replace HIs := hideP (HIs.out.fr F3.out)
      clear own3 gr3 HL0 FL0 d1
      go_wp2_with fail
      refine (HNot.out _).mono ?_
      rintro _ w4 ⟨rfl, f4⟩
      have HLit := hideP (lit_one cdN w4 EV.notN 38)
      have g4 : Fr w3 (w4.alloc (.cells #[.int .i64 4, .int .i64 1, .int .i64 0, .int .i64 0, .string ⟨#[]⟩, .string ⟨#[]⟩] 38)) := f4.alloc _
      have HO4 := hideP (own_fr HO3.out g4)
      replace HIs := hideP (HIs.out.fr g4)
      have F4 := hideP (F3.out.trans g4)
      have hsz4 : w2.heap.size ≤ w4.heap.size := (F3.out.trans f4).size
      clear f4 g4 HO3
      go_wp2_with (at_builtin; refine wpList_append_L cdN rfl _ _ 22 38 i0 _ 64 rfl Tryz.underlying22 hi0 hz0 hz1 hz2 rfl w2.heap.size _ (K + 1) m rfl HO4.out (.slice (some ⟨w4.heap.size, 0, none⟩) 1 1) [EV.notN] rfl HLit.out ?c3 ?c4 ?c5 ?_)
      case c3 => unfold maxLen; simp <;> omega
      case c4 => simp <;> omega
      case c5 => simp <;> omega
      intro v5 w5 own5 gr5
      have F5 := hideP (show Fr w2 w5 from Below.grown F4.out gr5 (by simp; omega) (own_base HO4.out))
      have HI5 := hideP (show IsL cdN w5 v5 (m ++ [EV.notN]) from isL_own (E := cdN) (by rw [List.length_append, HLm.out]; exact own5))
      replace HIs := hideP (show IsL cdN w5 (.slice (some ⟨g, 0, none⟩) (K + 1) uc) m from (isL_own (E := cdN) (by rw [HLm.out]; exact HO.out)).fr F5.out)
      obtain ⟨xa, xn, xc, rfl⟩ := own_slice' own5
      clear own5 gr5 HO4 HLit
      have HCa := hideP (HP2.out w5 _ (F2.out.trans F5.out) HI5.out)
      go_wp2_with fail
      refine HCa.out.mono ?_
      rintro _ w6 ⟨ha, f6⟩
      have F6 := hideP (F5.out.trans f6)
      replace HIs := hideP (HIs.out.fr f6)
      clear f6 HCa
      rcases ha with ⟨hn, rfl⟩ | ⟨hy, hn, rfl⟩ | ⟨hy, hy2, u6, rfl, own6⟩
      · rcases HK1.out with h | h | h
        · exact absurd h hn
        all_goals (
          rw [h]
          clear HK1 HK2 hn h
          go_wp2_with fail
          go_ret
          exact ⟨rfl, F2.out.trans F6.out⟩)
      · rcases HK2.out with h | h | h
        · exact absurd h hn
        all_goals (
          rw [h]
          clear HK1 HK2 hn h hy
          go_wp2_with fail
          go_ret
          exact ⟨rfl, F2.out.trans F6.out⟩)
      · have hm2 := HCk2.out hy2
        have HPc := hideP (fun W u g hu => HP3.out W u g hy hm2 hu)
        obtain ⟨ya, yc, rfl⟩ := own_slice own6
        obtain ⟨M, hM⟩ : ∃ M, m2.length = M := ⟨_, rfl⟩
        have HMl := hideP hM
        have HI6 := hideP (show IsL cdN w6 (.slice ya M yc) m2 from isL_own (E := cdN) (by rw [← hM]; exact own6))
        rw [hM] at hm2 ⊢
        clear hy hy2 own6 hM HP3 HK1 HK2
        have HL6 := hideP (own_lit0 cdN w6 38 w6.heap.size (Nat.le_refl _))
        have FL6 := hideP ((Fr.refl w6).alloc (.cells #[] 38))
        go_wp2_with (at_builtin; refine wpList_append_L cdN rfl _ _ 22 38 i0 _ 64 rfl Tryz.underlying22 hi0 hz0 hz1 hz2 rfl w6.heap.size _ 0 [] rfl HL6.out (.slice ya M yc) m2 rfl (HI6.out.fr FL6.out) ?c3 ?c4 ?c5 ?_)
        case c3 => unfold maxLen; rw [HMl.out]; omega
        case c4 => rw [HMl.out]; omega
        case c5 => simp
        intro v7 w7 own7 gr7
        have F7 := hideP (show Fr w6 w7 from Below.grown FL6.out gr7 (by simp) (own_base HL6.out))
        have HO7 := hideP (show w7.ownsRow w6.heap.size 38 6 v7 M (flat cdN m2) from by
          have := own7
          simp only [HMl.out, Nat.zero_add, List.nil_append] at this
          exact this)
        replace HIs := hideP (HIs.out.fr F7.out)
        clear own7 gr7 HL6 FL6
        go_wp2_with fail
        refine (HNot.out _).mono ?_
        rintro _ w8 ⟨rfl, f8⟩
        have HLit := hideP (lit_one cdN w8 EV.notN 38)
        have g8 : Fr w7 (w8.alloc (.cells #[.int .i64 4, .int .i64 1, .int .i64 0, .int .i64 0, .string ⟨#[]⟩, .string ⟨#[]⟩] 38)) := f8.alloc _
        have HO8 := hideP (own_fr HO7.out g8)
        have F8 := hideP (F7.out.trans g8)
        have hsz8 : w6.heap.size ≤ w8.heap.size := (F7.out.trans f8).size
        replace HIs := hideP (HIs.out.fr g8)
        clear f8 g8 HO7
        go_wp2_with (at_builtin; refine wpList_append_L cdN rfl _ _ 22 38 i0 _ 64 rfl Tryz.underlying22 hi0 hz0 hz1 hz2 rfl w6.heap.size _ M m2 rfl HO8.out (.slice (some ⟨w8.heap.size, 0, none⟩) 1 1) [EV.notN] rfl HLit.out ?c3 ?c4 ?c5 ?_)
        case c3 => unfold maxLen; simp <;> omega
        case c4 => simp <;> omega
        case c5 => simp <;> omega
        intro v9 w9 own9 gr9
        have F9 := hideP (show Fr w6 w9 from Below.grown F8.out gr9 (by simp; omega) (own_base HO8.out))
        have HI9 := hideP (show IsL cdN w9 v9 (m2 ++ [EV.notN]) from isL_own (E := cdN) (by rw [List.length_append, HMl.out]; exact own9))
        replace HIs := hideP (show IsL cdN w9 (.slice (some ⟨g, 0, none⟩) (K + 1) uc) m from ((isL_own (E := cdN) (by rw [HLm.out]; exact HO.out)).fr F6.out).fr F9.out)
        obtain ⟨za, zn, zc, rfl⟩ := own_slice' own9
        clear own9 gr9 HO8 HLit
        have HCa := hideP (HPc.out w9 _ (F2.out.trans (F6.out.trans F9.out)) HI9.out)
        go_wp2_with fail
        refine HCa.out.mono ?_
        rintro _ wa ⟨ha, fa⟩
        have FA := hideP (F2.out.trans (F6.out.trans (F9.out.trans fa)))
        replace HIs := hideP (HIs.out.fr fa)
        clear fa HCa
        rcases ha with ⟨hn, rfl⟩ | ⟨hy, hn, rfl⟩ | ⟨hy, hy2, ub, rfl, ownb⟩
        · have e1 : ((EX.ck (m2 ++ [EV.notN]) : Int) != 0) = true := by simp; omega
          have e2 : ¬ ((EX.ck (m2 ++ [EV.notN]) : Int) = 0) := by omega
          generalize (EX.ck (m2 ++ [EV.notN]) : Int) = z at *
          go_wp2_with fail
          go_ret
          exact ⟨rfl, FA.out⟩
        · have e1 : ((EX.ck m : Int) != 0) = true := by simp; omega
          have e2 : ¬ ((EX.ck m : Int) = 0) := by omega
          generalize (EX.ck m : Int) = z at *
          go_wp2_with fail
          go_ret
          exact ⟨rfl, FA.out⟩
        · rw [HLm.out] at ownb
          obtain ⟨ba, bc, rfl⟩ := own_slice ownb
          have HCs := hideP (sameNodes_eq (.slice ba (K + 1) bc) (.slice (some ⟨g, 0, none⟩) (K + 1) uc) m wa (isL_own (E := cdN) (by rw [HLm.out]; exact ownb)) HIs.out (by rw [HLm.out]; omega))
          clear ownb hy hy2
          go_wp2_with fail
          refine HCs.out.mono ?_
          rintro _ wb ⟨rfl, fb⟩
          go_wp2_with fail
          go_ret
          exact ⟨rfl, FA.out.trans fb⟩
    · obtain rfl : K = 0 := by omega
      replace HLm : Hid (m.length = 1) := HLm.out
      simp only [Nat.zero_add] at HP hm60
      go_enter Tryz.func12, Tryz.ntmps12
      go_wp2_with fail
      refine HP.out.mono ?_
      rintro _ w1 ⟨⟨u, rfl, hown⟩, f1⟩
      obtain ⟨ua, uc, rfl⟩ := own_slice hown
      have HO := hideP hown
      have F1 := hideP f1
      clear f1 hown
      go_wp2_with fail
      refine (HBg.out _ F1.out).mono ?_
      rintro _ w2 ⟨rfl, f2⟩
      have F2 := hideP (F1.out.trans f2)
      replace HO := hideP (own_fr HO.out f2)
      have HIs := hideP (show IsL cdN w2 (.slice ua (1) uc) m from isL_own (E := cdN) (by rw [HLm.out]; exact HO.out))
      clear f2

      have HL0 := hideP (own_lit0 cdN w2 38 w2.heap.size (Nat.le_refl _))
      have FL0 := hideP ((Fr.refl w2).alloc (.cells #[] 38))
      go_wp2_with (at_builtin; refine wpList_append_L cdN rfl _ _ 22 38 i0 _ 64 rfl Tryz.underlying22 hi0 hz0 hz1 hz2 rfl w2.heap.size _ 0 [] rfl HL0.out (.slice ua (1) uc) m rfl (HIs.out.fr FL0.out) ?c3 ?c4 ?c5 ?_)
      case c3 => unfold maxLen; rw [HLm.out]; omega
      case c4 => rw [HLm.out]; omega
      case c5 => simp
      intro v3 w3 own3 gr3
      have F3 := hideP (show Fr w2 w3 from Below.grown FL0.out gr3 (by simp) (own_base HL0.out))
      have HO3 := hideP (show w3.ownsRow w2.heap.size 38 6 v3 (1) (flat cdN m) from by
        have := own3
        simp only [HLm.out, Nat.zero_add, List.nil_append] at this
        exact this)
      replace HIs := hideP (HIs.out.fr F3.out)
      clear own3 gr3 HL0 FL0
      go_wp2_with fail
      refine (HNot.out _).mono ?_
      rintro _ w4 ⟨rfl, f4⟩
      have HLit := hideP (lit_one cdN w4 EV.notN 38)
      have g4 : Fr w3 (w4.alloc (.cells #[.int .i64 4, .int .i64 1, .int .i64 0, .int .i64 0, .string ⟨#[]⟩, .string ⟨#[]⟩] 38)) := f4.alloc _
      have HO4 := hideP (own_fr HO3.out g4)
      replace HIs := hideP (HIs.out.fr g4)
      have F4 := hideP (F3.out.trans g4)
      have hsz4 : w2.heap.size ≤ w4.heap.size := (F3.out.trans f4).size
      clear f4 g4 HO3
      go_wp2_with (at_builtin; refine wpList_append_L cdN rfl _ _ 22 38 i0 _ 64 rfl Tryz.underlying22 hi0 hz0 hz1 hz2 rfl w2.heap.size _ (1) m rfl HO4.out (.slice (some ⟨w4.heap.size, 0, none⟩) 1 1) [EV.notN] rfl HLit.out ?c3 ?c4 ?c5 ?_)
      case c3 => unfold maxLen; simp <;> omega
      case c4 => simp <;> omega
      case c5 => simp <;> omega
      intro v5 w5 own5 gr5
      have F5 := hideP (show Fr w2 w5 from Below.grown F4.out gr5 (by simp; omega) (own_base HO4.out))
      have HI5 := hideP (show IsL cdN w5 v5 (m ++ [EV.notN]) from isL_own (E := cdN) (by rw [List.length_append, HLm.out]; exact own5))
      replace HIs := hideP (show IsL cdN w5 (.slice ua (1) uc) m from (isL_own (E := cdN) (by rw [HLm.out]; exact HO.out)).fr F5.out)
      obtain ⟨xa, xn, xc, rfl⟩ := own_slice' own5
      clear own5 gr5 HO4 HLit
      have HCa := hideP (HP2.out w5 _ (F2.out.trans F5.out) HI5.out)
      go_wp2_with fail
      refine HCa.out.mono ?_
      rintro _ w6 ⟨ha, f6⟩
      have F6 := hideP (F5.out.trans f6)
      replace HIs := hideP (HIs.out.fr f6)
      clear f6 HCa
      rcases ha with ⟨hn, rfl⟩ | ⟨hy, hn, rfl⟩ | ⟨hy, hy2, u6, rfl, own6⟩
      · rcases HK1.out with h | h | h
        · exact absurd h hn
        all_goals (
          rw [h]
          clear HK1 HK2 hn h
          go_wp2_with fail
          go_ret
          exact ⟨rfl, F2.out.trans F6.out⟩)
      · rcases HK2.out with h | h | h
        · exact absurd h hn
        all_goals (
          rw [h]
          clear HK1 HK2 hn h hy
          go_wp2_with fail
          go_ret
          exact ⟨rfl, F2.out.trans F6.out⟩)
      · have hm2 := HCk2.out hy2
        have HPc := hideP (fun W u g hu => HP3.out W u g hy hm2 hu)
        obtain ⟨ya, yc, rfl⟩ := own_slice own6
        obtain ⟨M, hM⟩ : ∃ M, m2.length = M := ⟨_, rfl⟩
        have HMl := hideP hM
        have HI6 := hideP (show IsL cdN w6 (.slice ya M yc) m2 from isL_own (E := cdN) (by rw [← hM]; exact own6))
        rw [hM] at hm2 ⊢
        clear hy hy2 own6 hM HP3 HK1 HK2
        have HL6 := hideP (own_lit0 cdN w6 38 w6.heap.size (Nat.le_refl _))
        have FL6 := hideP ((Fr.refl w6).alloc (.cells #[] 38))
        go_wp2_with (at_builtin; refine wpList_append_L cdN rfl _ _ 22 38 i0 _ 64 rfl Tryz.underlying22 hi0 hz0 hz1 hz2 rfl w6.heap.size _ 0 [] rfl HL6.out (.slice ya M yc) m2 rfl (HI6.out.fr FL6.out) ?c3 ?c4 ?c5 ?_)
        case c3 => unfold maxLen; rw [HMl.out]; omega
        case c4 => rw [HMl.out]; omega
        case c5 => simp
        intro v7 w7 own7 gr7
        have F7 := hideP (show Fr w6 w7 from Below.grown FL6.out gr7 (by simp) (own_base HL6.out))
        have HO7 := hideP (show w7.ownsRow w6.heap.size 38 6 v7 M (flat cdN m2) from by
          have := own7
          simp only [HMl.out, Nat.zero_add, List.nil_append] at this
          exact this)
        replace HIs := hideP (HIs.out.fr F7.out)
        clear own7 gr7 HL6 FL6
        go_wp2_with fail
        refine (HNot.out _).mono ?_
        rintro _ w8 ⟨rfl, f8⟩
        have HLit := hideP (lit_one cdN w8 EV.notN 38)
        have g8 : Fr w7 (w8.alloc (.cells #[.int .i64 4, .int .i64 1, .int .i64 0, .int .i64 0, .string ⟨#[]⟩, .string ⟨#[]⟩] 38)) := f8.alloc _
        have HO8 := hideP (own_fr HO7.out g8)
        have F8 := hideP (F7.out.trans g8)
        have hsz8 : w6.heap.size ≤ w8.heap.size := (F7.out.trans f8).size
        replace HIs := hideP (HIs.out.fr g8)
        clear f8 g8 HO7
        go_wp2_with (at_builtin; refine wpList_append_L cdN rfl _ _ 22 38 i0 _ 64 rfl Tryz.underlying22 hi0 hz0 hz1 hz2 rfl w6.heap.size _ M m2 rfl HO8.out (.slice (some ⟨w8.heap.size, 0, none⟩) 1 1) [EV.notN] rfl HLit.out ?c3 ?c4 ?c5 ?_)
        case c3 => unfold maxLen; simp <;> omega
        case c4 => simp <;> omega
        case c5 => simp <;> omega
        intro v9 w9 own9 gr9
        have F9 := hideP (show Fr w6 w9 from Below.grown F8.out gr9 (by simp; omega) (own_base HO8.out))
        have HI9 := hideP (show IsL cdN w9 v9 (m2 ++ [EV.notN]) from isL_own (E := cdN) (by rw [List.length_append, HMl.out]; exact own9))
        replace HIs := hideP (show IsL cdN w9 (.slice ua (1) uc) m from ((isL_own (E := cdN) (by rw [HLm.out]; exact HO.out)).fr F6.out).fr F9.out)
        obtain ⟨za, zn, zc, rfl⟩ := own_slice' own9
        clear own9 gr9 HO8 HLit
        have HCa := hideP (HPc.out w9 _ (F2.out.trans (F6.out.trans F9.out)) HI9.out)
        go_wp2_with fail
        refine HCa.out.mono ?_
        rintro _ wa ⟨ha, fa⟩
        have FA := hideP (F2.out.trans (F6.out.trans (F9.out.trans fa)))
        replace HIs := hideP (HIs.out.fr fa)
        clear fa HCa
        rcases ha with ⟨hn, rfl⟩ | ⟨hy, hn, rfl⟩ | ⟨hy, hy2, ub, rfl, ownb⟩
        · have e1 : ((EX.ck (m2 ++ [EV.notN]) : Int) != 0) = true := by simp; omega
          have e2 : ¬ ((EX.ck (m2 ++ [EV.notN]) : Int) = 0) := by omega
          generalize (EX.ck (m2 ++ [EV.notN]) : Int) = z at *
          go_wp2_with fail
          go_ret
          exact ⟨rfl, FA.out⟩
        · have e1 : ((EX.ck m : Int) != 0) = true := by simp; omega
          have e2 : ¬ ((EX.ck m : Int) = 0) := by omega
          generalize (EX.ck m : Int) = z at *
          go_wp2_with fail
          go_ret
          exact ⟨rfl, FA.out⟩
        · rw [HLm.out] at ownb
          obtain ⟨ba, bc, rfl⟩ := own_slice ownb
          have HCs := hideP (sameNodes_eq (.slice ba (1) bc) (.slice ua (1) uc) m wa (isL_own (E := cdN) (by rw [HLm.out]; exact ownb)) HIs.out (by rw [HLm.out]; omega))
          clear ownb hy hy2
          go_wp2_with fail
          refine HCs.out.mono ?_
          rintro _ wb ⟨rfl, fb⟩
          go_wp2_with fail
          go_ret
          exact ⟨rfl, FA.out.trans fb⟩

set_option maxRecDepth 100000 in
theorem lifted (os : Go.Os) (started : os.Started) (H : Type) (enc : TypeId × Value → H) :
    ReturnsInHanded {} Tryz.checked os 12 .any (fun w args => (Rows.pushDownSpec.pre enc Tryz.prog Tryz.f12 [] false w args ∧ laidMetH Tryz.prog Rows.pushDownRow.laid w) ∧ sizedMet enc Tryz.prog Tryz.f12 (OpenSpec.ofChange Rows.pushDownSpec) false w args)
      (Rows.pushDownSpec.post enc Tryz.prog Tryz.f12 false true false false) := by
  refine returnsInHanded_of_change_and (C := Tryz.checked) (X := fun w _ => laidMetH Tryz.prog Rows.pushDownRow.laid w) (fun _ _ _ hh h => h.of_heap hh) own started (by kernel_rfl) Tryz.func12
    (ChangeSpec.witness_shaped (enc := enc) (C := Tryz.checked) (os := os) (X := fun w _ => laidMetH Tryz.prog Rows.pushDownRow.laid w) false (World.laidAll Tryz.prog os Rows.pushDownRow.laid) #[.slice none 0 0] 8 (World.laidAll_os _ _ _)
      (World.shaped_of_ZipB (by kernel_rfl) (by kernel_rfl)) (by kernel_rfl) (by kernel_rfl) (by kernel_rfl)
      (by rw [MakeChecks.laidMetH_plain _ _ _ (by kernel_rfl)]; exact laidMet_laidAll _ (by kernel_rfl) (by kernel_rfl))) ?_
  intro W base args ds gs before hval0 hW hcnd hsz0 hL _
  have hT : Tt W := tabs_of_laid hL
  have hval : ∀ (j : Nat) t v, Tryz.f12.params[j]? = some t → args[j]? = some v → Value.okWide Tryz.prog W .any base t v := hval0
  have hsz : (DataW.weightsEach Tryz.prog (Tryz.f12.params.toList ++ Rows.pushDownSpec.plain.varTypes Tryz.prog) (ds ++ gs)).all (· ≤ reachBytes) = true := hsz0
  have hW' := hW
  obtain ⟨p, q, hA0, hV, rfl, hfz, hnd⟩ := hW
  have hA : DataW.TrodAll enc Tryz.prog W 0 (fun _ => true) true Tryz.f12.params.toList args.toList ds p := hA0
  rw [Tryz.params12] at hA hval hsz
  obtain ⟨v0, vs0, d0, ds0, p0, q0, hargs, rfl, rfl, h0, r0⟩ := trodAll_cons hA
  obtain ⟨rfl, rfl, rfl⟩ := trodAll_nil r0
  obtain rfl : args = #[v0] := by cases args; simp_all
  obtain ⟨rfl, rfl⟩ := trodVars_none hV
  obtain ⟨l0, rw0, ok0, b0⟩ := open_nds (hval 0 22 v0 rfl rfl) h0 (sized_at hsz (j := 0) rfl rfl)
  clear hA0 hval0 hsz0
  refine (walk v0 l0 W hT rw0 ok0 b0).mono fun e W' ⟨he, bel⟩ => ?_
  subst he
  exact ⟨_, rfl, _, _, _, [], _, [], hW', trodAll_mk1 (shut_bool Tryz.underlying4 _), (trodAll_cons_mk (shut_nds h0 bel) trodAll_mk0), rfl, Below.frame bel _, fun h => by cases h⟩

theorem over : Rows.pushDownRow.holds Tryz.pinned (OpenSpec.ofChange Rows.pushDownSpec) :=
  OpenClaim.holds_of_wide 12 Tryz.f12 rfl rfl rfl rfl rfl rfl rfl ⟨rfl, rfl, rfl, rfl, rfl⟩ rfl rfl rfl rfl rfl (by kernel_rfl) Tryz.func12 (by kernel_rfl)
    (of_decide_eq_true (by kernel_rfl)) (by unfold Func.isWrapper; first | (rw [if_pos (by decide +kernel)]; kernel_rfl) | (rw [if_neg (by decide +kernel)]; exact ⟨rfl, rfl⟩))
    (fun os started H enc _ => lifted os started H enc)

theorem card : Rows.PushDownCardSaid :=
  Claim7.holds_tied_plain_at .later [] [.data, .data, .data, .data, .data, .data, .pinned] true (true, "96cea82cc36b5cf1a3380f7b37f60b58bdddc176841e44ac2e27ea7ff724803d") false
    over (fun _ h => by cases h) (by kernel_rfl) (fun _ h => by cases h) pushDown_row_tie rfl ⟨rfl, rfl⟩ (by kernel_rfl) rfl
    (fun f fn hf hfn => by
      obtain rfl : f = 12 := Option.some.inj ((show Tryz.prog.funcNamed "starling/starlinglaw.PushDown" = some 12 by kernel_rfl).symm.trans hf) |>.symm
      obtain rfl : fn = Tryz.f12 := (Option.some.inj (Tryz.func12.symm.trans hfn)).symm
      exact ⟨by kernel_rfl, fun j t ht => by
        rw [Tryz.params12] at ht
        have hm : t ∈ [22] := by simpa using Array.mem_of_getElem? ht
        have hall : ([22].all fun u => !Tryz.prog.wantsStandIn u) = true := by kernel_rfl
        exact (show Tryz.prog.wantsStandIn t = false by simpa using List.all_eq_true.1 hall t hm)⟩)
    (by kernel_rfl)

end Go.Proofs.YtjboeabddnnlcaaGreatDoor.pushDownProof
namespace Go.Proofs.YtjboeabddnnlcaaGreatDoor
theorem pushDown_holds : Rows.PushDownCardSaid := pushDownProof.card
#print axioms pushDown_holds
end Go.Proofs.YtjboeabddnnlcaaGreatDoor
