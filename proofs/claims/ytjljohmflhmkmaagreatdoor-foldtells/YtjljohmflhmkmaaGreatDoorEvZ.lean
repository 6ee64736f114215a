/-
  What foldedNode of package eval answers.
-/
import Derived.Test.YtjljohmflhmkmaaGreatDoorEvY
namespace Go.Proofs.YtjljohmflhmkmaaGreatDoor
open Go.ChangeShapes Go.WideShapes Go.ChangeAt Go.RowKit
set_option linter.unusedVariables false
set_option linter.unusedSimpArgs false
set_option maxRecDepth 100000
set_option maxHeartbeats 2000000

theorem IsLL.slice {w : World} {v : Value} {ls : List (List EX.Nd)} (h : IsLL w v ls) : ∃ a c, v = .slice a ls.length c := by
  obtain ⟨qs, ⟨a, c, h1, _⟩, h2, _⟩ := h
  exact ⟨a, c, by rw [h1, h2]⟩
theorem foldedNode_any (n : EX.Nd) (v : Value) (ls : List (List EX.Nd)) (w : World) (h : IsLL w v ls) (hl : ls.length ≤ 1000) (ht : EX.tot ls ≤ 1000)
    (hn : ∀ x ∈ ls.flatten ++ [n], x.nm.size ≤ 140737488355327) (hg : ∀ x ∈ ls.flatten ++ [n], EV.gd x.v) (hTn : Tn w) (hT : Tb w) :
    Calls Tryz.prog 47 #[EX.val n, v] w fun r w' => (∃ u out, EV.fOf n ls = .ok out ∧ r = .returned (.tuple #[u, .int .i64 0]) ∧ w'.ownsRow w.heap.size 38 6 u out.length (flat cdN out)) ∧ Fr w w' := by
  obtain ⟨a, cap, rfl⟩ := h.slice
  obtain ⟨i0, hi0, hz0, hz1, hz2⟩ := info_parts Tryz.infoN
  have htl : ls.flatten.length ≤ 1000 := by rw [EX.tot_flat]; exact ht
  have HC := hideP (fun W (g : Fr w W) => concatN_any _ ls W (h.fr g) hl (by omega))
  have HE := hideP (fun W u (g : Fr w W) (hu : IsL cdN W u (ls.flatten ++ [n])) => eval_any u (.slice none 0 0) (.slice none 0 0) (ls.flatten ++ [n]) [] [] W hu (isL_nil _ _) (isL_nil _ _) hn (by rw [List.length_append]; simp only [List.length_cons, List.length_nil]; omega) (fun c hc => by simp at hc) (hTn.fr g) (hT.fr g) hg (fun x hx => by simp at hx))
  have HOf : Hid (EV.fOf n ls = .ok (match EV.ev (ls.flatten ++ [n]) [] [] with
    | .ok v => if v.n < 0 then ls.flatten ++ [n] else [EV.lit v]
    | .error _ => ls.flatten ++ [n])) := rfl
  have HNe := hideP (fun c (h : EV.ev (ls.flatten ++ [n]) [] [] = .error c) => EV.ev_ne h)
  generalize EV.fOf n ls = OF at *
  generalize EV.ev (ls.flatten ++ [n]) [] [] = D at *
  generalize ls.flatten = fl at *
  obtain ⟨op, kids, ⟨vk, vn, vs⟩, nm⟩ := n
  simp only [EX.val]
  have HB1 := hideP (Blk.new w #[.int .i64 op, .int .i64 kids, .int .i64 vk, .int .i64 vn, .string vs, .string nm] 38)
  have FW := hideP ((Fr.refl w).alloc (.cells #[.int .i64 op, .int .i64 kids, .int .i64 vk, .int .i64 vn, .string vs, .string nm] 38))
  obtain ⟨N0, hN0⟩ : ∃ N0 : EX.Nd, N0 = ⟨op, kids, ⟨vk, vn, vs⟩, nm⟩ := ⟨_, rfl⟩
  have HN0 := hideP hN0
  rw [← hN0] at HE HOf
  obtain ⟨q, hq⟩ : ∃ q, fl.length = q := ⟨_, rfl⟩
  have HQ := hideP hq
  rw [hq] at htl HC
  clear h hl ht hn hg hTn hT hN0 hq
  go_enter Tryz.func47, Tryz.ntmps47
  go_upto_region 1 with fail
  generalize w.alloc (.cells #[.int .i64 op, .int .i64 kids, .int .i64 vk, .int .i64 vn, .string vs, .string nm] 38) = wz at *
  have HS6 := hideP (show wz.cell? ⟨w.heap.size, 0, none⟩ = some (.int .i64 op) ∧ wz.cell? ⟨w.heap.size, 1, none⟩ = some (.int .i64 kids) ∧ wz.cell? ⟨w.heap.size, 2, none⟩ = some (.int .i64 vk) ∧ wz.cell? ⟨w.heap.size, 3, none⟩ = some (.int .i64 vn) ∧ wz.cell? ⟨w.heap.size, 4, none⟩ = some (.string vs) ∧ wz.cell? ⟨w.heap.size, 5, none⟩ = some (.string nm) from ⟨HB1.out.cell 0 rfl, HB1.out.cell 1 rfl, HB1.out.cell 2 rfl, HB1.out.cell 3 rfl, HB1.out.cell 4 rfl, HB1.out.cell 5 rfl⟩)
  have hz := Fr.drew (Fr.refl wz)
  have hsz := Fr.size FW.out
  have HLA := hideP (fun W => lit_one cdN W ⟨op, kids, ⟨vk, vn, vs⟩, nm⟩ 38)
  have HM3 : Hid (q + [(⟨op, kids, ⟨vk, vn, vs⟩, nm⟩ : EX.Nd)].length ≤ maxLen) := by unfold Hid maxLen; simp <;> omega
  have HM4 : Hid ((q + [(⟨op, kids, ⟨vk, vn, vs⟩, nm⟩ : EX.Nd)].length) * 64 ≤ 140737488355328) := by unfold Hid; simp <;> omega
  go_region_held3 (fun W => W.cell? ⟨w.heap.size, 0, none⟩ = some (.int .i64 op) ∧ W.cell? ⟨w.heap.size, 1, none⟩ = some (.int .i64 kids) ∧ W.cell? ⟨w.heap.size, 2, none⟩ = some (.int .i64 vk) ∧ W.cell? ⟨w.heap.size, 3, none⟩ = some (.int .i64 vn) ∧ W.cell? ⟨w.heap.size, 4, none⟩ = some (.string vs) ∧ W.cell? ⟨w.heap.size, 5, none⟩ = some (.string nm)) (first | exact HS6.out | exact s6_after hz HS6.out | exact s6_after hf9 HS6.out | exact s6_after (Fr.alloc hz _) HS6.out | exact s6_after (Fr.alloc hf9 _) HS6.out | exact s6_after hfB HS6.out) (first
    | (go_at_call 66; refine (HC.out _ (FW.out.trans hz)).mono ?_; rintro _ w3 ⟨v3, rfl, own3, f3⟩; have hf9 := hz.trans f3; have hs9 := Fr.size hf9; have HO3 := hideP (own_low own3 (show wz.heap.size ≤ wz.drew.heap.size from Nat.le_refl _)); have HLit := hideP (HLA.out w3); clear f3 own3)
    | (go_at_call 66; refine (HC.out _ (FW.out.trans (Fr.alloc hz _))).mono ?_; rintro _ w3 ⟨v3, rfl, own3, f3⟩; have hf9 := (Fr.alloc hz _).trans f3; have hs9 := Fr.size hf9; have HO3 := hideP (own_low (A := wz.heap.size) own3 (by simp)); have HLit := hideP ((HLA.out wz.drew).fr f3); clear f3 own3)
    | (refine step_append_L cdN rfl _ _ 22 38 i0 _ 64 rfl Tryz.underlying22 hi0 hz0 hz1 hz2 rfl wz.heap.size _ q _ rfl (own_fr HO3.out (Fr.alloc (Fr.refl w3) _)) (.slice (some ⟨w3.heap.size, 0, none⟩) 1 1) [⟨op, kids, ⟨vk, vn, vs⟩, nm⟩] rfl HLit.out HM3.out HM4.out (by simp; omega) ?_; intro v2 wB own2 gr2; have hfB : Fr wz wB := Below.grown (Fr.alloc hf9 _) gr2 (by simp; omega) (own_base HO3.out))
    | (refine step_append_L cdN rfl _ _ 22 38 i0 _ 64 rfl Tryz.underlying22 hi0 hz0 hz1 hz2 rfl wz.heap.size _ q _ rfl HO3.out (.slice (some ⟨wz.heap.size, 0, none⟩) 1 1) [⟨op, kids, ⟨vk, vn, vs⟩, nm⟩] rfl HLit.out HM3.out HM4.out (by omega) ?_; intro v2 wB own2 gr2; have hfB : Fr wz wB := Below.grown hf9 gr2 (by omega) (own_base HO3.out)))
  all_goals (
    have HU := hideP (show wB.ownsRow wz.heap.size 38 6 v2 (q + 1) (flat cdN (fl ++ [N0])) from by rw [HN0.out]; exact own2)
    have FB := hideP (FW.out.trans hfB)
    obtain ⟨ra, rc, rfl⟩ := own_slice HU.out
    have HIs := hideP (show IsL cdN wB (.slice ra (q + 1) rc) (fl ++ [N0]) from isL_own (E := cdN) (by rw [List.length_append, HQ.out]; exact HU.out))
    have HCa := hideP (HE.out wB _ FB.out HIs.out)
    clear own2 gr2 hfB HS6 hz HLit HO3 HLA HE HC hf9 hs9
    cases D with
    | error c =>
      have h0 := HNe.out c rfl
      have HOu : Hid (OF = .ok (fl ++ [N0])) := HOf.out
      simp only [exV, vlV] at HCa
      have e1 : ((c : Int) != 0) = true := by simp; omega
      have e2 : ¬ ((c : Int) = 0) := by omega
      go_wp2_with fail
      refine HCa.out.mono ?_
      rintro _ w5 ⟨rfl, f5⟩
      have F5 := hideP (f5.alloc (.cells #[.int .i64 EX.nul.k, .int .i64 EX.nul.n, .string EX.nul.s] 26))
      clear f5
      go_wp2_with fail
      go_ret2
      refine ⟨⟨_, _, HOu.out, rfl, ?_⟩, FB.out.trans F5.out⟩
      rw [List.length_append, HQ.out]
      exact own_fr (own_low HU.out hsz) F5.out
    | ok x =>
      obtain ⟨xk, xn, xs⟩ := x
      simp only [exV, vlV] at HCa
      by_cases h0 : xn < 0
      · have HOu : Hid (OF = .ok (fl ++ [N0])) := by
          refine HOf.out.trans ?_
          simp only
          rw [if_pos h0]
        go_wp2_with fail
        refine HCa.out.mono ?_
        rintro _ w5 ⟨rfl, f5⟩
        have F5 := hideP (f5.alloc (.cells #[.int .i64 xk, .int .i64 xn, .string xs] 26))
        clear f5
        go_wp2_with fail
        go_ret2
        refine ⟨⟨_, _, HOu.out, rfl, ?_⟩, FB.out.trans F5.out⟩
        rw [List.length_append, HQ.out]
        exact own_fr (own_low HU.out hsz) F5.out
      · have HOu : Hid (OF = .ok [EV.lit ⟨xk, xn, xs⟩]) := by
          refine HOf.out.trans ?_
          simp only
          rw [if_neg h0]
        have h0' : 0 ≤ xn := by omega
        go_wp2_with fail
        refine HCa.out.mono ?_
        rintro _ w5 ⟨rfl, f5⟩
        have F5 := hideP (f5.alloc (.cells #[.int .i64 xk, .int .i64 xn, .string xs] 26))
        clear f5
        go_wp2_with fail
        go_ret2
        refine ⟨⟨_, _, HOu.out, rfl, ?_⟩, (FB.out.trans F5.out).alloc _⟩
        have h9 := (FB.out.trans F5.out).size
        have h8 : w5.heap.size + 1 = (w5.alloc (.cells #[.int .i64 xk, .int .i64 xn, .string xs] 26)).heap.size := by simp
        rw [h8]
        exact World.ownsRow_lit (base := w.heap.size) (e := 38) (size := 6) (w5.alloc (.cells #[.int .i64 xk, .int .i64 xn, .string xs] 26)) #[.int .i64 1, .int .i64 0, .int .i64 xk, .int .i64 xn, .string xs, .string ⟨#[]⟩] 1 h9 (by decide) (by simp)
  )
end Go.Proofs.YtjljohmflhmkmaaGreatDoor
