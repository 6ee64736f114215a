/-
  What belongs together: TsO, TsP, TsQ.
-/
import Derived.Test.YtmemapfboefngaaGtD
import Derived.Deep.RegionHeld3
namespace Go.Proofs.Ytmemapfboefngaa
open Go.ChangeShapes Go.WideShapes Go.ChangeAt Go.RowKit
set_option linter.unusedVariables false
set_option linter.unusedSimpArgs false
set_option maxRecDepth 100000
theorem Try.infoI9 : (Try.prog.info? 3).map (fun i => (i.zero, i.size, i.bytes)) = some (some (.int .i64 0), 1, 8) := by kernel_rfl
set_option maxHeartbeats 2000000 in
theorem cloneP_any (v : Value) (l : List TK.Pr) (w : World) (hr : IsL cdPr w v l) (hl : l.length ≤ 100) :
    Calls Try.prog 69 #[v] w fun e w' => ∃ v', e = .returned v' ∧ w'.ownsRow w.heap.size 38 2 v' l.length (flat cdPr l) ∧ Fr w w' := by
  obtain ⟨i0, hi, hz0, hz1, hz2⟩ := info_parts Try.infoPr
  obtain ⟨a, cap, rfl, hcap, hcs⟩ := hr
  have qn : ∀ (w : World) (a : Option Addr) (n c n' c' : Nat), (binOp .eql 28 (.slice a n c) (.slice none n' c')).run Try.prog w = .ok (.bool a.isNone) w := fun w a n c n' c' => Lib.run_eql_slice_nil w _ _ a n c n' c' Try.underlying28
  cases a with
  | none =>
    have h0 : l = [] := by
      rcases hcs with h | ⟨b, o, h, _⟩
      · exact h
      · cases h
    subst h0
    clear hcs
    go_enter Try.func69, Try.ntmps69
    go_wp2_with fail
    go_ret
    exact ⟨_, rfl, World.ownsRow_nil _ _ _ _, Fr.refl _⟩
  | some A =>
    have hnews : ∀ j u, (flat cdPr l)[j]? = some u → w.cell? (A.add j) = some u := by
      rcases hcs with h | ⟨b, o, h, _, hc⟩
      · subst h; intro j u hj; simp [flat] at hj
      · cases h
        intro j u hj
        rw [Addr.add_lit]
        exact hc j u hj
    have HN : Hid _ := hideP hnews
    have hfl : (flat cdPr l).length = l.length * 2 := flat_len cdPr l
    have HL : Hid _ := hideP hfl
    have H1 : Hid _ := hideP (flat_one cdPr l)
    clear hcs hnews hfl
    generalize flat cdPr l = news at HN HL H1
    generalize l.length = n at hl HL hcap
    go_enter Try.func69, Try.ntmps69
    go_wp2_with (at_builtin; refine wpList_append_own _ rfl _ _ 28 rfl w.heap.size 38 i0 (.agg #[.string ⟨#[]⟩, .int .i64 0]) 2 24 Try.underlying28 hi hz0 hz1 hz2 rfl (by decide) _ _ _ rfl (World.ownsRow_made w #[] 0 (Nat.le_refl _) (Nat.zero_le _) (by simp)) A n cap news rfl ?qc1 ?qc2 ?qc3 ?qc4 ?qc5 ?qc6 ?_)
    case qc1 => exact HL.out
    case qc2 => intro j u hj; exact Lib.cell?_alloc_some _ (HN.out j u hj)
    case qc3 => exact H1.out
    case qc4 => unfold maxLen; omega
    case qc5 => omega
    case qc6 => simp
    intro v' w1 hown hgrow hnil
    have HO := hideP hown
    have HB : Hid (Fr w w1) := ((RowKit.Below.refl _ w).alloc (Nat.le_refl _) _).grown hgrow (by simp) (by intro k hk; simp [Value.ownBlock] at hk; omega)
    clear hown hnil hgrow
    go_wp2_with fail
    go_ret
    exact ⟨v', rfl, by simpa using HO.out, HB.out⟩
set_option maxHeartbeats 2000000 in
theorem cloneI_any (v : Value) (l : List Int) (w : World) (hr : IsL cdZ w v l) (hl : l.length ≤ 100) :
    Calls Try.prog 70 #[v] w fun e w' => ∃ v', e = .returned v' ∧ w'.ownsRow w.heap.size 3 1 v' l.length (flat cdZ l) ∧ Fr w w' := by
  obtain ⟨i0, hi, hz0, hz1, hz2⟩ := info_parts Try.infoI9
  obtain ⟨a, cap, rfl, hcap, hcs⟩ := hr
  have qn : ∀ (w : World) (a : Option Addr) (n c n' c' : Nat), (binOp .eql 53 (.slice a n c) (.slice none n' c')).run Try.prog w = .ok (.bool a.isNone) w := fun w a n c n' c' => Lib.run_eql_slice_nil w _ _ a n c n' c' Try.underlying53
  cases a with
  | none =>
    have h0 : l = [] := by
      rcases hcs with h | ⟨b, o, h, _⟩
      · exact h
      · cases h
    subst h0
    clear hcs
    go_enter Try.func70, Try.ntmps70
    go_wp2_with fail
    go_ret
    exact ⟨_, rfl, World.ownsRow_nil _ _ _ _, Fr.refl _⟩
  | some A =>
    have hnews : ∀ j u, (flat cdZ l)[j]? = some u → w.cell? (A.add j) = some u := by
      rcases hcs with h | ⟨b, o, h, _, hc⟩
      · subst h; intro j u hj; simp [flat] at hj
      · cases h
        intro j u hj
        rw [Addr.add_lit]
        exact hc j u hj
    have HN : Hid _ := hideP hnews
    have hfl : (flat cdZ l).length = l.length * 1 := flat_len cdZ l
    have HL : Hid _ := hideP hfl
    have H1 : Hid _ := hideP (flat_one cdZ l)
    clear hcs hnews hfl
    generalize flat cdZ l = news at HN HL H1
    generalize l.length = n at hl HL hcap
    go_enter Try.func70, Try.ntmps70
    go_wp2_with (at_builtin; refine wpList_append_own _ rfl _ _ 53 rfl w.heap.size 3 i0 (.int .i64 0) 1 8 Try.underlying53 hi hz0 hz1 hz2 rfl (by decide) _ _ _ rfl (World.ownsRow_made w #[] 0 (Nat.le_refl _) (Nat.zero_le _) (by simp)) A n cap news rfl ?qc1 ?qc2 ?qc3 ?qc4 ?qc5 ?qc6 ?_)
    case qc1 => exact HL.out
    case qc2 => intro j u hj; exact Lib.cell?_alloc_some _ (HN.out j u hj)
    case qc3 => exact H1.out
    case qc4 => unfold maxLen; omega
    case qc5 => omega
    case qc6 => simp
    intro v' w1 hown hgrow hnil
    have HO := hideP hown
    have HB : Hid (Fr w w1) := ((RowKit.Below.refl _ w).alloc (Nat.le_refl _) _).grown hgrow (by simp) (by intro k hk; simp [Value.ownBlock] at hk; omega)
    clear hown hnil hgrow
    go_wp2_with fail
    go_ret
    exact ⟨v', rfl, by simpa using HO.out, HB.out⟩
end Go.Proofs.Ytmemapfboefngaa
namespace Go.Proofs.Ytmemapfboefngaa
open Go.ChangeShapes Go.WideShapes Go.ChangeAt Go.RowKit
set_option linter.unusedVariables false
set_option linter.unusedSimpArgs false
set_option maxRecDepth 100000
set_option maxHeartbeats 2000000
/-- two blocks are apart -/
def Apart (a b : Option Nat) : Prop := a = none ∨ a ≠ b
structure OL {α : Type} (E : Cd α) (T Ts : TypeId) (B : Nat) (w : World) (v : Value) (qs : List Sq) (ls : List (List α)) : Prop where
  own : w.ownsRow B Ts 1 v ls.length (flat cdS qs)
  len : qs.length = ls.length
  row : ∀ j (h1 : j < qs.length) (h2 : j < ls.length), w.ownsRow B T E.k qs[j].v ls[j].length (flat E ls[j])
  ap : ∀ i j (h1 : i < qs.length) (h2 : j < qs.length), i ≠ j → Apart qs[i].v.ownBlock qs[j].v.ownBlock
section
variable {α : Type} {E : Cd α} {T Ts : TypeId} {B : Nat} {w w' : World} {v : Value} {qs : List Sq} {ls : List (List α)}
theorem OL.nil : OL E T Ts B w (.slice none 0 0) [] [] := ⟨World.ownsRow_nil _ _ _ _, rfl, fun j h => by simp at h, fun i j h => by simp at h⟩
theorem OL.keep (h : OL E T Ts B w v qs ls) (hk : ∀ (T' : TypeId) (k : Nat) (cur : Array Value), (T' = T ∨ T' = Ts) → B ≤ k → w.heap[k]? = some (.cells cur T' (0, 0)) → w'.heap[k]? = w.heap[k]?) : OL E T Ts B w' v qs ls :=
  ⟨own_keep h.own fun k cur hB hc => hk _ k cur (.inr rfl) hB hc, h.len, fun j h1 h2 => own_keep (h.row j h1 h2) fun k cur hB hc => hk _ k cur (.inl rfl) hB hc, h.ap⟩
theorem OL.fr (h : OL E T Ts B w v qs ls) (f : Fr w w') : OL E T Ts B w' v qs ls := h.keep fun _ k cur _ _ hc => f.block k (Array.getElem?_eq_some_iff.1 hc).1
theorem OL.low {A : Nat} (h : OL E T Ts B w v qs ls) (hA : A ≤ B) : OL E T Ts A w v qs ls := ⟨own_low h.own hA, h.len, fun j h1 h2 => own_low (h.row j h1 h2) hA, h.ap⟩
theorem OL.slice (h : OL E T Ts B w v qs ls) : ∃ a c, v = .slice a ls.length c := own_slice h.own
theorem OL.lists (h : OL E T Ts B w v qs ls) : IsLL E w v ls := ⟨qs, isL_own (E := cdS) (l := qs) (by rw [h.len]; exact h.own), h.len, fun i a b => isL_own (E := E) (h.row i a b)⟩
theorem own_grownT {B n sz : Nat} {T T' : TypeId} {v : Value} {xs : List Value} {w w' : World} {r : Option Nat} (h : w.ownsRow B T sz v n xs) (hT : T' ≠ T) (hr : ∀ g, r = some g → ∃ cur, w.heap[g]? = some (.cells cur T' (0, 0))) (hg : w.grownBy w' r) : w'.ownsRow B T sz v n xs := by
  refine own_keep h fun k cur hk hc => hg.block k (Array.getElem?_eq_some_iff.1 hc).1 ?_
  intro e
  obtain ⟨cur', h'⟩ := hr k e.symm
  rw [hc] at h'
  injection h' with h'
  injection h' with _ h' _
  exact hT h'.symm
/-- a list more -/
theorem OL.more (hT : Ts ≠ T) (h : OL E T Ts B w v qs ls) {s : Sq} {l : List α} {Bs : Nat} (hs : w.ownsRow Bs T E.k s.v l.length (flat E l)) (hB : B ≤ Bs) (hlow : ∀ j (h1 : j < qs.length) g, qs[j].v.ownBlock = some g → g < Bs)
    {v' : Value} (ho : w'.ownsRow B Ts 1 v' (ls.length + 1) (flat cdS (qs ++ [s]))) (g : w.grownBy w' v.ownBlock) : OL E T Ts B w' v' (qs ++ [s]) (ls ++ [l]) := by
  have key : ∀ {B' sz n : Nat} {v : Value} {xs : List Value}, w.ownsRow B' T sz v n xs → w'.ownsRow B' T sz v n xs := fun h' => own_grownT h' hT (own_block h.own) g
  have e1 : ∀ j (h1 : j < qs.length) (h2 : j < (qs ++ [s]).length), (qs ++ [s])[j] = qs[j] := fun j h1 h2 => List.getElem_append_left h1
  have e2 : ∀ (h2 : qs.length < (qs ++ [s]).length), (qs ++ [s])[qs.length] = s := fun h2 => by simp
  have cs : ∀ j, j < (qs ++ [s]).length → j < qs.length ∨ j = qs.length := fun j hj => by rw [List.length_append] at hj; simp at hj; omega
  refine ⟨by rw [List.length_append]; exact ho, by simp [h.len], fun j h1 h2 => ?_, fun j k h1 h2 hne => ?_⟩
  · rcases cs j h1 with hj | rfl
    · have e3 : (ls ++ [l])[j] = ls[j]'(by rw [← h.len]; exact hj) := List.getElem_append_left _
      rw [e1 j hj h1, e3]
      exact key (h.row j hj _)
    · have e3 : (ls ++ [l])[qs.length] = l := by simp [h.len]
      rw [e2 h1, e3]
      exact key (own_low hs hB)
  · rcases cs j h1 with hj | rfl
    · rcases cs k h2 with hk | rfl
      · rw [e1 j hj h1, e1 k hk h2]; exact h.ap j k hj hk hne
      · rw [e1 j hj h1, e2 h2]
        cases hq : qs[j].v.ownBlock with
        | none => exact .inl rfl
        | some g1 =>
          right
          intro e
          have a1 := hlow j hj g1 hq
          have a2 := own_base hs g1 e.symm
          omega
    · rcases cs k h2 with hk | rfl
      · rw [e2 h1, e1 k hk h2]
        cases hq : s.v.ownBlock with
        | none => exact .inl rfl
        | some g1 =>
          right
          intro e
          have a1 := hlow k hk g1 e.symm
          have a2 := own_base hs g1 hq
          omega
      · exact absurd rfl hne
end
theorem Try.infoPs : (Try.prog.info? 28).map (fun i => (i.zero, i.size, i.bytes)) = some (some (.slice none 0 0), 1, 24) := by kernel_rfl
theorem Try.infoIs : (Try.prog.info? 53).map (fun i => (i.zero, i.size, i.bytes)) = some (some (.slice none 0 0), 1, 24) := by kernel_rfl

theorem copiedP_any (v : Value) (L : List (List TK.Pr)) (w : World) (h : IsLL cdPr w v L) (hL : L.length ≤ 1000) (hR : ∀ r ∈ L, r.length ≤ 100) :
    Calls Try.prog 54 #[v] w fun e w' => ∃ u qs, e = .returned u ∧ OL cdPr 38 28 w.heap.size w' u qs L ∧ Fr w w' := by
  obtain ⟨i0, hi0, hz0, hz1, hz2⟩ := info_parts Try.infoPs
  obtain ⟨a, c, rfl⟩ := h.slice
  obtain ⟨ps, hp, _, hc, hcell, hrow⟩ := h.at
  have HCe := hideP hcell
  have HRo := hideP hrow
  have HLn := hideP hR
  clear hcell hrow h hR
  go_enter Try.func54, Try.ntmps54
  go_wp2_with fail
  go_loopw [3, 5, 8] (fun ov _ iv wr => ∃ (i : Nat) (qs : List Sq), iv = .int .i64 i ∧ i ≤ L.length ∧ OL cdPr 38 28 w.heap.size wr ov qs (L.take i) ∧ Fr w wr) (fun _ _ iv _ => L.length - (intOf iv).toNat)
  case atStart => exact ⟨0, [], rfl, Nat.zero_le _, OL.nil, Fr.refl _⟩
  case round =>
    obtain ⟨i, qs, rfl, hi, hol, hfr⟩ := hrel
    obtain ⟨oa, oc, eo⟩ := hol.slice
    rw [show (L.take i).length = i by rw [List.length_take]; omega] at eo
    subst eo
    by_cases hlt : i < L.length
    case neg =>
      obtain rfl : i = L.length := by omega
      rw [List.take_length] at hol
      have HO := hideP hol
      have F := hideP hfr
      clear hol hfr
      go_wp2_with fail
      go_ret
      exact ⟨_, qs, rfl, HO.out, F.out⟩
    have hlt' : (i : Int) < (L.length : Int) := by omega
    obtain ⟨b, o, rfl, hbb, c0⟩ := HCe.out i (by omega)
    obtain ⟨h1, h2⟩ := HRo.out i (by omega) hlt
    have d0 := (Below.cell hfr (World.block_lt_of_cell? _ _ c0)).trans c0
    have hcl := fun W (f : Fr w W) => cloneP_any ps[i].v L[i] W (h1.fr f) (HLn.out _ (List.getElem_mem hlt))
    have hst : L.take (i + 1) = L.take i ++ [L[i]] := List.take_succ_eq_append_getElem hlt
    have hlen : (L.take i).length = i := by rw [List.length_take]; omega
    generalize L[i] = r at *
    obtain ⟨q, hqq⟩ : ∃ q, (ps[i]'(by omega)) = q := ⟨_, rfl⟩
    rw [hqq] at hcl d0
    obtain ⟨qa, qn, qc⟩ := q
    simp only [Sq.v] at hcl d0
    have HCl := hideP hcl
    have HSt := hideP hst
    have HO := hideP hol
    have HF := hideP hfr
    have HLe := hideP hlen
    clear hcl hst hol hfr h1 h2 c0 hqq hlen
    go_wp2_with fail
    refine (HCl.out _ HF.out).mono ?_
    rintro _ w2 ⟨u2, rfl, hown2, f2⟩
    obtain ⟨ua, uc, rfl⟩ := own_slice hown2
    have HF2 := hideP (HF.out.trans f2)
    have HO2 := hideP (HO.out.fr f2)
    have HN := hideP hown2
    have HW := hideP (show ∀ j (h1 : j < qs.length) g, qs[j].v.ownBlock = some g → g < wr.heap.size from fun j h1 g hg => (Array.getElem?_eq_some_iff.1 (own_block (HO.out.row j h1 (by rw [← HO.out.len]; exact h1)) g hg).choose_spec).1)
    have hsz := HF.out.size
    have HSz := hideP hsz
    have HI1 := hideP (show i + 1 ≤ 1000 by omega)
    have hn2 : i ≤ 1000 := by omega
    have hrl : r.length = r.length := rfl
    clear f2 hown2 HCl HO hsz hrl
    generalize hrn : r.length = rn at *
    have hO2 := HO2.out.own
    rw [HLe.out] at hO2
    have HO3 := hideP hO2
    clear hO2
    go_wp2_with (at_builtin; refine wpList_append_own _ rfl _ _ 22 rfl w.heap.size 28 i0 (.slice none 0 0) 1 24 Try.underlying22 hi0 hz0 hz1 hz2 rfl (by decide) _ _ _ rfl (own_fr HO3.out ((Fr.refl w2).alloc _)) ⟨w2.heap.size, 0, none⟩ 1 1 [.slice ua rn uc] rfl rfl (cell_one_new _ _ _) (by simp [Value.oneCell']) (by unfold maxLen; omega) (by omega) (by have := HF2.out.size; simp; omega) ?_)
    intro v' w3 hown3 hgrow _
    obtain ⟨va, vc, rfl⟩ := own_slice hown3
    have HOl := hideP (show OL cdPr 38 28 w.heap.size w3 (.slice va (i + 1) vc) (qs ++ [⟨ua, rn, uc⟩]) (L.take (i + 1)) from by
      rw [HSt.out]
      refine OL.more (Bs := wr.heap.size) (by decide) (HO2.out.fr ((Fr.refl w2).alloc (.cells #[.slice ua rn uc] 28))) (l := r) ?_ HSz.out HW.out ?_ hgrow
      · rw [hrn]; exact own_fr HN.out ((Fr.refl w2).alloc _)
      · rw [HLe.out, flat_app]; exact hown3)
    have HF3 := hideP (show Fr w w3 from (HF2.out.alloc _).grown hgrow (by have := HF2.out.size; simp; omega) (fun k e => own_base HO3.out k e))
    clear hown3 hgrow
    go_wp2_with fail
    go_roundw
    case rel => exact ⟨i + 1, _, by go_num, by omega, HOl.out, HF3.out⟩
    case measure => simp [intOf]; omega

theorem copiedI_any (v : Value) (L : List (List Int)) (w : World) (h : IsLL cdZ w v L) (hL : L.length ≤ 1000) (hR : ∀ r ∈ L, r.length ≤ 100) :
    Calls Try.prog 55 #[v] w fun e w' => ∃ u qs, e = .returned u ∧ OL cdZ 3 53 w.heap.size w' u qs L ∧ Fr w w' := by
  obtain ⟨i0, hi0, hz0, hz1, hz2⟩ := info_parts Try.infoIs
  obtain ⟨a, c, rfl⟩ := h.slice
  obtain ⟨ps, hp, _, hc, hcell, hrow⟩ := h.at
  have HCe := hideP hcell
  have HRo := hideP hrow
  have HLn := hideP hR
  clear hcell hrow h hR
  go_enter Try.func55, Try.ntmps55
  go_wp2_with fail
  go_loopw [3, 5, 8] (fun ov _ iv wr => ∃ (i : Nat) (qs : List Sq), iv = .int .i64 i ∧ i ≤ L.length ∧ OL cdZ 3 53 w.heap.size wr ov qs (L.take i) ∧ Fr w wr) (fun _ _ iv _ => L.length - (intOf iv).toNat)
  case atStart => exact ⟨0, [], rfl, Nat.zero_le _, OL.nil, Fr.refl _⟩
  case round =>
    obtain ⟨i, qs, rfl, hi, hol, hfr⟩ := hrel
    obtain ⟨oa, oc, eo⟩ := hol.slice
    rw [show (L.take i).length = i by rw [List.length_take]; omega] at eo
    subst eo
    by_cases hlt : i < L.length
    case neg =>
      obtain rfl : i = L.length := by omega
      rw [List.take_length] at hol
      have HO := hideP hol
      have F := hideP hfr
      clear hol hfr
      go_wp2_with fail
      go_ret
      exact ⟨_, qs, rfl, HO.out, F.out⟩
    have hlt' : (i : Int) < (L.length : Int) := by omega
    obtain ⟨b, o, rfl, hbb, c0⟩ := HCe.out i (by omega)
    obtain ⟨h1, h2⟩ := HRo.out i (by omega) hlt
    have d0 := (Below.cell hfr (World.block_lt_of_cell? _ _ c0)).trans c0
    have hcl := fun W (f : Fr w W) => cloneI_any ps[i].v L[i] W (h1.fr f) (HLn.out _ (List.getElem_mem hlt))
    have hst : L.take (i + 1) = L.take i ++ [L[i]] := List.take_succ_eq_append_getElem hlt
    have hlen : (L.take i).length = i := by rw [List.length_take]; omega
    generalize L[i] = r at *
    obtain ⟨q, hqq⟩ : ∃ q, (ps[i]'(by omega)) = q := ⟨_, rfl⟩
    rw [hqq] at hcl d0
    obtain ⟨qa, qn, qc⟩ := q
    simp only [Sq.v] at hcl d0
    have HCl := hideP hcl
    have HSt := hideP hst
    have HO := hideP hol
    have HF := hideP hfr
    have HLe := hideP hlen
    clear hcl hst hol hfr h1 h2 c0 hqq hlen
    go_wp2_with fail
    refine (HCl.out _ HF.out).mono ?_
    rintro _ w2 ⟨u2, rfl, hown2, f2⟩
    obtain ⟨ua, uc, rfl⟩ := own_slice hown2
    have HF2 := hideP (HF.out.trans f2)
    have HO2 := hideP (HO.out.fr f2)
    have HN := hideP hown2
    have HW := hideP (show ∀ j (h1 : j < qs.length) g, qs[j].v.ownBlock = some g → g < wr.heap.size from fun j h1 g hg => (Array.getElem?_eq_some_iff.1 (own_block (HO.out.row j h1 (by rw [← HO.out.len]; exact h1)) g hg).choose_spec).1)
    have hsz := HF.out.size
    have HSz := hideP hsz
    have HI1 := hideP (show i + 1 ≤ 1000 by omega)
    have hn2 : i ≤ 1000 := by omega
    have hrl : r.length = r.length := rfl
    clear f2 hown2 HCl HO hsz hrl
    generalize hrn : r.length = rn at *
    have hO2 := HO2.out.own
    rw [HLe.out] at hO2
    have HO3 := hideP hO2
    clear hO2
    go_wp2_with (at_builtin; refine wpList_append_own _ rfl _ _ 23 rfl w.heap.size 53 i0 (.slice none 0 0) 1 24 Try.underlying23 hi0 hz0 hz1 hz2 rfl (by decide) _ _ _ rfl (own_fr HO3.out ((Fr.refl w2).alloc _)) ⟨w2.heap.size, 0, none⟩ 1 1 [.slice ua rn uc] rfl rfl (cell_one_new _ _ _) (by simp [Value.oneCell']) (by unfold maxLen; omega) (by omega) (by have := HF2.out.size; simp; omega) ?_)
    intro v' w3 hown3 hgrow _
    obtain ⟨va, vc, rfl⟩ := own_slice hown3
    have HOl := hideP (show OL cdZ 3 53 w.heap.size w3 (.slice va (i + 1) vc) (qs ++ [⟨ua, rn, uc⟩]) (L.take (i + 1)) from by
      rw [HSt.out]
      refine OL.more (Bs := wr.heap.size) (by decide) (HO2.out.fr ((Fr.refl w2).alloc (.cells #[.slice ua rn uc] 53))) (l := r) ?_ HSz.out HW.out ?_ hgrow
      · rw [hrn]; exact own_fr HN.out ((Fr.refl w2).alloc _)
      · rw [HLe.out, flat_app]; exact hown3)
    have HF3 := hideP (show Fr w w3 from (HF2.out.alloc _).grown hgrow (by have := HF2.out.size; simp; omega) (fun k e => own_base HO3.out k e))
    clear hown3 hgrow
    go_wp2_with fail
    go_roundw
    case rel => exact ⟨i + 1, _, by go_num, by omega, HOl.out, HF3.out⟩
    case measure => simp [intOf]; omega
end Go.Proofs.Ytmemapfboefngaa
namespace Go.Proofs.Ytmemapfboefngaa
open Go.ChangeShapes Go.WideShapes Go.ChangeAt Go.RowKit
set_option linter.unusedVariables false
set_option linter.unusedSimpArgs false
set_option maxRecDepth 100000
set_option maxHeartbeats 2000000
/-- a tree of the call's own, in a box -/
structure Tm (B : Nat) (w : World) (Bc : Nat) (p q : Value) (qs rs : List Sq) (L : List (List TK.Pr)) (U : List (List Int)) : Prop where
  box : Blk w Bc #[p, q] 69
  base : B ≤ Bc
  l : OL cdPr 38 28 B w p qs L
  u : OL cdZ 3 53 B w q rs U
theorem Tm.fr {B : Nat} {w w' : World} {Bc : Nat} {p q : Value} {qs rs : List Sq} {L : List (List TK.Pr)} {U : List (List Int)} (h : Tm B w Bc p q qs rs L U) (f : Fr w w') : Tm B w' Bc p q qs rs L U := ⟨h.box.fr f, h.base, h.l.fr f, h.u.fr f⟩
theorem c2_after {w w' : World} {a b : Addr} {u v : Value} (f : Fr w w') (h : w.cell? a = some u ∧ w.cell? b = some v) : w'.cell? a = some u ∧ w'.cell? b = some v :=
  ⟨(Below.cell f (World.block_lt_of_cell? _ _ h.1)).trans h.1, (Below.cell f (World.block_lt_of_cell? _ _ h.2)).trans h.2⟩
theorem changedOf_any (p q : Value) (L : List (List TK.Pr)) (U : List (List Int)) (w : World) (h : IsT w p q L U) (hL : L.length ≤ 1000) (hR : ∀ r ∈ L, r.length ≤ 100) (hU : U.length ≤ 1000) (hUr : ∀ r ∈ U, r.length ≤ 100) :
    Calls Try.prog 37 #[.agg #[p, q]] w fun e w' => ∃ Bc p' q' qs rs, e = .returned (.pointer (some ⟨Bc, 0, none⟩)) ∧ Tm w.heap.size w' Bc p' q' qs rs L U ∧ Fr w w' := by
  have HP := hideP (fun W (f : Fr w W) => copiedP_any p L W (h.l.fr f) hL hR)
  have HI := hideP (fun W (f : Fr w W) => copiedI_any q U W (h.u.fr f) hU hUr)
  obtain ⟨pa, pc, rfl⟩ := h.l.slice
  obtain ⟨qa, qc, rfl⟩ := h.u.slice
  have bb := Blk.new w #[.slice pa L.length pc, .slice qa U.length qc] 25
  have HS := hideP (show _ ∧ _ from ⟨bb.cell 0 (u := .slice pa L.length pc) rfl, bb.cell 1 (u := .slice qa U.length qc) rfl⟩)
  have F0 := hideP ((Fr.refl w).alloc (.cells #[.slice pa L.length pc, .slice qa U.length qc] 25))
  clear bb h hR hUr
  go_enter Try.func37, Try.ntmps37
  go_upto_region 1 with fail
  generalize w.alloc (.cells #[.slice pa L.length pc, .slice qa U.length qc] 25) = W0 at *
  have hz : Fr W0 W0.drew := Fr.drew (Fr.refl W0)
  go_region_held3 (fun W => W.cell? ⟨w.heap.size, 0, none⟩ = some (.slice pa L.length pc) ∧ W.cell? ⟨w.heap.size, 1, none⟩ = some (.slice qa U.length qc)) (first | exact HS.out | exact c2_after hz HS.out | exact c2_after hfI HS.out | exact c2_after hfP HS.out | exact c2_after hfI2 HS.out | exact c2_after (hfI2.alloc _) HS.out) (first
    | (go_at_call 54; first
        | (refine (HP.out _ (F0.out.trans hfI)).mono ?_; rintro _ wP ⟨uP, qsP, rfl, hOP, fP⟩; obtain ⟨aP, cP, rfl⟩ := hOP.slice; have hfP2 := hfI.trans fP)
        | (refine (HP.out _ (F0.out.trans hz)).mono ?_; rintro _ wP ⟨uP, qsP, rfl, hOP, fP⟩; obtain ⟨aP, cP, rfl⟩ := hOP.slice; have hfP := hz.trans fP))
    | (go_at_call 55; first
        | (refine (HI.out _ (F0.out.trans hfP)).mono ?_; rintro _ wI ⟨uI, qsI, rfl, hOI, fI⟩; obtain ⟨aI, cI, rfl⟩ := hOI.slice; have hfI2 := hfP.trans fI)
        | (refine (HI.out _ (F0.out.trans hz)).mono ?_; rintro _ wI ⟨uI, qsI, rfl, hOI, fI⟩; obtain ⟨aI, cI, rfl⟩ := hOI.slice; have hfI := hz.trans fI)))
  have F2 := hideP (F0.out.trans hfI2)
  have FP := hideP (F0.out.trans hfP)
  have hb : w.heap.size ≤ wI.heap.size := F2.out.size
  have HT := hideP (show Tm w.heap.size (wI.alloc (.cells #[.slice aP L.length cP, .slice aI U.length cI] 69)) wI.heap.size (.slice aP L.length cP) (.slice aI U.length cI) qsP qsI L U from
    ⟨Blk.new wI _ _, hb, ((hOP.fr fI).fr ((Fr.refl _).alloc _)).low F0.out.size, (hOI.fr ((Fr.refl _).alloc _)).low FP.out.size⟩)
  have F3 := hideP (F2.out.alloc (.cells #[.slice aP L.length cP, .slice aI U.length cI] 69))
  clear hOP hOI fP fI hfP hfI2 hz
  go_wp2_with fail
  go_ret
  exact ⟨_, _, _, qsP, qsI, rfl, HT.out, F3.out⟩
end Go.Proofs.Ytmemapfboefngaa
