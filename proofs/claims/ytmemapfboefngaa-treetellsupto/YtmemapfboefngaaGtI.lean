/-
  What belongs together: TtP, TtQ, TtR.
-/
import Derived.Test.YtmemapfboefngaaGtH
namespace Go.Proofs.Ytmemapfboefngaa
open Go.ChangeShapes Go.WideShapes Go.ChangeAt Go.RowKit
set_option linter.unusedVariables false
set_option linter.unusedSimpArgs false
set_option maxRecDepth 100000
set_option maxHeartbeats 2000000
section
variable {B : Nat} {w w' : World} {Bc : Nat} {L : List (List TK.Pr)} {U : List (List Nat)}
/-- the row of levels: a level more -/
theorem Tr.up (h : Tr B w Bc L U) : ∃ a c, w.cell? ⟨Bc, 1, none⟩ = some (.slice a U.length c) ∧ w.frozen? ⟨Bc, 1, none⟩ = false ∧ ∃ xs, w.ownsRow B 53 1 (.slice a U.length c) U.length xs ∧
    ∀ (w3 : World) (v' : Value), ((w.alloc (.cells #[.int .i64 2] 3)).alloc (.cells #[.slice (some ⟨w.heap.size, 0, none⟩) 1 1] 53)).grownBy w3 (Value.slice a U.length c).ownBlock → w3.ownsRow B 53 1 v' (U.length + 1) (xs ++ flat cdS [⟨some ⟨w.heap.size, 0, none⟩, 1, 1⟩]) →
      w3.cell? ⟨Bc, 1, none⟩ = some (.slice a U.length c) ∧ w3.frozen? ⟨Bc, 1, none⟩ = false ∧ Tr B (w3.setCell ⟨Bc, 1, none⟩ v') Bc L (U ++ [[2]]) ∧ Below B w (w3.setCell ⟨Bc, 1, none⟩ v') := by
  obtain ⟨p, q, zs, ys, h1, h2, h3⟩ := h
  have l2 := congrArg List.length h3
  simp only [List.length_map] at l2
  obtain ⟨a, c, rfl⟩ := own_slice h1.u.own
  rw [← l2]
  refine ⟨a, c, h1.box.cell 1 rfl, h1.box.frozen 1, flat cdS (ys.map Prod.fst), h1.u.own, fun w3 v' hG hO => ?_⟩
  have f2 : Fr w ((w.alloc (.cells #[.int .i64 2] 3)).alloc (.cells #[.slice (some ⟨w.heap.size, 0, none⟩) 1 1] 53)) := ((Fr.refl w).alloc _).alloc _
  have hA := h1.fr f2
  have hobt : ∀ k, (Value.slice a ys.length c).ownBlock = some k → ∃ cur, ((w.alloc (.cells #[.int .i64 2] 3)).alloc (.cells #[.slice (some ⟨w.heap.size, 0, none⟩) 1 1] 53)).heap[k]? = some (.cells cur 53 (0, 0)) := fun k hk => own_block hA.u.own k hk
  have hap : (Value.slice a ys.length c).ownBlock ≠ some Bc := hA.box.apart (by decide) hA.u.own
  have hb3 := hA.box.grown hG hap
  have hl3 := hA.l.grownT (T' := 53) (by decide) (by decide) hobt hG
  have hsz := h1.box.lt
  have hbs := h1.base
  have hnew : (w.alloc (.cells #[.int .i64 2] 3)).ownsRow w.heap.size 3 1 (.slice (some ⟨w.heap.size, 0, none⟩) 1 1) 1 (#[Value.int .i64 2]).toList := World.ownsRow_lit (base := w.heap.size) (e := 3) (size := 1) w #[.int .i64 2] 1 (Nat.le_refl _) (by decide) (by simp)
  have hnew2 := own_fr hnew ((Fr.refl (w.alloc (.cells #[.int .i64 2] 3))).alloc (.cells #[.slice (some ⟨w.heap.size, 0, none⟩) 1 1] 53))
  have hu3 : OP cdZ 3 53 B w3 v' (ys ++ [((⟨some ⟨w.heap.size, 0, none⟩, 1, 1⟩ : Sq), [(2 : Int)])]) := by
    have hu : OP cdZ 3 53 B w (.slice a ys.length c) (ys ++ [] ++ []) := by simpa using h1.u
    have := hu.edit (w' := w3) (v' := v') (M' := [((⟨some ⟨w.heap.size, 0, none⟩, 1, 1⟩ : Sq), [(2 : Int)])]) (by
      have e : (ys ++ [((⟨some ⟨w.heap.size, 0, none⟩, 1, 1⟩ : Sq), [(2 : Int)])] ++ []).map Prod.fst = ys.map Prod.fst ++ [⟨some ⟨w.heap.size, 0, none⟩, 1, 1⟩] := by simp
      rw [e, flat_app]
      simpa using hO) (fun z hz => by
      have hz' : z ∈ ys := by simpa using hz
      exact own_grownT (hA.u.row z hz') (T' := 53) (by decide) hobt hG) (fun z hz => by
      simp only [List.mem_singleton] at hz
      subst hz
      exact own_low (own_grownT hnew2 (T' := 53) (by decide) hobt hG) (by omega)) (List.pairwise_singleton _ _) (fun z hz g hg => by
      simp only [List.mem_singleton] at hz
      subst hz
      left
      have : some w.heap.size = some g := hg
      cases this
      exact Nat.le_refl _)
    simpa using this
  have hs := grownBy_setCell w3 Bc 1 v'
  have hty : ∀ g, some Bc = some g → ∃ cur, w3.heap[g]? = some (.cells cur 69 (0, 0)) := fun g e => by cases e; exact ⟨_, hb3⟩
  refine ⟨hb3.cell 1 rfl, hb3.frozen 1, ⟨p, v', zs, _, ⟨?_, h1.base, hl3.grownT (T' := 69) (by decide) (by decide) hty hs, hu3.grownT (T' := 69) (by decide) (by decide) hty hs⟩, h2, ?_⟩, ?_⟩
  · have := hb3.set 1 v'
    simpa using this
  · rw [List.map_append, h3, List.map_append]
    rfl
  · have hb : ∀ k, (Value.slice a ys.length c).ownBlock = some k → B ≤ k := fun k hk => (h1.u.own.lt k hk).1
    have hf2 := f2.size
    exact Below.trans (Below.mono f2 (by omega)) (Below.trans (b := w3) ⟨hG.os, hG.tape, hG.output, hG.size, fun k hk => hG.block k (by omega) (fun e => by have := hb k e.symm; omega)⟩ (Below.setCell (Below.refl B w3) h1.base v'))
theorem below_ge {B : Nat} {w w1 : World} (h : Below B w w1) (hB : B ≤ w.heap.size) : B ≤ w1.heap.size := Nat.le_trans hB h.size
theorem grown_any {FL : List (List TK.Pr)} {FU : List (List Nat)} (h : Tr B w Bc L U) (hB : B ≤ w.heap.size) (a : Nat) {s : List Nat} {up : List (List Nat)} (hG : TR.GI FL FU 0 a L U [] s up) :
    Calls Try.prog 39 #[.pointer (some ⟨Bc, 0, none⟩), .int .i64 (a : Int)] w fun e w' => e = .returned (.tuple #[]) ∧ Tr B w' Bc FL FU ∧ Below B w w' := by
  obtain ⟨i0, hi0, hz0, hz1, hz2⟩ := info_parts Try.infoIs
  go_enter Try.func39, Try.ntmps39
  go_wp2_with fail
  go_loopw [1, 4] (fun av kv wr => ∃ (k a : Nat) (L' : List (List TK.Pr)) (U' A : List (List Nat)) (s : List Nat) (up : List (List Nat)), av = .int .i64 (a : Int) ∧ kv = .int .i64 (k : Int) ∧ Tr B wr Bc L' U' ∧ TR.GI FL FU k a L' U' A s up ∧ Below B w wr) (fun _ kv _ => 100 - (intOf kv).toNat)
  case atStart => exact ⟨0, a, L, U, [], s, up, rfl, rfl, h, hG, Below.refl B w⟩
  case round =>
    clear h hG
    obtain ⟨k, a, L', U', A, s, up, rfl, rfl, hT, hI, hbl⟩ := hrel
    have hk20 : k ≤ 20 := by have := hI.hk; have := hI.few; omega
    have hkU : k ≤ U'.length := by have := hI.len; omega
    have ha66 : a ≤ 66 := by have := hI.ha; have := hI.sS.1; omega
    have hsz := hI.sz
    have hln := hI.ln
    have HBl := hideP hbl
    have hBr := hideP (below_ge hbl hB)
    have HSz := hideP (sizeS_any hT hI.bd k a hkU (by rw [hln]; exact hI.ha))
    rw [hsz] at HSz
    have hs6 : s.getD a 0 ≤ 6 := hI.sS.get
    by_cases h5 : 4 < s.getD a 0
    case neg =>
      obtain ⟨e1, e2⟩ := hI.done (by omega)
      subst e1
      subst e2
      have HT := hideP hT
      generalize s.getD a 0 = x at *
      have hx : ((4 : Int) < (x : Int)) = False := by simp; omega
      clear hT hI hbl hsz hln
      go_wp2_with fail
      refine (HSz.out).mono ?_
      rintro _ w1 ⟨rfl, f1⟩
      have HT1 := hideP (HT.out.fr f1)
      have HB1 := hideP (Below.trans HBl.out (Below.mono f1 hBr.out))
      clear f1
      go_wp2_with fail
      refine bodyPost_end (v := .tuple #[]) (results_none rfl _ _ _) rfl ?_
      exact ⟨rfl, HT1.out, HB1.out⟩
    have hx5 : s.getD a 0 ≤ 5 := hI.hi
    have hcut := fun (W : World) (f : Fr wr W) => cutS_any (hT.fr f) hI.bd (below_ge (Below.trans hbl (Below.mono f (below_ge hbl hB))) hB) k a 2 hkU (by rw [hln]; exact hI.ha) (by rw [hsz]; omega)
    have HCut := hideP hcut
    have hlen := hI.len
    have hcl : (TR.cutS k a 2 L' U').2.length = U'.length := by cases k <;> simp [TR.cutS]
    have HCl := hideP hcl
    have hfl := hI.cutL h5
    have HFl := hideP hfl
    have HBd := hideP (hI.bd2 h5)
    have HI := hideP hI
    cases up with
    | nil =>
      have HTop := hideP (hI.top h5)
      have hkl : U'.length = k := by simpa using hlen
      rw [hfl] at hcut
      generalize hU1 : (TR.cutS k a 2 L' U').2 = U1 at *
      have hU1l : U1.length = k := by rw [hcl, hkl]
      have hH5 : (4 : Int) < ((s.getD a 0 : Nat) : Int) := by omega
      have HCut2 := hideP hcut
      have HU1l := hideP hU1l
      clear hT hI hbl hsz hln hcut HCut hlen hcl hfl hkl hU1 hU1l HI HBd
      generalize s.getD a 0 = x at *
      go_wp2_with fail
      refine (HSz.out).mono ?_
      rintro _ w1 ⟨rfl, f1⟩
      have F1 := hideP f1
      clear f1
      go_wp2_with fail
      refine (HCut2.out _ F1.out).mono ?_
      rintro _ w2 ⟨rfl, t2, b2⟩
      have T2 := hideP t2
      have B2 := hideP (Below.trans (Below.trans HBl.out (Below.mono F1.out hBr.out)) b2)
      clear b2
      obtain ⟨qa, qc, x1, x2, xs, hown, hend⟩ := t2.up
      rw [HU1l.out] at x1 hown hend
      have HX := hideP (show _ ∧ _ from ⟨x1, x2⟩)
      have HOw := hideP hown
      have HEnd := hideP hend
      clear t2 hown hend
      have hbq : ((k : Int) == (k : Int)) = true := by simp
      have hzc : ∀ j u, (flat cdS [(⟨some ⟨w2.heap.size, 0, none⟩, 1, 1⟩ : Sq)])[j]? = some u → ((w2.alloc (.cells #[.int .i64 2] 3)).alloc (.cells #[.slice (some ⟨w2.heap.size, 0, none⟩) 1 1] 53)).cell? ((⟨w2.heap.size + 1, 0, none⟩ : Addr).add j) = some u := by
        intro j u hj
        have hb := Blk.new (w2.alloc (.cells #[.int .i64 2] 3)) #[.slice (some ⟨w2.heap.size, 0, none⟩) 1 1] 53
        rw [World.size_alloc] at hb
        rw [Addr.add_lit, Nat.zero_add]
        refine hb.cell j ?_
        have e : flat cdS [(⟨some ⟨w2.heap.size, 0, none⟩, 1, 1⟩ : Sq)] = [.slice (some ⟨w2.heap.size, 0, none⟩) 1 1] := rfl
        rw [e] at hj
        simpa using hj
      have HZc := hideP hzc
      clear hzc
      go_wp2_with (at_builtin; refine wpList_append_O cdS rfl _ _ 23 53 i0 (.slice none 0 0) 24 rfl Try.underlying23 hi0 hz0 hz1 hz2 rfl B _ k xs rfl (own_fr HOw.out (((Fr.refl w2).alloc _).alloc _)) ⟨w2.heap.size + 1, 0, none⟩ 1 1 [⟨some ⟨w2.heap.size, 0, none⟩, 1, 1⟩] rfl rfl HZc.out (by unfold maxLen; omega) (by omega) (by have := below_ge B2.out hB; simp only [World.size_alloc]; omega) ?_)
      intro v1 w3 hown3 hg3 _ _
      obtain ⟨a3, c3, rfl⟩ := own_slice hown3
      obtain ⟨y1, y2, t3, b3⟩ := HEnd.out w3 _ hg3 hown3
      have T3 := hideP t3
      have B3 := hideP (Below.trans B2.out b3)
      clear hown3 hg3 t3 b3
      go_wp2_with fail
      refine bodyPost_ret (v := .tuple #[]) (results_none rfl _ _ _) rfl ?_
      refine ⟨rfl, ?_, B3.out⟩
      rw [← HTop.out]
      exact T3.out
    | cons u us =>
      obtain ⟨n1, n2, n3, n4, n5⟩ := hI.next h5
      have hkl : k < U'.length := by have := hlen; simp only [List.length_cons] at this; omega
      rw [hfl] at hcut n5
      have hbd := hI.bd2 h5
      rw [hfl] at hbd
      generalize hU1 : (TR.cutS k a 2 L' U').2 = U1 at *
      have hkU1 : k < U1.length := by omega
      have hu : U1[k] = u := by rw [← n1, getD_get hkU1]
      have hH5 : (4 : Int) < ((s.getD a 0 : Nat) : Int) := by omega
      have HCut2 := hideP hcut
      have hul : u.length ≤ 65 := (hI.sU u (by simp)).1
      have hu6 : u.getD (TR.above u a) 0 ≤ 6 := (hI.sU u (by simp)).get
      have hab : TR.above u a ≤ 66 := by omega
      have HAb := hideP (fun (W : World) (t : Tr B W Bc FL U1) => aboveS_any t hbd k a hkU1 (by rw [hu]; exact n2) (by rw [hu]; omega))
      rw [hu] at HAb
      have HN5 := hideP n5
      have hnum : ∀ (W : World) (t : Tr B W Bc FL U1), ∃ g c g2 c2, W.cell? ⟨Bc, 1, none⟩ = some (.slice (some ⟨g, 0, none⟩) U1.length c) ∧ W.cell? ⟨g, k, none⟩ = some (.slice (some ⟨g2, 0, none⟩) u.length c2) ∧ W.cell? ⟨g2, TR.above u a, none⟩ = some (.int .i64 ((u.getD (TR.above u a) 0 : Nat) : Int)) ∧ W.frozen? ⟨g2, TR.above u a, none⟩ = false ∧
          ∀ x : Nat, Tr B (W.setCell ⟨g2, TR.above u a, none⟩ (.int .i64 (x : Int))) Bc FL (U1.set k (u.set (TR.above u a) x)) ∧ Below B W (W.setCell ⟨g2, TR.above u a, none⟩ (.int .i64 (x : Int))) := by
        intro W t
        subst hu
        obtain ⟨g, c, g2, c2, d1, d2, d3, d4, d5⟩ := t.num k (TR.above U1[k] a) hkU1 n3
        exact ⟨g, c, g2, c2, d1, d2, by rw [d3, getD_get n3], d4, d5⟩
      have HNum := hideP hnum
      clear hnum
      have hne : ((k : Int) == (U1.length : Int)) = false := by simp; omega
      have hkI : (k : Int) < (U1.length : Int) := by omega
      have hnI : ((TR.above u a : Nat) : Int) < (u.length : Int) := by omega
      generalize u.getD (TR.above u a) 0 = x1 at *
      generalize hn : TR.above u a = n at *
      generalize s.getD a 0 = x at *
      have HMe := hideP (show 100 - (k + 1) < 100 - k by omega)
      clear hT hI hbl hsz hln hcut HCut hlen hcl hfl hkl hU1 HI HBd n1 n2 n5 hbd hu HCl HFl hn
      go_wp2_with fail
      refine (HSz.out).mono ?_
      rintro _ w1 ⟨rfl, f1⟩
      have F1 := hideP f1
      clear f1
      go_wp2_with fail
      refine (HCut2.out _ F1.out).mono ?_
      rintro _ w2 ⟨rfl, t2, b2⟩
      have T2 := hideP t2
      have B2 := hideP (Below.trans (Below.trans HBl.out (Below.mono F1.out hBr.out)) b2)
      clear b2
      obtain ⟨qa, qc, x1', x2', _, _, _⟩ := t2.up
      clear t2
      go_wp2_with fail
      refine (HAb.out _ T2.out).mono ?_
      rintro _ w3 ⟨rfl, f3⟩
      have T3 := hideP (T2.out.fr f3)
      have B3 := hideP (Below.trans B2.out (Below.mono f3 (below_ge B2.out hB)))
      clear f3 x1' x2'
      obtain ⟨g, c, g2, c2, d1, d2, d3, d4, d5⟩ := HNum.out _ T3.out
      have HD5 := hideP d5
      clear d5
      go_wp2_with fail
      have h6 := HD5.out (x1 + 1)
      rw [show ((x1 + 1 : Nat) : Int) = (x1 : Int) + 1 from by omega] at h6
      refine ⟨⟨k + 1, n, FL, _, _, _, us, rfl, by simp, h6.1, HN5.out _ rfl, Below.trans B3.out h6.2⟩, ?_⟩
      simp [intOf]
      omega
end
end Go.Proofs.Ytmemapfboefngaa
namespace Go.Proofs.Ytmemapfboefngaa
set_option linter.unusedVariables false
set_option linter.unusedSimpArgs false
set_option maxRecDepth 100000
namespace TR
section
variable {P : Type} {L FL : List (List P)} {U FU A up : List (List Nat)} {s : List Nat} {k a : Nat}
/-- this level and those above, when all is done; above the leaves one with one kid is no level on top -/
def T (k : Nat) (s : List Nat) (up : List (List Nat)) (a : Nat) : List (List Nat) :=
  if k ≠ 0 ∧ up = [] ∧ (shrink s up a).1 = [1] then [] else (shrink s up a).1 :: (shrink s up a).2
/-- where one has too few: what is known ahead of a round -/
structure SI (FL : List (List P)) (FU : List (List Nat)) (k a : Nat) (L : List (List P)) (U : List (List Nat)) (A : List (List Nat)) (s : List Nat) (up : List (List Nat)) : Prop where
  v : V L U = A ++ s :: up
  hk : A.length = k
  ha : a < s.length
  rest : Rest s a
  lo : up ≠ [] → 1 ≤ s.getD a 0
  hi : s.getD a 0 ≤ 4
  lv : Lv s.length up
  fv : V FL FU = A ++ T k s up a
  fl : FL = if k = 0 then shrinkL L U a else L
  nz : (up ≠ [] ∨ 0 < k) → sz FL ≠ [0]
  sA : ∀ r ∈ A, Sm 66 r
  sS : Sm 65 s
  sU : ∀ r ∈ up, Sm 65 r
  few : A.length + up.length ≤ 20
theorem SI.len (h : SI FL FU k a L U A s up) : U.length = k + up.length := by
  have := congrArg List.length h.v
  simp only [V, List.length_cons, List.length_append] at this
  have := h.hk
  omega
theorem SI.sz (h : SI FL FU k a L U A s up) (i : Nat) : sizeS L U k i = s.getD i 0 := by
  rw [sizeS_V, h.v, ← h.hk, getD_mid]
theorem SI.ln (h : SI FL FU k a L U A s up) : lenS L U k = s.length := by
  rw [lenS_V, h.v, ← h.hk, getD_mid]
theorem T_some {k a : Nat} {s u : List Nat} {us : List (List Nat)} : T k s (u :: us) a = (shrink s (u :: us) a).1 :: (shrink s (u :: us) a).2 := by
  unfold T
  rw [if_neg (by simp)]
theorem SI.zero {s : List Nat} {up : List (List Nat)} (h : SI FL FU 0 a L U A s up) : A = [] ∧ s = TR.sz L ∧ up = U := by
  have hA : A = [] := List.length_eq_zero_iff.1 h.hk
  have v := h.v
  rw [hA] at v
  simp only [V, List.nil_append, List.cons.injEq] at v
  exact ⟨hA, v.1.symm, v.2.symm⟩
theorem SI.done {u : List Nat} {us : List (List Nat)} (h : SI FL FU k a L U A s (u :: us)) (h2 : 2 ≤ s.getD a 0) : FL = L ∧ FU = U := by
  have fv := h.fv
  rw [T_some, shrink, if_pos h2, ← h.v] at fv
  simp only [V, List.cons.injEq] at fv
  refine ⟨?_, fv.2⟩
  rw [h.fl]
  cases k with
  | zero =>
    obtain ⟨_, e2, e3⟩ := h.zero
    rw [if_pos rfl, ← e3]
    rw [e2, sz_get] at h2
    simp only [shrinkL, if_pos h2]
  | succ k => rw [if_neg (by omega)]
theorem SI.kids {u : List Nat} {us : List (List Nat)} (h : SI FL FU k a L U A s (u :: us)) : U.getD k [] = u ∧ a < u.sum ∧ above u a < u.length ∧ u.sum ≤ 65 ∧ (2 ≤ u.getD (above u a) 0 ∧ u.getD (above u a) 0 ≤ 4) ∧
    base u (above u a + 1) = base u (above u a) + u.getD (above u a) 0 ∧ base u (above u a) ≤ a ∧ a < base u (above u a + 1) ∧ base u (above u a + 1) ≤ s.length := by
  obtain ⟨l1, l2, l3⟩ := h.lv
  have ha := h.ha
  have hs := h.sS.1
  have hn : above u a < u.length := above_lt (by omega)
  obtain ⟨b1, b2⟩ := above_base (u := u) (a := a) (by omega)
  have hst := base_step hn
  have e : u.getD (above u a) 0 = u[above u a] := by simp [List.getD_eq_getElem?_getD, hn]
  have hle := base_le_sum u (above u a + 1)
  refine ⟨?_, by omega, hn, by omega, get_all l2 hn, by rw [hst, e], b1, by rw [hst, ← e]; exact b2, by omega⟩
  have := congrArg (fun l => l.getD (k + 1) []) h.v
  simp only [← h.hk, getD_mid1] at this
  rw [← h.hk]
  exact this
/-- is it its node's last one? -/
def isL (u : List Nat) (a : Nat) : Bool := decide (base u (above u a + 1) = a + 1)
theorem SI.sides {u : List Nat} {us : List (List Nat)} (h : SI FL FU k a L U A s (u :: us)) (h2 : ¬ 2 ≤ s.getD a 0) :
    s.getD a 0 = 1 ∧ (isL u a = true → 1 ≤ a ∧ a < s.length ∧ 2 ≤ s.getD (a - 1) 0) ∧ (isL u a = false → a + 1 < s.length) ∧ 2 ≤ s.getD (ho a (isL u a)) 0 ∧ s.getD (ho a (isL u a)) 0 ≤ 4 ∧ hl a (isL u a) + 1 < s.length ∧
      s.getD (hl a (isL u a)) 0 + s.getD (hl a (isL u a) + 1) 0 = 1 + s.getD (ho a (isL u a)) 0 := by
  obtain ⟨k1, k2, k3, k4, k5, k6, k7, k8, k9⟩ := h.kids
  have hlo := h.lo (by simp)
  have ha := h.ha
  have h1 : s.getD a 0 = 1 := by omega
  have hdef : isL u a = decide (base u (above u a + 1) = a + 1) := rfl
  cases hb : isL u a with
  | true =>
    rw [hb] at hdef
    have e : base u (above u a + 1) = a + 1 := of_decide_eq_true hdef.symm
    have ho1 := h.rest _ (.inl (mem_take_get (show a - 1 < a by omega) (by omega)))
    refine ⟨h1, fun _ => ⟨by omega, ha, ho1.1⟩, fun h => (by cases h), ho1.1, ho1.2, ?_, ?_⟩
    · simp only [hl, if_true]; omega
    · simp only [hl, ho, if_true]
      rw [show a - 1 + 1 = a by omega, h1]
      omega
  | false =>
    rw [hb] at hdef
    have e : base u (above u a + 1) ≠ a + 1 := of_decide_eq_false hdef.symm
    have ho1 := h.rest _ (.inr (mem_drop_get (show a + 1 ≤ a + 1 by omega) (by omega)))
    refine ⟨h1, fun h => (by cases h), fun _ => by omega, ho1.1, ho1.2, ?_, ?_⟩
    · show a + 1 < s.length
      omega
    · show s.getD a 0 + s.getD (a + 1) 0 = 1 + s.getD (a + 1) 0
      omega
theorem SI.joinV {u : List Nat} {us : List (List Nat)} (h : SI FL FU k a L U A s (u :: us)) (l : Nat) : V (joinS k l L U).1 (joinS k l L U).2 = A ++ join s l :: u :: us := by
  rw [joinS_V, h.v, ← h.hk, getD_mid, set_mid]
theorem Sm.join {m a : Nat} {r : List Nat} (h : Sm m r) (ha : a + 1 < r.length) (hj : r.getD a 0 + r.getD (a + 1) 0 ≤ 6) : Sm m (join r a) := by
  refine ⟨by have := join_length ha; have := h.1; omega, fun x hx => ?_⟩
  simp only [TR.join, List.mem_append, List.mem_cons] at hx
  rcases hx with g | rfl | g
  · exact h.2 x (List.mem_of_mem_take g)
  · exact hj
  · exact h.2 x (List.mem_of_mem_drop g)
theorem last_iff {u : List Nat} {a : Nat} (e : base u (above u a + 1) = base u (above u a) + u.getD (above u a) 0) : (base u (above u a) + u.getD (above u a) 0 = a + 1) ↔ isL u a = true := by
  unfold isL
  rw [e]
  simp
/-- one was handed over: all is done -/
theorem SI.spare {u : List Nat} {us : List (List Nat)} (h : SI FL FU k a L U A s (u :: us)) (h2 : ¬ 2 ≤ s.getD a 0) (h3 : 2 < s.getD (ho a (isL u a)) 0) : handS k a (isL u a) L U = (FL, FU) := by
  obtain ⟨q1, q2, q3, q4, q5, q6, q7⟩ := h.sides h2
  have hki := h.kids.2.2.2.2.2.1
  have hli := last_iff hki
  have hjn : lenS (joinS k (hl a (isL u a)) L U).1 (joinS k (hl a (isL u a)) L U).2 k + 1 = s.length := by
    rw [← h.ln]; exact lenS_join (by have := h.len; omega) (by rw [h.ln]; exact q6)
  have hsj : sizeS (joinS k (hl a (isL u a)) L U).1 (joinS k (hl a (isL u a)) L U).2 k (hl a (isL u a)) = s.getD (hl a (isL u a)) 0 + s.getD (hl a (isL u a) + 1) 0 := by
    rw [sizeS_join (by have := h.len; omega) (by rw [h.ln]; exact q6), h.sz, h.sz]
  have hf : hf L U k a (isL u a) ≤ sizeS (joinS k (hl a (isL u a)) L U).1 (joinS k (hl a (isL u a)) L U).2 k (hl a (isL u a)) := by
    rw [hsj, q7]
    cases hb : isL u a with
    | true =>
      have hh : TR.hf L U k a true = s.getD (a - 1) 0 - 1 := by simp only [TR.hf, if_true, h.sz]
      have ho' : ho a true = a - 1 := rfl
      rw [hh, ho']; omega
    | false =>
      have hh : TR.hf L U k a false = s.getD a 0 + 1 := by simp only [TR.hf, h.sz]; rfl
      rw [hb] at h3
      rw [hh]; omega
  have hV : V (handS k a (isL u a) L U).1 (handS k a (isL u a) L U).2 = A ++ two s (hl a (isL u a)) (TR.hf L U k a (isL u a)) :: u :: us := by
    unfold handS
    rw [if_pos (by rw [h.sz]; exact h3), cutS_V hf, h.joinV, ← h.hk, getD_mid, set_mid]
    rfl
  have hfv : (shrink s (u :: us) a) = (two s (hl a (isL u a)) (TR.hf L U k a (isL u a)), u :: us) := by
    rw [shrink, if_neg h2]
    cases hb : isL u a with
    | true =>
      have hh : TR.hf L U k a true = s.getD (a - 1) 0 - 1 := by simp only [TR.hf, if_true, h.sz]
      rw [hb] at h3
      simp only [if_pos (hli.2 hb)]
      have h3' : 2 < s.getD (a - 1) 0 := h3
      rw [if_pos h3', hh]
      rfl
    | false =>
      have hh : TR.hf L U k a false = s.getD a 0 + 1 := by simp only [TR.hf, h.sz]; rfl
      rw [hb] at h3
      have hn : ¬ (base u (above u a) + u.getD (above u a) 0 = a + 1) := fun e => by rw [hli.1 e] at hb; cases hb
      simp only [if_neg hn]
      have h3' : 2 < s.getD (a + 1) 0 := h3
      rw [if_pos h3', hh]
      rfl
  have fv := h.fv
  rw [T_some, hfv, ← hV] at fv
  simp only [V, List.cons.injEq] at fv
  have hfl : (handS k a (isL u a) L U).1 = FL := by
    rw [h.fl]
    have h3s := h3
    rw [← h.sz] at h3s
    cases k with
    | zero =>
      obtain ⟨_, e2, e3⟩ := h.zero
      subst e3
      rw [if_pos rfl]
      have h2' : ¬ 2 ≤ (L.getD a []).length := by rw [← sz_get, ← e2]; exact h2
      unfold handS
      rw [if_pos h3s]
      simp only [shrinkL, if_neg h2']
      cases hb : isL u a with
      | true =>
        rw [hb] at h3s
        simp only [if_pos (hli.2 hb)]
        have h4 : 2 < (L.getD (a - 1) []).length := h3s
        rw [if_pos h4]
        rfl
      | false =>
        rw [hb] at h3s
        have hn : ¬ (base u (above u a) + u.getD (above u a) 0 = a + 1) := fun e => by rw [hli.1 e] at hb; cases hb
        simp only [if_neg hn]
        have h4 : 2 < (L.getD (a + 1) []).length := h3s
        rw [if_pos h4]
        rfl
    | succ k =>
      rw [if_neg (by omega)]
      unfold handS
      rw [if_pos h3s]
      rfl
  exact Prod.ext hfl fv.2.symm
/-- both became one: the level above has one less -/
theorem SI.next {u : List Nat} {us : List (List Nat)} (h : SI FL FU k a L U A s (u :: us)) (h2 : ¬ 2 ≤ s.getD a 0) (h3 : ¬ 2 < s.getD (ho a (isL u a)) 0) :
    (handS k a (isL u a) L U).2.getD k [] = u ∧ (∀ x, x = (handS k a (isL u a) L U).2.set k (u.set (above u a) (u.getD (above u a) 0 - 1)) →
      SI FL FU (k + 1) (above u a) (handS k a (isL u a) L U).1 x (A ++ [join s (hl a (isL u a))]) (put u (above u a) (u.getD (above u a) 0 - 1)) us) := by
  obtain ⟨q1, q2, q3, q4, q5, q6, q7⟩ := h.sides h2
  obtain ⟨k1, k2, k3, k4, k5, k6, k7, k8, k9⟩ := h.kids
  have hli := last_iff k6
  obtain ⟨l1, l2, l3⟩ := h.lv
  have hS : handS k a (isL u a) L U = joinS k (hl a (isL u a)) L U := by
    unfold handS
    rw [if_neg (by rw [h.sz]; exact h3)]
  have cv := h.joinV (hl a (isL u a))
  have hk := h.hk
  rw [hS]
  have e1 : (joinS k (hl a (isL u a)) L U).2.getD k [] = u := by
    have := congrArg (fun l => l.getD (k + 1) []) cv
    simp only [← hk, getD_mid1] at this
    rw [← hk]
    exact this
  have hfv : (shrink s (u :: us) a) = (join s (hl a (isL u a)), if us = [] ∧ (shrink (put u (above u a) (u.getD (above u a) 0 - 1)) us (above u a)).1 = [1] then [] else (shrink (put u (above u a) (u.getD (above u a) 0 - 1)) us (above u a)).1 :: (shrink (put u (above u a) (u.getD (above u a) 0 - 1)) us (above u a)).2) := by
    rw [shrink, if_neg h2]
    cases hb : isL u a with
    | true =>
      rw [hb] at h3
      simp only [if_pos (hli.2 hb)]
      have h3' : ¬ 2 < s.getD (a - 1) 0 := h3
      rw [if_neg h3']
      rfl
    | false =>
      rw [hb] at h3
      have hn : ¬ (base u (above u a) + u.getD (above u a) 0 = a + 1) := fun e => by rw [hli.1 e] at hb; cases hb
      simp only [if_neg hn]
      have h3' : ¬ 2 < s.getD (a + 1) 0 := h3
      rw [if_neg h3']
      rfl
  refine ⟨e1, fun x hx => ?_⟩
  subst hx
  have hfl : (joinS k (hl a (isL u a)) L U).1 = FL := by
    rw [h.fl]
    have h3s := h3
    rw [← h.sz] at h3s
    cases k with
    | zero =>
      obtain ⟨_, e2, e3⟩ := h.zero
      subst e3
      rw [if_pos rfl]
      have h2' : ¬ 2 ≤ (L.getD a []).length := by rw [← sz_get, ← e2]; exact h2
      simp only [shrinkL, if_neg h2']
      cases hb : isL u a with
      | true =>
        rw [hb] at h3s
        simp only [if_pos (hli.2 hb)]
        have h4 : ¬ 2 < (L.getD (a - 1) []).length := h3s
        rw [if_neg h4]
        rfl
      | false =>
        rw [hb] at h3s
        have hn : ¬ (base u (above u a) + u.getD (above u a) 0 = a + 1) := fun e => by rw [hli.1 e] at hb; cases hb
        simp only [if_neg hn]
        have h4 : ¬ 2 < (L.getD (a + 1) []).length := h3s
        rw [if_neg h4]
        rfl
    | succ k => rw [if_neg (by omega)]; rfl
  have fv := h.fv
  rw [T_some, hfv] at fv
  have hnz := h.nz (.inl (by simp))
  have hjs : Sm 65 (join s (hl a (isL u a))) := h.sS.join q6 (by omega)
  generalize hl a (isL u a) = l at *
  generalize above u a = n at *
  refine ⟨?_, by simp [hk], by rw [put_length k3]; exact k3, put_rest k3 (all_rest l2 n), fun _ => by rw [put_at k3]; omega, by rw [put_at k3]; omega, by rw [put_length k3]; exact l3, ?_, ?_, fun _ => hnz, ?_, ?_, ?_, ?_⟩
  · have e2 : V (joinS k l L U).1 ((joinS k l L U).2.set k (u.set n (u.getD n 0 - 1))) = (V (joinS k l L U).1 (joinS k l L U).2).set (k + 1) (u.set n (u.getD n 0 - 1)) := rfl
    rw [e2, cv, ← hk, set_mid1, put_set k3]
    simp
  · rw [fv]
    unfold T
    simp
  · rw [if_neg (by omega)]
    exact hfl.symm
  · intro r hr
    rcases List.mem_append.1 hr with hr | hr
    · exact h.sA r hr
    · simp only [List.mem_singleton] at hr
      subst hr
      exact hjs.mono (by decide)
  · exact (h.sU u (by simp)).put k3 (by omega)
  · exact fun r hr => h.sU r (by simp [hr])
  · have := h.few
    simp at this ⊢
    omega
/-- the end: no leaf without pairs -/
def fT (FL : List (List P)) (FU : List (List Nat)) : List (List P) × List (List Nat) := if sz FL = [0] then ([], []) else (FL, FU)
theorem SI.fT (h : SI FL FU k a L U A s up) (hn : up ≠ [] ∨ 0 < k) : TR.fT FL FU = (FL, FU) := by
  unfold TR.fT
  rw [if_neg (h.nz hn)]
end
theorem SI.top {L FL : List (List TK.Pr)} {U FU A : List (List Nat)} {s : List Nat} {k a : Nat} (h : SI FL FU k a L U A s []) : TR.fT FL FU = (topL L U, topU U) ∧ (U = [] → L ≠ []) ∧ ∀ u, U.getLast? = some u → u ≠ [] := by
  have hs1 : s.length = 1 := h.lv
  obtain ⟨x, rfl⟩ := List.length_eq_one_iff.mp hs1
  have hsh : shrink [x] [] a = ([x], []) := rfl
  cases k with
  | zero =>
    obtain ⟨e1, e2, e3⟩ := h.zero
    subst e3
    have hfl : FL = L := by rw [h.fl, if_pos rfl]; rfl
    have fv := h.fv
    rw [e1] at fv
    unfold T at fv
    rw [if_neg (by simp), hsh] at fv
    simp only [V, List.nil_append, List.cons.injEq] at fv
    have hL : L.length = 1 := by rw [← sz_len, ← e2]; rfl
    obtain ⟨l, rfl⟩ := List.length_eq_one_iff.mp hL
    refine ⟨?_, fun _ => by simp, fun u hu => by simp at hu⟩
    unfold TR.fT
    rw [hfl, fv.2]
    by_cases hl : l = []
    · subst hl
      rw [if_pos (show TR.sz ([[]] : List (List TK.Pr)) = [0] from rfl)]
      simp [topL, topU]
    · rw [if_neg (by
        intro e
        simp only [TR.sz, List.map_cons, List.map_nil, List.cons.injEq, and_true] at e
        exact hl (List.length_eq_zero_iff.1 e))]
      simp [topL, topU, hl]
  | succ k =>
    have hfl : FL = L := by rw [h.fl, if_neg (by omega)]
    have hft := h.fT (.inr (by omega))
    have v := h.v
    have hk := h.hk
    have fv := h.fv
    cases A with
    | nil => simp at hk
    | cons r A' =>
      simp only [V, List.cons_append, List.cons.injEq] at v fv
      unfold T at fv
      rw [hsh] at fv
      have hU : U ≠ [] := by rw [v.2]; simp
      have hlast : U.getLast? = some [x] := by rw [v.2]; simp
      refine ⟨?_, fun e => absurd e hU, fun u hu => ?_⟩
      · rw [hft, hfl]
        have e1 : topL L U = L := by unfold topL; rw [if_neg (fun e => hU e.1)]
        have e2 : (U.getLastD []).headD 0 = x := by
          rw [List.getLastD_eq_getLast?, hlast]; rfl
        rw [e1]
        unfold topU
        rw [e2, fv.2]
        by_cases hx : x = 1
        · subst hx
          rw [if_pos ⟨by omega, rfl, rfl⟩, if_pos ⟨hU, rfl⟩, v.2]
          simp
        · rw [if_neg (by simp [hx]), if_neg (fun e => hx e.2), v.2]
      · rw [hlast] at hu
        simp only [Option.some.injEq] at hu
        subst hu
        simp
end TR
theorem TR.SI.bd {FL L : List (List TK.Pr)} {FU U A up : List (List Nat)} {s : List Nat} {k a : Nat} (h : TR.SI FL FU k a L U A s up) : Bd L U := by
  refine Bd.of (fun r hr => ?_) (by have := h.len; have := h.few; have := h.hk; omega)
  rw [h.v] at hr
  rcases List.mem_append.1 hr with hr | hr
  · exact h.sA r hr
  · rcases List.mem_cons.1 hr with rfl | hr
    · exact h.sS.mono (by decide)
    · exact (h.sU r hr).mono (by decide)
theorem TR.SI.bdJ {FL L : List (List TK.Pr)} {FU U A us : List (List Nat)} {s u : List Nat} {k a : Nat} (h : TR.SI FL FU k a L U A s (u :: us)) (h2 : ¬ 2 ≤ s.getD a 0) : Bd (TR.joinS k (TR.hl a (TR.isL u a)) L U).1 (TR.joinS k (TR.hl a (TR.isL u a)) L U).2 := by
  obtain ⟨q1, q2, q3, q4, q5, q6, q7⟩ := h.sides h2
  have cv := h.joinV (TR.hl a (TR.isL u a))
  refine Bd.of (fun r hr => ?_) ?_
  · rw [cv] at hr
    rcases List.mem_append.1 hr with hr | hr
    · exact h.sA r hr
    · rcases List.mem_cons.1 hr with rfl | hr
      · exact (h.sS.join q6 (by omega)).mono (by decide)
      · exact (h.sU r hr).mono (by decide)
  · have := congrArg List.length cv
    simp only [TR.V, List.length_cons, List.length_append] at this
    have := h.few
    simp only [List.length_cons] at this
    omega
end Go.Proofs.Ytmemapfboefngaa
namespace Go.Proofs.Ytmemapfboefngaa
open Go.ChangeShapes Go.WideShapes Go.ChangeAt Go.RowKit
set_option linter.unusedVariables false
set_option linter.unusedSimpArgs false
set_option maxRecDepth 100000
set_option maxHeartbeats 2000000
section
variable {B : Nat} {w w' : World} {Bc : Nat} {L : List (List TK.Pr)} {U : List (List Nat)}
theorem shrunk_any {FL : List (List TK.Pr)} {FU : List (List Nat)} (h : Tr B w Bc L U) (hB : B ≤ w.heap.size) (a : Nat) {s : List Nat} {up : List (List Nat)} (hS : TR.SI FL FU 0 a L U [] s up) :
    Calls Try.prog 45 #[.pointer (some ⟨Bc, 0, none⟩), .int .i64 (a : Int)] w fun e w' => e = .returned (.tuple #[]) ∧ Tr B w' Bc (TR.fT FL FU).1 (TR.fT FL FU).2 ∧ Below B w w' := by
  obtain ⟨R, hR⟩ : ∃ R, TR.fT FL FU = R := ⟨_, rfl⟩
  rw [hR]
  have HR := hideP hR
  clear hR
  obtain ⟨qa, qc, x1, _, _, _, _⟩ := h.up
  obtain ⟨N, hN⟩ : ∃ N, U.length = N := ⟨_, rfl⟩
  rw [hN] at x1
  have hN2 : N = up.length := by have := hS.len; omega
  have HN := hideP hN
  have hN20 : N ≤ 20 := by have := hS.few; simp only [List.length_nil] at this; omega
  clear hN hN2
  go_enter Try.func45, Try.ntmps45
  go_wp2_with fail
  go_loopw [1, 13] (fun av kv wr => ∃ (k a : Nat) (L' : List (List TK.Pr)) (U' A : List (List Nat)) (s : List Nat) (up : List (List Nat)), av = .int .i64 (a : Int) ∧ kv = .int .i64 (k : Int) ∧ Tr B wr Bc L' U' ∧ TR.SI FL FU k a L' U' A s up ∧ U'.length = N ∧ Below B w wr) (fun _ kv _ => 100 - (intOf kv).toNat)
  case atStart => exact ⟨0, a, L, U, [], s, up, rfl, rfl, h, hS, HN.out, Below.refl B w⟩
  case round =>
    clear h hS x1 HN
    obtain ⟨k, a, L', U', A, s, up, rfl, rfl, hT, hI, hUN, hbl⟩ := hrel
    have hk20 : k ≤ 20 := by have := hI.hk; have := hI.few; omega
    have hlen := hI.len
    have hkU : k ≤ U'.length := by omega
    have ha66 : a ≤ 66 := by have := hI.ha; have := hI.sS.1; omega
    have HBl := hideP hbl
    have hBr := hideP (below_ge hbl hB)
    cases up with
    | nil =>
      have hkN : k = N := by simp only [List.length_nil] at hlen; omega
      subst hkN
      obtain ⟨t1, t2, t3⟩ := hI.top
      have HTop := hideP (shrunkTop_any hT hI.bd t2 t3)
      have HE := hideP (t1.symm.trans HR.out)
      have hkk : ((k : Int) < (k : Int)) = False := by simp
      clear hT hI hbl hlen hUN t1 t2 t3
      go_wp2_with fail
      refine (HTop.out).mono ?_
      rintro _ w1 ⟨rfl, u1, b1⟩
      have T1 := hideP u1
      have B1 := hideP (Below.trans HBl.out b1)
      clear u1 b1
      go_wp2_with fail
      refine bodyPost_end (v := .tuple #[]) (results_none rfl _ _ _) rfl ?_
      refine ⟨rfl, ?_, B1.out⟩
      rw [← HE.out]
      exact T1.out
    | cons u us =>
      have hsz := hI.sz a
      have hln := hI.ln
      have hkl : k < U'.length := by simp only [List.length_cons] at hlen; omega
      have hkN : (k : Int) < (N : Int) := by omega
      have HSz := hideP (sizeS_any hT hI.bd k a hkU (by rw [hln]; exact hI.ha))
      rw [hsz] at HSz
      have hs6 : s.getD a 0 ≤ 6 := hI.sS.get
      have hft := (hI.fT (.inl (by simp))).symm.trans HR.out
      have HFt := hideP hft
      by_cases h2 : 2 ≤ s.getD a 0
      · obtain ⟨e1, e2⟩ := hI.done h2
        subst e1
        subst e2
        have HT := hideP hT
        have hx : (2 : Int) ≤ ((s.getD a 0 : Nat) : Int) := by omega
        generalize s.getD a 0 = x at *
        clear hT hI hbl hsz hln hlen hft hkl hUN
        go_wp2_with fail
        refine (HSz.out).mono ?_
        rintro _ w1 ⟨rfl, f1⟩
        have HT1 := hideP (HT.out.fr f1)
        have HB1 := hideP (Below.trans HBl.out (Below.mono f1 hBr.out))
        clear f1
        go_wp2_with fail
        refine bodyPost_ret (v := .tuple #[]) (results_none rfl _ _ _) rfl ?_
        refine ⟨rfl, ?_, HB1.out⟩
        rw [← HFt.out]
        exact HT1.out
      · obtain ⟨q1, q2, q3, q4, q5, q6, q7⟩ := hI.sides h2
        obtain ⟨k1, k2, k3, k4, k5, k6, k7, k8, k9⟩ := hI.kids
        have hu : U'[k] = u := by rw [← k1, getD_get hkl]
        have hbd := hI.bd
        have HAb := hideP (fun (W : World) (t : Tr B W Bc L' U') => aboveS_any t hbd k a hkl (by rw [hu]; exact k2) (by rw [hu]; omega))
        rw [hu] at HAb
        have hx : ((2 : Int) ≤ ((s.getD a 0 : Nat) : Int)) = False := eq_false (by omega)
        have hlast : (((a : Int) == ((TR.base u (TR.above u a + 1) : Nat) : Int) - 1)) = TR.isL u a := by
          unfold TR.isL
          by_cases e : TR.base u (TR.above u a + 1) = a + 1
          · rw [e]; simp
          · rw [decide_eq_false e]; simp; omega
        have HLa := hideP hlast
        have HHa := hideP (fun (W : World) (t : Tr B W Bc L' U') (hW : B ≤ W.heap.size) => handed_any t hbd hW k a (TR.isL u a) hkU (fun e => by have := q2 e; exact ⟨this.1, by rw [hln]; exact this.2.1, by rw [hI.sz]; omega⟩) (fun e => by rw [hln]; exact q3 e) (hI.bdJ h2) (by rw [hsz]; omega) (by rw [hI.sz]; omega) (by omega))
        have hos : TR.sizeS L' U' k (TR.ho a (TR.isL u a)) = s.getD (TR.ho a (TR.isL u a)) 0 := hI.sz _
        rw [hos] at HHa
        by_cases h3 : 2 < s.getD (TR.ho a (TR.isL u a)) 0
        · have hsp := hI.spare h2 h3
          rw [hsp, decide_eq_true h3] at HHa
          have HT := hideP hT
          have hb66 : TR.base u (TR.above u a + 1) ≤ 66 := by have := hI.sS.1; omega
          have HHb := hideP HHa.out
          generalize TR.base u (TR.above u a + 1) = b at *
          generalize TR.above u a = n at *
          generalize TR.isL u a = la at *
          generalize s.getD a 0 = x at *
          clear hT hI hbl hsz hln hlen hft hkl hUN q1 q2 q3 q4 q5 q6 q7 k1 k2 k3 k4 k5 k6 k7 k8 k9 hu hbd hos hsp h3 h2 hlast HHa
          go_wp2_with fail
          refine (HSz.out).mono ?_
          rintro _ w1 ⟨rfl, f1⟩
          have HT1 := hideP (HT.out.fr f1)
          have HB1 := hideP (Below.trans HBl.out (Below.mono f1 hBr.out))
          clear f1
          go_wp2_with fail
          refine (HAb.out _ HT1.out).mono ?_
          rintro _ w2 ⟨rfl, f2⟩
          have HT2 := hideP (HT1.out.fr f2)
          have HB2 := hideP (Below.trans HB1.out (Below.mono f2 (below_ge HB1.out hB)))
          clear f2
          have hla := HLa.out
          go_wp2_with fail
          refine (HHb.out _ HT2.out (below_ge HB2.out hB)).mono ?_
          rintro _ w3 ⟨rfl, t3, b3⟩
          have T3 := hideP t3
          have B3 := hideP (Below.trans HB2.out b3)
          clear t3 b3
          go_wp2_with fail
          refine bodyPost_ret (v := .tuple #[]) (results_none rfl _ _ _) rfl ?_
          refine ⟨rfl, ?_, B3.out⟩
          rw [← HFt.out]
          exact T3.out
        · obtain ⟨m1, m2⟩ := hI.next h2 h3
          rw [decide_eq_false h3] at HHa
          have hUl : (TR.handS k a (TR.isL u a) L' U').2.length = U'.length := by
            unfold TR.handS
            split <;> (cases k <;> simp [TR.cutS, TR.joinS])
          generalize hL1 : (TR.handS k a (TR.isL u a) L' U').1 = L1 at *
          generalize hU1 : (TR.handS k a (TR.isL u a) L' U').2 = U1 at *
          have hkU1 : k < U1.length := by omega
          have hu1 : U1[k] = u := by rw [← m1, getD_get hkU1]
          have hnum : ∀ (W : World) (t : Tr B W Bc L1 U1), ∃ g c g2 c2, W.cell? ⟨Bc, 1, none⟩ = some (.slice (some ⟨g, 0, none⟩) U1.length c) ∧ W.cell? ⟨g, k, none⟩ = some (.slice (some ⟨g2, 0, none⟩) u.length c2) ∧ W.cell? ⟨g2, TR.above u a, none⟩ = some (.int .i64 ((u.getD (TR.above u a) 0 : Nat) : Int)) ∧ W.frozen? ⟨g2, TR.above u a, none⟩ = false ∧
              ∀ x : Nat, Tr B (W.setCell ⟨g2, TR.above u a, none⟩ (.int .i64 (x : Int))) Bc L1 (U1.set k (u.set (TR.above u a) x)) ∧ Below B W (W.setCell ⟨g2, TR.above u a, none⟩ (.int .i64 (x : Int))) := by
            intro W t
            subst hu1
            obtain ⟨g, c, g2, c2, d1, d2, d3, d4, d5⟩ := t.num k (TR.above U1[k] a) hkU1 k3
            exact ⟨g, c, g2, c2, d1, d2, by rw [d3, getD_get k3], d4, d5⟩
          have HNum := hideP hnum
          have HM := hideP m2
          have HT := hideP hT
          have hb66 : TR.base u (TR.above u a + 1) ≤ 66 := by have := hI.sS.1; omega
          have HHb := hideP HHa.out
          have hkI : (k : Int) < (U1.length : Int) := by omega
          have hnI : ((TR.above u a : Nat) : Int) < (u.length : Int) := by omega
          have hx1 := k5.1
          have hx2 := k5.2
          have hn66 : TR.above u a ≤ 66 := by have := (hI.sU u (by simp)).1; omega
          have hU1N : U1.length = N := by omega
          have HU1N := hideP hU1N
          have HMe := hideP (show 100 - (k + 1) < 100 - k by omega)
          have HHs := hideP (show U1.length = N from hU1N)
          generalize TR.base u (TR.above u a + 1) = b at *
          generalize u.getD (TR.above u a) 0 = x1 at *
          generalize TR.above u a = n at *
          generalize TR.isL u a = la at *
          generalize s.getD a 0 = x at *
          clear hT hI hbl hsz hln hlen hft hkl hUN q1 q2 q3 q4 q5 q6 q7 k1 k2 k3 k4 k5 k6 k7 k8 k9 hu hbd hos h3 h2 hlast HHa hL1 hU1 hu1 hnum m1 m2 hUl hU1N
          go_wp2_with fail
          refine (HSz.out).mono ?_
          rintro _ w1 ⟨rfl, f1⟩
          have HT1 := hideP (HT.out.fr f1)
          have HB1 := hideP (Below.trans HBl.out (Below.mono f1 hBr.out))
          clear f1
          go_wp2_with fail
          refine (HAb.out _ HT1.out).mono ?_
          rintro _ w2 ⟨rfl, f2⟩
          have HT2 := hideP (HT1.out.fr f2)
          have HB2 := hideP (Below.trans HB1.out (Below.mono f2 (below_ge HB1.out hB)))
          clear f2
          have hla := HLa.out
          go_wp2_with fail
          refine (HHb.out _ HT2.out (below_ge HB2.out hB)).mono ?_
          rintro _ w3 ⟨rfl, t3, b3⟩
          have T3 := hideP t3
          have B3 := hideP (Below.trans HB2.out b3)
          clear t3 b3 hla
          obtain ⟨g, c, g2, c2, d1, d2, d3, d4, d5⟩ := HNum.out _ T3.out
          have HD5 := hideP d5
          clear d5
          go_wp2_with fail
          have h6 := HD5.out (x1 - 1)
          rw [show ((x1 - 1 : Nat) : Int) = (x1 : Int) - 1 from by omega] at h6
          have hul : (U1.set k (u.set n (x1 - 1))).length = N := by rw [List.length_set]; exact HU1N.out
          refine ⟨⟨k + 1, n, L1, _, _, _, us, rfl, by simp, h6.1, HM.out _ rfl, hul, Below.trans B3.out h6.2⟩, ?_⟩
          simp [intOf]
          omega
end
end Go.Proofs.Ytmemapfboefngaa
