/-
  What Delete of package tree answers.
-/
import Derived.Test.YtmemapfboefngaaGtJ
namespace Go.Proofs.Ytmemapfboefngaa
open Go.ChangeShapes Go.WideShapes Go.ChangeAt Go.RowKit
set_option linter.unusedVariables false
set_option linter.unusedSimpArgs false
set_option maxRecDepth 100000
set_option maxHeartbeats 4000000
namespace TK
def delE (key : ByteArray) (L : List (List Pr)) (U : List (List Int)) : Nat := if chk L U ≠ 0 then chk L U else if isAt key (L.getD (leafOf key L) []) = false then 5 else 0
def less (key : ByteArray) (r : List Pr) : List Pr := r.take (low key r) ++ r.drop (low key r + 1)
def delT (key : ByteArray) (L : List (List Pr)) (Un : List (List Nat)) : List (List Pr) × List (List Nat) := TR.shrinkT (TR.putL L (leafOf key L) (less key (L.getD (leafOf key L) []))) Un (leafOf key L)
theorem isAt_lt {key : ByteArray} {r : List Pr} (h : isAt key r = true) : low key r < r.length := by
  unfold isAt at h
  cases e : r[low key r]? with
  | none => rw [e] at h; cases h
  | some p => exact (List.getElem?_eq_some_iff.1 e).1
end TK
/-- a tree of the call's own -/
def Ow (B : Nat) (w : World) (p q : Value) (L : List (List TK.Pr)) (U : List (List Nat)) : Prop := ∃ zs ys, OP cdPr 38 28 B w p zs ∧ OP cdZ 3 53 B w q ys ∧ zs.map Prod.snd = L ∧ ys.map Prod.snd = U.map nI
def DelAns (key : ByteArray) (L : List (List TK.Pr)) (U : List (List Int)) (B : Nat) (e : Ending) (w' : World) : Prop :=
  (TK.delE key L U ≠ 0 ∧ e = .returned (.tuple #[.agg #[.slice none 0 0, .slice none 0 0], .int .i64 ((TK.delE key L U : Nat) : Int)])) ∨
  (TK.delE key L U = 0 ∧ ∃ Un p' q', U = Un.map nI ∧ e = .returned (.tuple #[.agg #[p', q'], .int .i64 0]) ∧ Ow B w' p' q' (TK.delT key L Un).1 (TK.delT key L Un).2)
theorem Tr.read {B : Nat} {w : World} {Bc : Nat} {L : List (List TK.Pr)} {U : List (List Nat)} (h : Tr B w Bc L U) : ∃ pa pn pc qa qn qc, w.cell? ⟨Bc, 0, none⟩ = some (.slice pa pn pc) ∧ w.cell? ⟨Bc, 1, none⟩ = some (.slice qa qn qc) ∧ Ow B w (.slice pa pn pc) (.slice qa qn qc) L U := by
  obtain ⟨p, q, zs, ys, h1, h2, h3⟩ := h
  obtain ⟨pa, pn, pc, rfl⟩ := own_slice' h1.l.own
  obtain ⟨qa, qn, qc, rfl⟩ := own_slice' h1.u.own
  exact ⟨_, _, _, _, _, _, h1.box.cell 0 rfl, h1.box.cell 1 rfl, zs, ys, h1.l, h1.u, h2, h3⟩
theorem OP.low {α : Type} {E : Cd α} {T Ts : TypeId} {A B : Nat} {w : World} {v : Value} {zs : List (Sq × List α)} (h : OP E T Ts B w v zs) (hA : A ≤ B) : OP E T Ts A w v zs := ⟨own_low h.own hA, fun z hz => own_low (h.row z hz) hA, h.ap⟩
theorem Ow.low {A B : Nat} {w : World} {p q : Value} {L : List (List TK.Pr)} {U : List (List Nat)} (h : Ow B w p q L U) (hA : A ≤ B) : Ow A w p q L U := by
  obtain ⟨zs, ys, h1, h2, h3⟩ := h
  exact ⟨zs, ys, h1.low hA, h2.low hA, h3⟩
theorem Ow.fr {B : Nat} {w w' : World} {p q : Value} {L : List (List TK.Pr)} {U : List (List Nat)} (h : Ow B w p q L U) (f : Fr w w') : Ow B w' p q L U := by
  obtain ⟨zs, ys, h1, h2, h3⟩ := h
  exact ⟨zs, ys, h1.fr f, h2.fr f, h3⟩
theorem Ow.set {B b i : Nat} {w : World} {p q u : Value} {arr : Array Value} {L : List (List TK.Pr)} {U : List (List Nat)} (h : Ow B w p q L U) (hb : Blk w b arr 25) : Ow B (w.setCell ⟨b, i, none⟩ u) p q L U := by
  obtain ⟨zs, ys, h1, h2, h3⟩ := h
  have hs := grownBy_setCell w b i u
  have hty : ∀ g, some b = some g → ∃ cur, w.heap[g]? = some (.cells cur 25 (0, 0)) := fun g e => by cases e; exact ⟨_, hb⟩
  exact ⟨zs, ys, h1.grownT (T' := 25) (by decide) (by decide) hty hs, h2.grownT (T' := 25) (by decide) (by decide) hty hs, h3⟩
theorem Tm.tr {B : Nat} {w : World} {Bc : Nat} {p q : Value} {qs rs : List Sq} {L : List (List TK.Pr)} {U : List (List Int)} (h : Tm B w Bc p q qs rs L U) {Un : List (List Nat)} (hU : U = Un.map nI) : Tr B w Bc L Un := by
  obtain ⟨a1, a2⟩ := h.l.op
  obtain ⟨b1, b2⟩ := h.u.op
  exact ⟨p, q, _, _, ⟨h.box, h.base, a1, b1⟩, a2, by rw [b2, hU]⟩
theorem Sq.eta {s : Sq} {n : Nat} (h : s.n = n) : s.v = .slice s.a n s.c := by subst h; rfl
theorem delete_any (p q : Value) (L : List (List TK.Pr)) (U : List (List Int)) (key : ByteArray) (w : World) (h : IsT w p q L U) (hL : L.length ≤ 9223372036854775806) (hR : ∀ r ∈ L, r.length ≤ 9223372036854775806) (hS : ∀ r ∈ L, ∀ x ∈ r, x.k.size ≤ 9223372036854775806) (hU : U.length ≤ 9223372036854775806) (hUr : ∀ u ∈ U, u.length ≤ 17592186044416) :
    Calls Try.prog 26 #[.agg #[p, q], .string key] w fun e w' => DelAns key L U w.heap.size e w' ∧ Fr w w' := by
  have HC := hideP (fun W (f : Fr w W) => tcheck_any p q L U W (h.fr f) hL hR hS hU hUr)
  have HOk := hideP (fun (h0 : TK.chk L U = 0) => (show L.length ≤ 64 ∧ (∀ r ∈ L, r ≠ [] ∧ TK.Up r ∧ r.length ≤ 4) by
    obtain ⟨a1, _, a3, _⟩ := TK.chk_ok h0
    exact ⟨by omega, (TK.lE_up a3).2.2.1⟩))
  have HP := hideP (fun (h0 : TK.chk L U = 0) W (f : Fr w W) => by
    obtain ⟨a1, _, a3, _⟩ := TK.chk_ok h0
    have a5 := (TK.lE_up a3).2.2.1
    exact place_any p q L key W (h.l.fr f) (by obtain ⟨a, c, e⟩ := h.u.slice; exact ⟨a, _, c, e⟩) (by omega) (fun r hr => (a5 r hr).1) (fun r hr => by have := (a5 r hr).2.2; omega) (fun r hr => (a5 r hr).2.1))
  have HCh := hideP (fun (h0 : TK.chk L U = 0) W (f : Fr w W) => by
    obtain ⟨Un, a2, a3, a4, a5, a6⟩ := TK.right_of h0
    obtain ⟨b1, _, b3, _⟩ := TK.chk_ok h0
    have b5 := (TK.lE_up b3).2.2.1
    have hur : ∀ r ∈ U, r.length ≤ 100 := by
      intro r hr
      rw [a2] at hr
      obtain ⟨u, hu, rfl⟩ := List.mem_map.1 hr
      rw [nI_len]
      rcases a3 with ⟨_, e⟩ | ⟨hv, _⟩
      · rw [e] at hu; cases hu
      · have := (TR.lv_sm hv (by omega) u hu).1; omega
    exact changedOf_any p q L U W (h.fr f) (by omega) (fun r hr => by have := (b5 r hr).2.2; omega) (by rw [a2, List.length_map]; omega) hur)
  have HRi := hideP (fun (h0 : TK.chk L U = 0) => TK.right_of h0)
  obtain ⟨pa, pc, rfl⟩ := h.l.slice
  obtain ⟨qa, qc, rfl⟩ := h.u.slice
  have bb := Blk.new w #[.slice pa L.length pc, .slice qa U.length qc] 25
  have b2 := Blk.new (w.alloc (.cells #[.slice pa L.length pc, .slice qa U.length qc] 25)) #[.slice none 0 0, .slice none 0 0] 25
  have F0 := hideP (((Fr.refl w).alloc (.cells #[.slice pa L.length pc, .slice qa U.length qc] 25)).alloc (.cells #[.slice none 0 0, .slice none 0 0] 25))
  have HB := hideP (bb.old (.cells #[.slice none 0 0, .slice none 0 0] 25))
  rw [World.size_alloc] at b2
  have HB2 := hideP b2
  have x0 := HB.out.cell 0 (u := .slice pa L.length pc) rfl
  have x1 := HB.out.cell 1 (u := .slice qa U.length qc) rfl
  have y0 := HB2.out.cell 0 (u := .slice none 0 0) rfl
  have y1 := HB2.out.cell 1 (u := .slice none 0 0) rfl
  have y2 := HB2.out.frozen 0
  have y3 := HB2.out.frozen 1
  clear bb b2 h hR hS hUr
  generalize hW : (w.alloc (.cells #[.slice pa L.length pc, .slice qa U.length qc] 25)).alloc (.cells #[.slice none 0 0, .slice none 0 0] 25) = W0 at *
  have HE : Hid (TK.delE key L U = if TK.chk L U ≠ 0 then TK.chk L U else if TK.isAt key (L.getD (TK.leafOf key L) []) = false then 5 else 0) := rfl
  unfold DelAns
  generalize TK.delE key L U = de at *
  obtain ⟨z, hz⟩ : ∃ z, TK.chk L U = z := ⟨_, rfl⟩
  rw [hz] at HC HOk HP HE HCh HRi
  clear hz
  go_enter Try.func26, Try.ntmps26
  go_wp2_with fail
  refine (HC.out _ F0.out).mono ?_
  rintro _ w1 ⟨rfl, f1⟩
  have F1 := hideP (F0.out.trans f1)
  have HB1 := hideP (HB.out.fr f1)
  have HB3 := hideP (HB2.out.fr f1)
  clear f1 x0 x1 y0 y1 y2 y3 hW
  have x0 := HB1.out.cell 0 (u := .slice pa L.length pc) rfl
  have x1 := HB1.out.cell 1 (u := .slice qa U.length qc) rfl
  have y0 := HB3.out.cell 0 (u := .slice none 0 0) rfl
  have y1 := HB3.out.cell 1 (u := .slice none 0 0) rfl
  have y2 := HB3.out.frozen 0
  have y3 := HB3.out.frozen 1
  have HEr := hideP (fun (W : World) (hb : Blk W (w.heap.size + 1) #[.slice none 0 0, .slice none 0 0] 25) (f : Fr w W) => (show ((W.setCell ⟨w.heap.size + 1, 0, none⟩ (.slice none 0 0)).setCell ⟨w.heap.size + 1, 1, none⟩ (.slice none 0 0)).cell? ⟨w.heap.size + 1, 0, none⟩ = some (.slice none 0 0) ∧ ((W.setCell ⟨w.heap.size + 1, 0, none⟩ (.slice none 0 0)).setCell ⟨w.heap.size + 1, 1, none⟩ (.slice none 0 0)).cell? ⟨w.heap.size + 1, 1, none⟩ = some (.slice none 0 0) ∧ Fr w ((W.setCell ⟨w.heap.size + 1, 0, none⟩ (.slice none 0 0)).setCell ⟨w.heap.size + 1, 1, none⟩ (.slice none 0 0)) from by
    have h1 := (hb.set 0 (.slice none 0 0)).set 1 (.slice none 0 0)
    exact ⟨h1.cell 0 (u := .slice none 0 0) rfl, h1.cell 1 (u := .slice none 0 0) rfl, Fr.setCell (Fr.setCell f _ 0 _ (by omega)) _ 1 _ (by omega)⟩))
  by_cases h0 : z = 0
  case neg =>
    have hE := HE.out.trans (if_pos h0)
    subst hE
    have g1 : ((de : Int) != 0) = true := by simp; omega
    have g2 : ¬ ((de : Int) = 0) := by omega
    have HH0 := hideP h0
    obtain ⟨r1, r2, r3⟩ := HEr.out _ HB3.out F1.out
    have R3 := hideP r3
    clear HP HCh HRi HOk HE h0 r3
    go_wp2_with fail
    refine bodyPost_ret (v := .tuple #[.agg #[.slice none 0 0, .slice none 0 0], .int .i64 (de : Int)]) (by simp [results, Try.results26, go_sem, r1, r2]) rfl ?_
    exact ⟨.inl ⟨HH0.out, rfl⟩, R3.out⟩
  subst h0
  obtain ⟨hL6, hall⟩ := HOk.out (by trivial)
  have HAll := hideP hall
  replace HE := hideP (HE.out.trans (if_neg (by simp)))
  clear hall
  have HP2 := hideP (HP.out (by trivial))
  have HCh2 := hideP (HCh.out (by trivial))
  have HRi2 := hideP (HRi.out (by trivial))
  clear HP HCh HRi HOk
  go_wp2_with fail
  refine (HP2.out _ F1.out).mono ?_
  rintro _ w2 ⟨rfl, f2⟩
  have F2 := hideP (F1.out.trans f2)
  have HB4 := hideP (HB1.out.fr f2)
  have HB5 := hideP (HB3.out.fr f2)
  clear f2 x0 x1 y0 y1 y2 y3
  have x0 := HB4.out.cell 0 (u := .slice pa L.length pc) rfl
  have x1 := HB4.out.cell 1 (u := .slice qa U.length qc) rfl
  have y0 := HB5.out.cell 0 (u := .slice none 0 0) rfl
  have y1 := HB5.out.cell 1 (u := .slice none 0 0) rfl
  have y2 := HB5.out.frozen 0
  have y3 := HB5.out.frozen 1
  obtain ⟨lf, hlf⟩ : ∃ x, TK.leafOf key L = x := ⟨_, rfl⟩
  obtain ⟨r, hr⟩ : ∃ r, L.getD lf [] = r := ⟨_, rfl⟩
  obtain ⟨a, ha⟩ : ∃ a, TK.low key r = a := ⟨_, rfl⟩
  have HDT := hideP (show ∀ Un, TK.delT key L Un = TR.shrinkT (TR.putL L lf (r.take a ++ r.drop (a + 1))) Un lf from fun Un => by
    unfold TK.delT TK.less
    rw [hlf, hr, ha])
  generalize hdt : (fun Un => TK.delT key L Un) = DT at *
  rw [hlf] at HE ⊢
  rw [hr] at HE ⊢
  by_cases hfo : TK.isAt key r = true
  case neg =>
    have hff : TK.isAt key r = false := by simpa using hfo
    have hE := HE.out.trans (if_pos hff)
    subst hE
    rw [hff]
    obtain ⟨r1, r2, r3⟩ := HEr.out _ HB5.out F2.out
    have R3 := hideP r3
    clear hfo hff r3 hdt HDT
    generalize TK.low key r = lw at *
    go_wp2_with fail
    refine bodyPost_ret (v := .tuple #[.agg #[.slice none 0 0, .slice none 0 0], .int .i64 5]) (by simp [results, Try.results26, go_sem, r1, r2]) rfl ?_
    exact ⟨.inl ⟨by decide, rfl⟩, R3.out⟩
  have hE := HE.out.trans (if_neg (by rw [hfo]; decide))
  subst hE
  rw [hfo]
  have hlow := TK.isAt_lt hfo
  rw [ha] at hlow
  have hlf2 : lf < L.length := by
    rcases Nat.lt_or_ge lf L.length with h | h
    · exact h
    · rw [List.getD_eq_getElem?_getD, List.getElem?_eq_none h] at hr
      subst hr
      simp at hlow
  have hrl : L[lf] = r := by rw [← hr, getD_get hlf2]
  have hr4 : r.length ≤ 4 := by rw [← hrl]; exact (HAll.out _ (List.getElem_mem hlf2)).2.2
  rw [ha]
  obtain ⟨Un, hUn, hRt, hUn8, hL64, _⟩ := HRi2.out
  have hll : (r.take a ++ r.drop (a + 1)).length + 1 = (L.getD lf []).length := by
    rw [hr, List.length_append, List.length_take, List.length_drop]; omega
  have HSI := hideP (TR.si_first hRt (by omega) hUn8 hlf2 hll)
  have HUn := hideP hUn
  have HDT2 := hideP (HDT.out Un)
  obtain ⟨l', hl'⟩ : ∃ l', r.take a ++ r.drop (a + 1) = l' := ⟨_, rfl⟩
  rw [hl'] at HSI HDT2 hll
  have hl4 : l'.length = r.length - 1 := by rw [hr] at hll; omega
  have HFin := hideP (show TK.delT key L Un = TR.fT (TR.shrinkL (TR.putL L lf l') Un lf) (TR.shrink (TR.sz (TR.putL L lf l')) Un lf).2 from by
    rw [HDT2.out, HSI.out.2])
  clear hdt HDT HE hUn hRt hfo
  go_wp2_with fail
  refine (HCh2.out _ F2.out).mono ?_
  rintro _ w3 ⟨Bc, p3, q3, qs, rs, rfl, hTm, f3⟩
  have hT3 := hTm.tr HUn.out
  have F3 := hideP (F2.out.trans f3)
  have HB6 := hideP (HB5.out.fr f3)
  have hsz3 := f3.size
  have HSz3 := hideP (show w2.heap.size ≤ w3.heap.size from hsz3)
  clear hTm f3 x0 x1 y0 y1 y2 y3
  have HT3 := hideP hT3
  obtain ⟨g, c, sq, d1, d2, d3, d4, d5, d6, d7⟩ := hT3.leaf lf hlf2
  rw [hrl] at d3 d4
  have hsv := Sq.eta d3
  rw [hsv] at d2 d4 d6 d7
  have HDl := hideP (fun (W : World) (f : Fr w3 W) => deleteP_any (.slice sq.a r.length sq.c) r a w2.heap.size W (own_fr d4 f) (Nat.le_trans hsz3 f.size) hlow (by omega) (Value.slice sq.a r.length sq.c).ownBlock rfl)
  rw [hl'] at HDl
  have HD6 := hideP d6
  have HD7 := hideP d7
  have HS1 := hideP (show _ ∧ _ from ⟨d1, d2⟩)
  have hz : Fr w3 w3.drew := Fr.drew (Fr.refl w3)
  have hlfI : (lf : Int) < (L.length : Int) := by omega
  have hw0 : IntKind.i64.wrap (lf : Int) = (lf : Int) := by rw [IntKind.wrap_i64]; omega
  have hw1 : IntKind.i64.wrap ((a : Int) + 1) = (a : Int) + 1 := by rw [IntKind.wrap_i64]; omega
  clear d3 d4 d6 d7 hT3 hsv hrl hr ha hlf hl'
  go_wp2_with fail
  go_region_with (first
    | (go_at_call 44; refine (HDl.out _ hz).mono ?_; rintro _ w4 ⟨v4, rfl, hO4, hG4, hL4⟩; obtain ⟨a4, c4, rfl⟩ := own_slice hO4; obtain ⟨e1, e2, e3⟩ := HD6.out _ _ hz hG4))
  all_goals (
    have h7 := HD7.out _ w4 ⟨a4, r.length - 1, c4⟩ l' hz hG4 (by rw [hl4]; exact hO4) hL4
    have T4 := hideP h7.1
    have B4 := hideP h7.2
    clear hO4 hG4 hL4 h7 e1 e2 e3
    go_wp2_with fail
    refine (shrunk_any T4.out (below_ge B4.out HSz3.out) lf HSI.out.1).mono ?_
    rintro _ w5 ⟨rfl, t5, b5⟩
    rw [← HFin.out] at t5
    obtain ⟨pa5, pn5, pc5, qa5, qn5, qc5, x5, x6, ho5⟩ := t5.read
    have F5 := hideP (show Fr w w5 from Below.trans F3.out (Below.mono (Below.trans B4.out b5) F2.out.size))
    have HB7 := hideP (show Blk w5 (w.heap.size + 1) #[.slice none 0 0, .slice none 0 0] 25 by
      have hlt := HB5.out.lt
      exact ((Below.trans B4.out b5).block _ hlt).trans HB6.out)
    have y0 := HB7.out.cell 0 (u := .slice none 0 0) rfl
    have y1 := HB7.out.cell 1 (u := .slice none 0 0) rfl
    have y2 := HB7.out.frozen 0
    have y3 := HB7.out.frozen 1
    have HO5 := hideP ho5
    have hr1 := (HB7.out.set 0 (.slice pa5 pn5 pc5)).set 1 (.slice qa5 qn5 qc5)
    have r1 := hr1.cell 0 (u := .slice pa5 pn5 pc5) rfl
    have r2 := hr1.cell 1 (u := .slice qa5 qn5 qc5) rfl
    have HR3 := hideP (show Fr w ((w5.setCell ⟨w.heap.size + 1, 0, none⟩ (.slice pa5 pn5 pc5)).setCell ⟨w.heap.size + 1, 1, none⟩ (.slice qa5 qn5 qc5)) from Fr.setCell (Fr.setCell F5.out _ 0 _ (by omega)) _ 1 _ (by omega))
    clear t5 b5 ho5 hr1
    go_wp2_with fail
    refine bodyPost_ret (v := .tuple #[.agg #[.slice pa5 pn5 pc5, .slice qa5 qn5 qc5], .int .i64 0]) (by simp [results, Try.results26, go_sem, r1, r2]) rfl ?_
    have hfin := ((HO5.out.set (i := 0) (u := .slice pa5 pn5 pc5) HB7.out).set (i := 1) (u := .slice qa5 qn5 qc5) (HB7.out.set 0 (.slice pa5 pn5 pc5))).low F2.out.size
    first
      | exact ⟨.inr ⟨rfl, Un, _, _, HUn.out, rfl, hfin⟩, HR3.out⟩
      | exact ⟨⟨Un, HUn.out, _, _, rfl, hfin⟩, HR3.out⟩)
end Go.Proofs.Ytmemapfboefngaa
