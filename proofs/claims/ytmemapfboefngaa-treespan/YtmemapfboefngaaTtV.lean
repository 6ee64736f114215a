/-
  What Insert of package tree answers.
-/
import Derived.Test.YtmemapfboefngaaTtU
namespace Go.Proofs.Ytmemapfboefngaa
open Go.ChangeShapes Go.WideShapes Go.ChangeAt Go.RowKit
set_option linter.unusedVariables false
set_option linter.unusedSimpArgs false
set_option maxRecDepth 100000
set_option maxHeartbeats 8000000
namespace TK
def insE (key : ByteArray) (L : List (List Pr)) (U : List (List Int)) : Nat := if chk L U ≠ 0 then chk L U else if 40 < key.size then 2 else if isAt key (L.getD (leafOf key L) []) = true then 6 else if L.flatten.length = 64 then 2 else 0
def more (key : ByteArray) (n : Int) (r : List Pr) : List Pr := r.take (low key r) ++ ⟨key, n⟩ :: r.drop (low key r)
def insT (key : ByteArray) (n : Int) (L : List (List Pr)) (Un : List (List Nat)) : List (List Pr) × List (List Nat) := if L = [] then ([[⟨key, n⟩]], []) else TR.growT (TR.putL L (leafOf key L) (more key n (L.getD (leafOf key L) []))) Un (leafOf key L)
end TK
def InsAns (key : ByteArray) (n : Int) (L : List (List TK.Pr)) (U : List (List Int)) (B : Nat) (e : Ending) (w' : World) : Prop :=
  (TK.insE key L U ≠ 0 ∧ e = .returned (.tuple #[.agg #[.slice none 0 0, .slice none 0 0], .int .i64 ((TK.insE key L U : Nat) : Int)])) ∨
  (TK.insE key L U = 0 ∧ ∃ Un p' q', U = Un.map nI ∧ e = .returned (.tuple #[.agg #[p', q'], .int .i64 0]) ∧ Ow B w' p' q' (TK.insT key n L Un).1 (TK.insT key n L Un).2)
theorem insert_any1 (p q : Value) (L : List (List TK.Pr)) (U : List (List Int)) (key : ByteArray) (n : Int) (w : World) (h : IsT w p q L U) (hL : L.length ≤ 9223372036854775806) (hR : ∀ r ∈ L, r.length ≤ 9223372036854775806) (hS : ∀ r ∈ L, ∀ x ∈ r, x.k.size ≤ 9223372036854775806) (hU : U.length ≤ 9223372036854775806) (hUr : ∀ u ∈ U, u.length ≤ 17592186044416) (hk : key.size ≤ 9223372036854775806) (hL0 : L ≠ []) :
    Calls Try.prog 23 #[.agg #[p, q], .string key, .int .i64 n] w fun e w' => InsAns key n L U w.heap.size e w' ∧ Fr w w' := by
  have HC := hideP (fun W (f : Fr w W) => tcheck_any p q L U W (h.fr f) hL hR hS hU hUr)
  have HOk := hideP (fun (h0 : TK.chk L U = 0) => (show L.length ≤ 64 ∧ (∀ r ∈ L, r ≠ [] ∧ TK.Up r ∧ r.length ≤ 4) by
    obtain ⟨a1, _, a3, _⟩ := TK.chk_ok h0
    exact ⟨by omega, (TK.lE_up a3).2.2.1⟩))
  have HP := hideP (fun (h0 : TK.chk L U = 0) W (f : Fr w W) => by
    obtain ⟨a1, _, a3, _⟩ := TK.chk_ok h0
    have a5 := (TK.lE_up a3).2.2.1
    exact place_any p q L key W (h.l.fr f) (by obtain ⟨a, c, e⟩ := h.u.slice; exact ⟨a, _, c, e⟩) (by omega) (fun r hr => (a5 r hr).1) (fun r hr => by have := (a5 r hr).2.2; omega) (fun r hr => (a5 r hr).2.1))
  have HCh := hideP (fun (h0 : TK.chk L U = 0) W (f : Fr w W) => by
    obtain ⟨Un, a2, a3, a4, a5, a6⟩ := TK.right_of h0
    obtain ⟨b1, _, b3, _⟩ := TK.chk_ok h0
    have b5 := (TK.lE_up b3).2.2.1
    have hur : ∀ r ∈ U, r.length ≤ 100 := by
      intro r hr
      rw [a2] at hr
      obtain ⟨u, hu, rfl⟩ := List.mem_map.1 hr
      rw [nI_len]
      rcases a3 with ⟨_, e⟩ | ⟨hv, _⟩
      · rw [e] at hu; cases hu
      · have := (TR.lv_sm hv (by omega) u hu).1; omega
    exact changedOf_any p q L U W (h.fr f) (by omega) (fun r hr => by have := (b5 r hr).2.2; omega) (by rw [a2, List.length_map]; omega) hur)
  have HCo := hideP (fun (h0 : TK.chk L U = 0) W (f : Fr w W) => by
    obtain ⟨a1, _, a3, _, a5⟩ := TK.chk_ok h0
    have a6 := (TK.lE_up a3).2.2.1
    exact count_any p q L (by omega) (fun r hr => by have := (a6 r hr).2.2; omega) W (h.l.fr f) (by obtain ⟨a, c, e⟩ := h.u.slice; exact ⟨a, _, c, e⟩) (by omega))
  have HRi := hideP (fun (h0 : TK.chk L U = 0) => TK.right_of h0)
  obtain ⟨pa, pc, rfl⟩ := h.l.slice
  obtain ⟨qa, qc, rfl⟩ := h.u.slice
  have bb := Blk.new w #[.slice pa L.length pc, .slice qa U.length qc] 25
  have b2 := Blk.new (w.alloc (.cells #[.slice pa L.length pc, .slice qa U.length qc] 25)) #[.slice none 0 0, .slice none 0 0] 25
  have F0 := hideP (((Fr.refl w).alloc (.cells #[.slice pa L.length pc, .slice qa U.length qc] 25)).alloc (.cells #[.slice none 0 0, .slice none 0 0] 25))
  have HB := hideP (bb.old (.cells #[.slice none 0 0, .slice none 0 0] 25))
  rw [World.size_alloc] at b2
  have HB2 := hideP b2
  have x0 := HB.out.cell 0 (u := .slice pa L.length pc) rfl
  have x1 := HB.out.cell 1 (u := .slice qa U.length qc) rfl
  have y0 := HB2.out.cell 0 (u := .slice none 0 0) rfl
  have y1 := HB2.out.cell 1 (u := .slice none 0 0) rfl
  have y2 := HB2.out.frozen 0
  have y3 := HB2.out.frozen 1
  clear bb b2 h hR hS hUr
  generalize hW : (w.alloc (.cells #[.slice pa L.length pc, .slice qa U.length qc] 25)).alloc (.cells #[.slice none 0 0, .slice none 0 0] 25) = W0 at *
  have HE : Hid (TK.insE key L U = if TK.chk L U ≠ 0 then TK.chk L U else if 40 < key.size then 2 else if TK.isAt key (L.getD (TK.leafOf key L) []) = true then 6 else if L.flatten.length = 64 then 2 else 0) := rfl
  unfold InsAns
  generalize TK.insE key L U = de at *
  obtain ⟨z, hz⟩ : ∃ z, TK.chk L U = z := ⟨_, rfl⟩
  rw [hz] at HC HOk HP HE HCh HRi HCo
  clear hz
  go_enter Try.func23, Try.ntmps23
  go_wp2_with fail
  refine (HC.out _ F0.out).mono ?_
  rintro _ w1 ⟨rfl, f1⟩
  have F1 := hideP (F0.out.trans f1)
  have HB1 := hideP (HB.out.fr f1)
  have HB3 := hideP (HB2.out.fr f1)
  clear f1 x0 x1 y0 y1 y2 y3 hW
  have x0 := HB1.out.cell 0 (u := .slice pa L.length pc) rfl
  have x1 := HB1.out.cell 1 (u := .slice qa U.length qc) rfl
  have y0 := HB3.out.cell 0 (u := .slice none 0 0) rfl
  have y1 := HB3.out.cell 1 (u := .slice none 0 0) rfl
  have y2 := HB3.out.frozen 0
  have y3 := HB3.out.frozen 1
  have HEr := hideP (fun (W : World) (hb : Blk W (w.heap.size + 1) #[.slice none 0 0, .slice none 0 0] 25) (f : Fr w W) => (show ((W.setCell ⟨w.heap.size + 1, 0, none⟩ (.slice none 0 0)).setCell ⟨w.heap.size + 1, 1, none⟩ (.slice none 0 0)).cell? ⟨w.heap.size + 1, 0, none⟩ = some (.slice none 0 0) ∧ ((W.setCell ⟨w.heap.size + 1, 0, none⟩ (.slice none 0 0)).setCell ⟨w.heap.size + 1, 1, none⟩ (.slice none 0 0)).cell? ⟨w.heap.size + 1, 1, none⟩ = some (.slice none 0 0) ∧ Fr w ((W.setCell ⟨w.heap.size + 1, 0, none⟩ (.slice none 0 0)).setCell ⟨w.heap.size + 1, 1, none⟩ (.slice none 0 0)) from by
    have h1 := (hb.set 0 (.slice none 0 0)).set 1 (.slice none 0 0)
    exact ⟨h1.cell 0 (u := .slice none 0 0) rfl, h1.cell 1 (u := .slice none 0 0) rfl, Fr.setCell (Fr.setCell f _ 0 _ (by omega)) _ 1 _ (by omega)⟩))
  by_cases h0 : z = 0
  case neg =>
    have hE := HE.out.trans (if_pos h0)
    subst hE
    have g1 : ((de : Int) != 0) = true := by simp; omega
    have g2 : ¬ ((de : Int) = 0) := by omega
    have HH0 := hideP h0
    obtain ⟨r1, r2, r3⟩ := HEr.out _ HB3.out F1.out
    have R3 := hideP r3
    clear HP HCh HRi HOk HE HCo h0 r3
    go_wp2_with fail
    refine bodyPost_ret (v := .tuple #[.agg #[.slice none 0 0, .slice none 0 0], .int .i64 (de : Int)]) (by simp [results, Try.results23, go_sem, r1, r2]) rfl ?_
    exact ⟨.inl ⟨HH0.out, rfl⟩, R3.out⟩
  subst h0
  obtain ⟨hL6, hall⟩ := HOk.out (by trivial)
  have HAll := hideP hall
  replace HE := hideP (HE.out.trans (if_neg (by simp)))
  clear hall
  have HP2 := hideP (HP.out (by trivial))
  have HCh2 := hideP (HCh.out (by trivial))
  have HRi2 := hideP (HRi.out (by trivial))
  have HCo2 := hideP (HCo.out (by trivial))
  clear HP HCh HRi HOk HCo
  by_cases h40 : 40 < key.size
  · have hE := HE.out.trans (if_pos h40)
    subst hE
    have h40' : (40 : Int) < (key.size : Int) := by omega
    obtain ⟨r1, r2, r3⟩ := HEr.out _ HB3.out F1.out
    have R3 := hideP r3
    clear r3
    go_wp2_with fail
    refine bodyPost_ret (v := .tuple #[.agg #[.slice none 0 0, .slice none 0 0], .int .i64 2]) (by simp [results, Try.results23, go_sem, r1, r2]) rfl ?_
    exact ⟨.inl ⟨by decide, rfl⟩, R3.out⟩
  have h40' : ((40 : Int) < (key.size : Int)) = False := eq_false (by omega)
  replace HE := hideP (HE.out.trans (if_neg h40))
  clear h40
  go_wp2_with fail
  refine (HP2.out _ F1.out).mono ?_
  rintro _ w2 ⟨rfl, f2⟩
  have F2 := hideP (F1.out.trans f2)
  have HB4 := hideP (HB1.out.fr f2)
  have HB5 := hideP (HB3.out.fr f2)
  clear f2 x0 x1 y0 y1 y2 y3
  have x0 := HB4.out.cell 0 (u := .slice pa L.length pc) rfl
  have x1 := HB4.out.cell 1 (u := .slice qa U.length qc) rfl
  have y0 := HB5.out.cell 0 (u := .slice none 0 0) rfl
  have y1 := HB5.out.cell 1 (u := .slice none 0 0) rfl
  have y2 := HB5.out.frozen 0
  have y3 := HB5.out.frozen 1
  obtain ⟨lf, hlf⟩ : ∃ x, TK.leafOf key L = x := ⟨_, rfl⟩
  obtain ⟨r, hr⟩ : ∃ r, L.getD lf [] = r := ⟨_, rfl⟩
  obtain ⟨a, ha⟩ : ∃ a, TK.low key r = a := ⟨_, rfl⟩
  have HDT := hideP (show L ≠ [] → ∀ Un, TK.insT key n L Un = TR.growT (TR.putL L lf (r.take a ++ ⟨key, n⟩ :: r.drop a)) Un lf from fun hne Un => by
    unfold TK.insT TK.more
    rw [if_neg hne, hlf, hr, ha])
  have HDZ := hideP (show L = [] → ∀ Un, TK.insT key n L Un = ([[⟨key, n⟩]], []) from fun he Un => by unfold TK.insT; rw [if_pos he])
  have hal : a ≤ r.length := by rw [← ha]; exact TK.low_le key r
  have HLf := hideP (show 0 < L.length → lf < L.length from fun h => by rw [← hlf]; exact TK.leafOf_lt key h)
  rw [hlf] at HE ⊢
  rw [hr] at HE ⊢
  rw [ha]
  by_cases hfo : TK.isAt key r = true
  · have hE := HE.out.trans (if_pos hfo)
    subst hE
    rw [hfo]
    clear hfo
    obtain ⟨r1, r2, r3⟩ := HEr.out _ HB5.out F2.out
    have R3 := hideP r3
    clear r3
    go_wp2_with fail
    refine bodyPost_ret (v := .tuple #[.agg #[.slice none 0 0, .slice none 0 0], .int .i64 6]) (by simp [results, Try.results23, go_sem, r1, r2]) rfl ?_
    exact ⟨.inl ⟨by decide, rfl⟩, R3.out⟩
  have hff : TK.isAt key r = false := by simpa using hfo
  replace HE := hideP (HE.out.trans (if_neg hfo))
  rw [hff]
  clear hff hfo
  go_wp2_with fail
  refine (HCo2.out _ F2.out).mono ?_
  rintro _ w2b ⟨rfl, f2b⟩
  have F2b := hideP (F2.out.trans f2b)
  have HB4b := hideP (HB4.out.fr f2b)
  have HB5b := hideP (HB5.out.fr f2b)
  clear f2b x0 x1 y0 y1 y2 y3
  have x0 := HB4b.out.cell 0 (u := .slice pa L.length pc) rfl
  have x1 := HB4b.out.cell 1 (u := .slice qa U.length qc) rfl
  have y0 := HB5b.out.cell 0 (u := .slice none 0 0) rfl
  have y1 := HB5b.out.cell 1 (u := .slice none 0 0) rfl
  have y2 := HB5b.out.frozen 0
  have y3 := HB5b.out.frozen 1
  by_cases h64 : L.flatten.length = 64
  · have hE := HE.out.trans (if_pos h64)
    subst hE
    rw [h64]
    clear h64
    obtain ⟨r1, r2, r3⟩ := HEr.out _ HB5b.out F2b.out
    have R3 := hideP r3
    clear r3
    go_wp2_with fail
    refine bodyPost_ret (v := .tuple #[.agg #[.slice none 0 0, .slice none 0 0], .int .i64 2]) (by simp [results, Try.results23, go_sem, r1, r2]) rfl ?_
    exact ⟨.inl ⟨by decide, rfl⟩, R3.out⟩
  have hE := HE.out.trans (if_neg h64)
  subst hE
  have h64q : (((L.flatten.length : Nat) : Int) == 64) = false := beq_eq_false_iff_ne.2 (by omega)
  have h64r : ¬ (((L.flatten.length : Nat) : Int) = 64) := by omega
  have hLp : 0 < L.length := by
    rcases Nat.eq_zero_or_pos L.length with h | h
    · exact absurd (List.length_eq_zero_iff.1 h) hL0
    · exact h
  have hlf2 := HLf.out hLp
  have hrl : L[lf] = r := by rw [← hr, getD_get hlf2]
  have hr4 : r.length ≤ 4 := by rw [← hrl]; exact (HAll.out _ (List.getElem_mem hlf2)).2.2
  obtain ⟨Un, hUn, hRt, hUn8, hL64, _⟩ := HRi2.out
  have hll : (r.take a ++ (⟨key, n⟩ : TK.Pr) :: r.drop a).length = (L.getD lf []).length + 1 := by
    rw [hr, List.length_append, List.length_take, List.length_cons, List.length_drop]; omega
  have HGI := hideP (TR.gi_first hRt (by omega) hUn8 hlf2 hll)
  have HUn := hideP hUn
  have HFin := hideP (HDT.out hL0 Un)
  obtain ⟨l', hl'⟩ : ∃ l', r.take a ++ (⟨key, n⟩ : TK.Pr) :: r.drop a = l' := ⟨_, rfl⟩
  rw [hl'] at HGI HFin hll
  have hl4 : l'.length = r.length + 1 := by rw [hr] at hll; exact hll
  clear HE hUn hRt h64 HDT HDZ HLf
  generalize L.flatten.length = nfl at *
  go_wp2_with fail
  refine (HCh2.out _ F2b.out).mono ?_
  rintro _ w3 ⟨Bc, p3, q3, qs, rs, rfl, hTm, f3⟩
  have hT3 := hTm.tr HUn.out
  have F3 := hideP (F2b.out.trans f3)
  have HB6 := hideP (HB5b.out.fr f3)
  have hsz3 := f3.size
  have HSz3 := hideP (show w2b.heap.size ≤ w3.heap.size from hsz3)
  clear hTm f3 x0 x1 y0 y1 y2 y3 h64q h64r
  have HT3 := hideP hT3
  obtain ⟨g, c, sq, d1, d2, d3, d4, d5, d6, d7⟩ := hT3.leaf lf hlf2
  rw [hrl] at d3 d4
  have hsv := Sq.eta d3
  rw [hsv] at d2 d4 d6 d7
  have hobn : (Value.slice sq.a r.length sq.c).ownBlock ≠ some w3.heap.size := fun e => by
    have := (d4.lt _ e).2
    omega
  have HIn := hideP (fun (W : World) (f : Fr w3 W) (hb : Blk W w3.heap.size #[.string key, .int .i64 n] 38) => insertP_any (.slice sq.a r.length sq.c) r a ⟨key, n⟩ w2b.heap.size w3.heap.size W (own_fr d4 f) (Nat.le_trans hsz3 f.size) hal (by omega) hb hobn (Value.slice sq.a r.length sq.c).ownBlock rfl)
  rw [hl'] at HIn
  have HD6 := hideP d6
  have HD7 := hideP d7
  have HS1 := hideP (show w3.cell? ⟨Bc, 0, none⟩ = some (.slice (some ⟨g, 0, none⟩) L.length c) ∧ w3.cell? ⟨g, lf, none⟩ = some (.slice sq.a r.length sq.c) from ⟨d1, d2⟩)
  have hz : Fr w3 w3.drew := Fr.drew (Fr.refl w3)
  have hzA : Fr w3 ((w3.alloc (.cells #[.string key, .int .i64 n] 38)).drew) := Fr.drew ((Fr.refl w3).alloc _)
  obtain ⟨v1, v2⟩ := c2_after hzA HS1.out
  have HIn2 := hideP (HIn.out _ hzA (Blk.new w3 _ _))
  have hlfI : (lf : Int) < (L.length : Int) := by omega
  have hLq : (((L.length : Nat) : Int) == 0) = false := beq_eq_false_iff_ne.2 (by omega)
  have hLr : ¬ (((L.length : Nat) : Int) = 0) := by omega
  have hw0 : IntKind.i64.wrap (lf : Int) = (lf : Int) := by rw [IntKind.wrap_i64]; omega
  have hlf64 : lf ≤ 64 := by omega
  have hr5 := hr4
  clear d3 d4 d6 d7 hT3 hsv hrl hr ha hlf hl' HIn hobn
  go_wp2_with fail
  go_region_with (first
    | (go_at_call 38; refine HIn2.out.mono ?_; rintro _ w4 ⟨v4, rfl, hO4, hG4, hL4⟩; obtain ⟨a4, c4, rfl⟩ := own_slice hO4; obtain ⟨e1, e2, e3⟩ := HD6.out _ _ hzA hG4))
  all_goals (
    have h7 := HD7.out _ w4 ⟨a4, r.length + 1, c4⟩ l' hzA hG4 (by rw [hl4]; exact hO4) hL4
    have T4 := hideP h7.1
    have B4 := hideP h7.2
    clear hO4 hG4 hL4 h7 e1 e2 e3 v1 v2
    go_wp2_with fail
    refine (grown_any T4.out (below_ge B4.out HSz3.out) lf HGI.out).mono ?_
    rintro _ w5 ⟨rfl, t5, b5⟩
    rw [← HFin.out] at t5
    obtain ⟨pa5, pn5, pc5, qa5, qn5, qc5, x5, x6, ho5⟩ := t5.read
    have F5 := hideP (show Fr w w5 from Below.trans F3.out (Below.mono (Below.trans B4.out b5) F2b.out.size))
    have HB7 := hideP (show Blk w5 (w.heap.size + 1) #[.slice none 0 0, .slice none 0 0] 25 by
      have hlt := HB5b.out.lt
      exact ((Below.trans B4.out b5).block _ hlt).trans HB6.out)
    have y0 := HB7.out.cell 0 (u := .slice none 0 0) rfl
    have y1 := HB7.out.cell 1 (u := .slice none 0 0) rfl
    have y2 := HB7.out.frozen 0
    have y3 := HB7.out.frozen 1
    have HO5 := hideP ho5
    have hr1 := (HB7.out.set 0 (.slice pa5 pn5 pc5)).set 1 (.slice qa5 qn5 qc5)
    have r1 := hr1.cell 0 (u := .slice pa5 pn5 pc5) rfl
    have r2 := hr1.cell 1 (u := .slice qa5 qn5 qc5) rfl
    have HR3 := hideP (show Fr w ((w5.setCell ⟨w.heap.size + 1, 0, none⟩ (.slice pa5 pn5 pc5)).setCell ⟨w.heap.size + 1, 1, none⟩ (.slice qa5 qn5 qc5)) from Fr.setCell (Fr.setCell F5.out _ 0 _ (by omega)) _ 1 _ (by omega))
    clear t5 b5 ho5 hr1
    go_wp2_with fail
    refine bodyPost_ret (v := .tuple #[.agg #[.slice pa5 pn5 pc5, .slice qa5 qn5 qc5], .int .i64 0]) (by simp [results, Try.results23, go_sem, r1, r2]) rfl ?_
    have hfin := ((HO5.out.set (i := 0) (u := .slice pa5 pn5 pc5) HB7.out).set (i := 1) (u := .slice qa5 qn5 qc5) (HB7.out.set 0 (.slice pa5 pn5 pc5))).low F2b.out.size
    first
      | exact ⟨.inr ⟨rfl, Un, _, _, HUn.out, rfl, hfin⟩, HR3.out⟩
      | exact ⟨⟨Un, HUn.out, _, _, rfl, hfin⟩, HR3.out⟩)
end Go.Proofs.Ytmemapfboefngaa
