/-
  What Insert of package tree answers where the tree has no leaf. Written by gTtW.py out of TtV.
-/
import Derived.Test.YtmemapfboefngaaTtV
namespace Go.Proofs.Ytmemapfboefngaa
open Go.ChangeShapes Go.WideShapes Go.ChangeAt Go.RowKit
set_option linter.unusedVariables false
set_option linter.unusedSimpArgs false
set_option maxRecDepth 100000
set_option maxHeartbeats 8000000
theorem make_leaf (W : World) : (Instr.makeSlice 22 (.int .i64 1) (.int .i64 1)).run Try.prog W = .ok (.slice (some ⟨W.heap.size, 0, none⟩) 1 1) (W.alloc (.cells #[.slice none 0 0] 28)) := by
  obtain ⟨i0, hi0, hz0, hz1, hz2⟩ := info_parts Try.infoPs
  have hr := run_make (P := Try.prog) W 22 28 i0 _ Try.underlying22 hi0 hz0 .i64 .i64 1 1 (by omega) (by omega) (by rw [hz2]; omega) (by omega)
  rw [hz1] at hr
  have e : madeCells (Value.slice none 0 0).cells (Int.toNat 1 * 1) = #[.slice none 0 0] := by kernel_rfl
  rw [e] at hr
  exact hr
theorem no_lv0 : ∀ U : List (List Nat), ¬ TR.Lv 0 U
  | [], h => by cases h
  | u :: us, h => by
    obtain ⟨h1, h2, h3⟩ := h
    have e : u = [] := by
      cases u with
      | nil => rfl
      | cons x t =>
        have := (h2 x (by simp)).1
        simp at h1
        omega
    subst e
    exact no_lv0 us h3
section
variable {B : Nat} {w w' : World} {Bc : Nat} {U : List (List Nat)}
theorem Tr.first (h : Tr B w Bc [] U) (hB : B ≤ w.heap.size) : Tr B ((w.alloc (.cells #[.slice none 0 0] 28)).setCell ⟨Bc, 0, none⟩ (.slice (some ⟨w.heap.size, 0, none⟩) 1 1)) Bc [[]] U ∧ Below B w ((w.alloc (.cells #[.slice none 0 0] 28)).setCell ⟨Bc, 0, none⟩ (.slice (some ⟨w.heap.size, 0, none⟩) 1 1)) := by
  obtain ⟨p, q, zs, ys, h1, h2, h3⟩ := h
  have f : Fr w (w.alloc (.cells #[.slice none 0 0] 28)) := (Fr.refl w).alloc _
  have hn := h1.fr f
  have ho : OP cdPr 38 28 B (w.alloc (.cells #[.slice none 0 0] 28)) (.slice (some ⟨w.heap.size, 0, none⟩) 1 1) [(⟨none, 0, 0⟩, [])] := by
    refine ⟨?_, fun z hz => ?_, List.pairwise_singleton _ _⟩
    · exact ⟨rfl, .inr ⟨w.heap.size, 1, #[.slice none 0 0], rfl, hB, heap_alloc_new w _, Nat.le_refl _, by decide, rfl, rfl⟩⟩
    · simp only [List.mem_singleton] at hz
      subst hz
      exact World.ownsRow_nil _ _ _ _
  have := hn.setL ho
  exact ⟨⟨_, _, _, _, this.1, rfl, h3⟩, Below.trans (Below.mono f hB) this.2⟩
end
theorem insert_any0 (p q : Value) (L : List (List TK.Pr)) (U : List (List Int)) (key : ByteArray) (n : Int) (w : World) (h : IsT w p q L U) (hL : L.length ≤ 9223372036854775806) (hR : ∀ r ∈ L, r.length ≤ 9223372036854775806) (hS : ∀ r ∈ L, ∀ x ∈ r, x.k.size ≤ 9223372036854775806) (hU : U.length ≤ 9223372036854775806) (hUr : ∀ u ∈ U, u.length ≤ 17592186044416) (hk : key.size ≤ 9223372036854775806) (hL0 : L = []) :
    Calls Try.prog 23 #[.agg #[p, q], .string key, .int .i64 n] w fun e w' => InsAns key n L U w.heap.size e w' ∧ Fr w w' := by
  have HL0 := hideP hL0
  clear hL0
  have HC := hideP (fun W (f : Fr w W) => tcheck_any p q L U W (h.fr f) hL hR hS hU hUr)
  have HOk := hideP (fun (h0 : TK.chk L U = 0) => (show L.length ≤ 64 ∧ (∀ r ∈ L, r ≠ [] ∧ TK.Up r ∧ r.length ≤ 4) by
    obtain ⟨a1, _, a3, _⟩ := TK.chk_ok h0
    exact ⟨by omega, (TK.lE_up a3).2.2.1⟩))
  have HP := hideP (fun (h0 : TK.chk L U = 0) W (f : Fr w W) => by
    obtain ⟨a1, _, a3, _⟩ := TK.chk_ok h0
    have a5 := (TK.lE_up a3).2.2.1
    exact place_any p q L key W (h.l.fr f) (by obtain ⟨a, c, e⟩ := h.u.slice; exact ⟨a, _, c, e⟩) (by omega) (fun r hr => (a5 r hr).1) (fun r hr => by have := (a5 r hr).2.2; omega) (fun r hr => (a5 r hr).2.1))
  have HCh := hideP (fun (h0 : TK.chk L U = 0) W (f : Fr w W) => by
    obtain ⟨Un, a2, a3, a4, a5, a6⟩ := TK.right_of h0
    obtain ⟨b1, _, b3, _⟩ := TK.chk_ok h0
    have b5 := (TK.lE_up b3).2.2.1
    have hur : ∀ r ∈ U, r.length ≤ 100 := by
      intro r hr
      rw [a2] at hr
      obtain ⟨u, hu, rfl⟩ := List.mem_map.1 hr
      rw [nI_len]
      rcases a3 with ⟨_, e⟩ | ⟨hv, _⟩
      · rw [e] at hu; cases hu
      · have := (TR.lv_sm hv (by omega) u hu).1; omega
    exact changedOf_any p q L U W (h.fr f) (by omega) (fun r hr => by have := (b5 r hr).2.2; omega) (by rw [a2, List.length_map]; omega) hur)
  have HCo := hideP (fun (h0 : TK.chk L U = 0) W (f : Fr w W) => by
    obtain ⟨a1, _, a3, _, a5⟩ := TK.chk_ok h0
    have a6 := (TK.lE_up a3).2.2.1
    exact count_any p q L (by omega) (fun r hr => by have := (a6 r hr).2.2; omega) W (h.l.fr f) (by obtain ⟨a, c, e⟩ := h.u.slice; exact ⟨a, _, c, e⟩) (by omega))
  have HRi := hideP (fun (h0 : TK.chk L U = 0) => TK.right_of h0)
  obtain ⟨pa, pc, rfl⟩ := h.l.slice
  obtain ⟨qa, qc, rfl⟩ := h.u.slice
  have bb := Blk.new w #[.slice pa L.length pc, .slice qa U.length qc] 25
  have b2 := Blk.new (w.alloc (.cells #[.slice pa L.length pc, .slice qa U.length qc] 25)) #[.slice none 0 0, .slice none 0 0] 25
  have F0 := hideP (((Fr.refl w).alloc (.cells #[.slice pa L.length pc, .slice qa U.length qc] 25)).alloc (.cells #[.slice none 0 0, .slice none 0 0] 25))
  have HB := hideP (bb.old (.cells #[.slice none 0 0, .slice none 0 0] 25))
  rw [World.size_alloc] at b2
  have HB2 := hideP b2
  have x0 := HB.out.cell 0 (u := .slice pa L.length pc) rfl
  have x1 := HB.out.cell 1 (u := .slice qa U.length qc) rfl
  have y0 := HB2.out.cell 0 (u := .slice none 0 0) rfl
  have y1 := HB2.out.cell 1 (u := .slice none 0 0) rfl
  have y2 := HB2.out.frozen 0
  have y3 := HB2.out.frozen 1
  clear bb b2 h hR hS hUr
  generalize hW : (w.alloc (.cells #[.slice pa L.length pc, .slice qa U.length qc] 25)).alloc (.cells #[.slice none 0 0, .slice none 0 0] 25) = W0 at *
  have HE : Hid (TK.insE key L U = if TK.chk L U ≠ 0 then TK.chk L U else if 40 < key.size then 2 else if TK.isAt key (L.getD (TK.leafOf key L) []) = true then 6 else if L.flatten.length = 64 then 2 else 0) := rfl
  unfold InsAns
  generalize TK.insE key L U = de at *
  obtain ⟨z, hz⟩ : ∃ z, TK.chk L U = z := ⟨_, rfl⟩
  rw [hz] at HC HOk HP HE HCh HRi HCo
  clear hz
  go_enter Try.func23, Try.ntmps23
  go_wp2_with fail
  refine (HC.out _ F0.out).mono ?_
  rintro _ w1 ⟨rfl, f1⟩
  have F1 := hideP (F0.out.trans f1)
  have HB1 := hideP (HB.out.fr f1)
  have HB3 := hideP (HB2.out.fr f1)
  clear f1 x0 x1 y0 y1 y2 y3 hW
  have x0 := HB1.out.cell 0 (u := .slice pa L.length pc) rfl
  have x1 := HB1.out.cell 1 (u := .slice qa U.length qc) rfl
  have y0 := HB3.out.cell 0 (u := .slice none 0 0) rfl
  have y1 := HB3.out.cell 1 (u := .slice none 0 0) rfl
  have y2 := HB3.out.frozen 0
  have y3 := HB3.out.frozen 1
  have HEr := hideP (fun (W : World) (hb : Blk W (w.heap.size + 1) #[.slice none 0 0, .slice none 0 0] 25) (f : Fr w W) => (show ((W.setCell ⟨w.heap.size + 1, 0, none⟩ (.slice none 0 0)).setCell ⟨w.heap.size + 1, 1, none⟩ (.slice none 0 0)).cell? ⟨w.heap.size + 1, 0, none⟩ = some (.slice none 0 0) ∧ ((W.setCell ⟨w.heap.size + 1, 0, none⟩ (.slice none 0 0)).setCell ⟨w.heap.size + 1, 1, none⟩ (.slice none 0 0)).cell? ⟨w.heap.size + 1, 1, none⟩ = some (.slice none 0 0) ∧ Fr w ((W.setCell ⟨w.heap.size + 1, 0, none⟩ (.slice none 0 0)).setCell ⟨w.heap.size + 1, 1, none⟩ (.slice none 0 0)) from by
    have h1 := (hb.set 0 (.slice none 0 0)).set 1 (.slice none 0 0)
    exact ⟨h1.cell 0 (u := .slice none 0 0) rfl, h1.cell 1 (u := .slice none 0 0) rfl, Fr.setCell (Fr.setCell f _ 0 _ (by omega)) _ 1 _ (by omega)⟩))
  by_cases h0 : z = 0
  case neg =>
    have hE := HE.out.trans (if_pos h0)
    subst hE
    have g1 : ((de : Int) != 0) = true := by simp; omega
    have g2 : ¬ ((de : Int) = 0) := by omega
    have HH0 := hideP h0
    obtain ⟨r1, r2, r3⟩ := HEr.out _ HB3.out F1.out
    have R3 := hideP r3
    clear HP HCh HRi HOk HE HCo h0 r3
    go_wp2_with fail
    refine bodyPost_ret (v := .tuple #[.agg #[.slice none 0 0, .slice none 0 0], .int .i64 (de : Int)]) (by simp [results, Try.results23, go_sem, r1, r2]) rfl ?_
    exact ⟨.inl ⟨HH0.out, rfl⟩, R3.out⟩
  subst h0
  obtain ⟨hL6, hall⟩ := HOk.out (by trivial)
  have HAll := hideP hall
  replace HE := hideP (HE.out.trans (if_neg (by simp)))
  clear hall
  have HP2 := hideP (HP.out (by trivial))
  have HCh2 := hideP (HCh.out (by trivial))
  have HRi2 := hideP (HRi.out (by trivial))
  have HCo2 := hideP (HCo.out (by trivial))
  clear HP HCh HRi HOk HCo
  by_cases h40 : 40 < key.size
  · have hE := HE.out.trans (if_pos h40)
    subst hE
    have h40' : (40 : Int) < (key.size : Int) := by omega
    obtain ⟨r1, r2, r3⟩ := HEr.out _ HB3.out F1.out
    have R3 := hideP r3
    clear r3
    go_wp2_with fail
    refine bodyPost_ret (v := .tuple #[.agg #[.slice none 0 0, .slice none 0 0], .int .i64 2]) (by simp [results, Try.results23, go_sem, r1, r2]) rfl ?_
    exact ⟨.inl ⟨by decide, rfl⟩, R3.out⟩
  have h40' : ((40 : Int) < (key.size : Int)) = False := eq_false (by omega)
  replace HE := hideP (HE.out.trans (if_neg h40))
  clear h40
  go_wp2_with fail
  refine (HP2.out _ F1.out).mono ?_
  rintro _ w2 ⟨rfl, f2⟩
  have F2 := hideP (F1.out.trans f2)
  have HB4 := hideP (HB1.out.fr f2)
  have HB5 := hideP (HB3.out.fr f2)
  clear f2 x0 x1 y0 y1 y2 y3
  have x0 := HB4.out.cell 0 (u := .slice pa L.length pc) rfl
  have x1 := HB4.out.cell 1 (u := .slice qa U.length qc) rfl
  have y0 := HB5.out.cell 0 (u := .slice none 0 0) rfl
  have y1 := HB5.out.cell 1 (u := .slice none 0 0) rfl
  have y2 := HB5.out.frozen 0
  have y3 := HB5.out.frozen 1
  obtain ⟨lf, hlf⟩ : ∃ x, TK.leafOf key L = x := ⟨_, rfl⟩
  obtain ⟨r, hr⟩ : ∃ r, L.getD lf [] = r := ⟨_, rfl⟩
  obtain ⟨a, ha⟩ : ∃ a, TK.low key r = a := ⟨_, rfl⟩
  have HDT := hideP (show L ≠ [] → ∀ Un, TK.insT key n L Un = TR.growT (TR.putL L lf (r.take a ++ ⟨key, n⟩ :: r.drop a)) Un lf from fun hne Un => by
    unfold TK.insT TK.more
    rw [if_neg hne, hlf, hr, ha])
  have HDZ := hideP (show L = [] → ∀ Un, TK.insT key n L Un = ([[⟨key, n⟩]], []) from fun he Un => by unfold TK.insT; rw [if_pos he])
  have hal : a ≤ r.length := by rw [← ha]; exact TK.low_le key r
  have HLf := hideP (show 0 < L.length → lf < L.length from fun h => by rw [← hlf]; exact TK.leafOf_lt key h)
  rw [hlf] at HE ⊢
  rw [hr] at HE ⊢
  rw [ha]
  by_cases hfo : TK.isAt key r = true
  · have hE := HE.out.trans (if_pos hfo)
    subst hE
    rw [hfo]
    clear hfo
    obtain ⟨r1, r2, r3⟩ := HEr.out _ HB5.out F2.out
    have R3 := hideP r3
    clear r3
    go_wp2_with fail
    refine bodyPost_ret (v := .tuple #[.agg #[.slice none 0 0, .slice none 0 0], .int .i64 6]) (by simp [results, Try.results23, go_sem, r1, r2]) rfl ?_
    exact ⟨.inl ⟨by decide, rfl⟩, R3.out⟩
  have hff : TK.isAt key r = false := by simpa using hfo
  replace HE := hideP (HE.out.trans (if_neg hfo))
  rw [hff]
  clear hff hfo
  go_wp2_with fail
  refine (HCo2.out _ F2.out).mono ?_
  rintro _ w2b ⟨rfl, f2b⟩
  have F2b := hideP (F2.out.trans f2b)
  have HB4b := hideP (HB4.out.fr f2b)
  have HB5b := hideP (HB5.out.fr f2b)
  clear f2b x0 x1 y0 y1 y2 y3
  have x0 := HB4b.out.cell 0 (u := .slice pa L.length pc) rfl
  have x1 := HB4b.out.cell 1 (u := .slice qa U.length qc) rfl
  have y0 := HB5b.out.cell 0 (u := .slice none 0 0) rfl
  have y1 := HB5b.out.cell 1 (u := .slice none 0 0) rfl
  have y2 := HB5b.out.frozen 0
  have y3 := HB5b.out.frozen 1
  by_cases h64 : L.flatten.length = 64
  · have hE := HE.out.trans (if_pos h64)
    subst hE
    rw [h64]
    clear h64
    obtain ⟨r1, r2, r3⟩ := HEr.out _ HB5b.out F2b.out
    have R3 := hideP r3
    clear r3
    go_wp2_with fail
    refine bodyPost_ret (v := .tuple #[.agg #[.slice none 0 0, .slice none 0 0], .int .i64 2]) (by simp [results, Try.results23, go_sem, r1, r2]) rfl ?_
    exact ⟨.inl ⟨by decide, rfl⟩, R3.out⟩
  have hE := HE.out.trans (if_neg h64)
  subst hE
  have h64q : (((L.flatten.length : Nat) : Int) == 64) = false := beq_eq_false_iff_ne.2 (by omega)
  have h64r : ¬ (((L.flatten.length : Nat) : Int) = 64) := by omega
  have hL0 := HL0.out
  obtain ⟨Un, hUn, hRt, hUn8, hL64, _⟩ := HRi2.out
  have hUn0 : Un = [] := by
    rcases hRt with ⟨_, h⟩ | ⟨h, _⟩
    · exact h
    · rw [hL0] at h; exact absurd h (no_lv0 Un)
  have HUn := hideP (hUn0 ▸ hUn)
  have HFin := hideP (HDZ.out hL0 [])
  have hln : L.length = 0 := by rw [hL0]; rfl
  have HLq := hideP (show (((L.length : Nat) : Int) == 0) = true from by rw [hln]; rfl)
  have HLr := hideP (show (((L.length : Nat) : Int) = 0) = True from eq_true (by omega))
  clear hln
  have HLf0 := hideP (show lf = 0 from by rw [← hlf, hL0]; rfl)
  have HR0 := hideP (show r = [] from by rw [← hr, hL0]; rfl)
  clear HE hUn hRt h64 HDT HDZ HLf hL0 hUn0 hr ha hlf
  generalize L.flatten.length = nfl at *
  go_wp2_with fail
  refine (HCh2.out _ F2b.out).mono ?_
  rintro _ w3 ⟨Bc, p3, q3, qs, rs, rfl, hTm, f3⟩
  have hT3 := hTm.tr HUn.out
  have F3 := hideP (F2b.out.trans f3)
  have HB6 := hideP (HB5b.out.fr f3)
  have hsz3 := f3.size
  have HSz3 := hideP (show w2b.heap.size ≤ w3.heap.size from hsz3)
  have HT3 := hideP hT3
  clear hTm f3 x0 x1 y0 y1 y2 y3 h64q h64r
  obtain ⟨p, q, zs, ys, h1, h2, h3⟩ := hT3
  have hzs : zs.length = L.length := by have := congrArg List.length h2; simpa using this
  obtain ⟨pa, pc, rfl⟩ := own_slice h1.l.own
  rw [hzs] at h1
  have x0 := h1.box.cell 0 (u := .slice pa L.length pc) rfl
  have x1 := h1.box.frozen 0
  clear h1 h2 h3 hzs
  have hLq := HLq.out
  have hLr := HLr.out
  have hmk := make_leaf
  obtain ⟨x2, x3⟩ := c1f_after ((Fr.refl w3).alloc (.cells #[.slice none 0 0] 28)) ⟨x0, x1⟩
  go_wp2_with fail
  have hT4 := Tr.first (show Tr w2b.heap.size w3 Bc [] [] from HL0.out ▸ HT3.out) HSz3.out
  obtain ⟨w4, hw4⟩ : ∃ w4, (w3.alloc (.cells #[.slice none 0 0] 28)).setCell ⟨Bc, 0, none⟩ (.slice (some ⟨w3.heap.size, 0, none⟩) 1 1) = w4 := ⟨_, rfl⟩
  rw [hw4] at hT4 ⊢
  obtain ⟨hT4, b4⟩ := hT4
  have F4 := hideP (show Fr w w4 from Below.trans F3.out (Below.mono b4 F2b.out.size))
  have HB6b := hideP (show Blk w4 (w.heap.size + 1) #[.slice none 0 0, .slice none 0 0] 25 by
    have hlt := HB5b.out.lt
    exact (b4.block _ hlt).trans HB6.out)
  have hsz4 : w2b.heap.size ≤ w4.heap.size := Nat.le_trans HSz3.out b4.size
  have HSz4 := hideP hsz4
  obtain ⟨l', hl'⟩ : ∃ l', r.take a ++ (⟨key, n⟩ : TK.Pr) :: r.drop a = l' := ⟨_, rfl⟩
  have ha0 : a = 0 := by
    have := HR0.out
    rw [this] at hal
    exact Nat.le_zero.1 hal
  have hl0 : l' = [⟨key, n⟩] := by rw [← hl', ha0, HR0.out]; rfl
  have hl4 : l'.length = r.length + 1 := by rw [hl0, HR0.out]; rfl
  have hr4 : r.length ≤ 4 := by rw [HR0.out]; decide
  obtain ⟨M, hM⟩ : ∃ M : List (List TK.Pr), [[]] = M := ⟨_, rfl⟩
  have hMl : M.length = 1 := by rw [← hM]; rfl
  have hlf0 := HLf0.out
  have hlf2 : lf < M.length := by omega
  have hrl : M[lf] = r := by
    subst hM
    subst hlf0
    exact HR0.out.symm
  have HGI := hideP (show TR.GI (TK.insT key n L []).1 (TK.insT key n L []).2 0 lf (TR.putL M lf l') [] [] [1] [] from by
    rw [HFin.out, hl0, ← hM, hlf0]
    exact TR.gi_zero _)
  rw [hM] at hT4
  clear hM hlf0 hl0 ha0 hw4 b4 hLq hLr x0 x1 x2 x3 hmk
  obtain ⟨g, c, sq, d1, d2, d3, d4, d5, d6, d7⟩ := hT4.leaf lf hlf2
  rw [hrl] at d3 d4
  have hsv := Sq.eta d3
  rw [hsv] at d2 d4 d6 d7
  have hobn : (Value.slice sq.a r.length sq.c).ownBlock ≠ some w4.heap.size := fun e => by
    have := (d4.lt _ e).2
    omega
  have HIn := hideP (fun (W : World) (f : Fr w4 W) (hb : Blk W w4.heap.size #[.string key, .int .i64 n] 38) => insertP_any (.slice sq.a r.length sq.c) r a ⟨key, n⟩ w2b.heap.size w4.heap.size W (own_fr d4 f) (Nat.le_trans hsz4 f.size) hal (by omega) hb hobn (Value.slice sq.a r.length sq.c).ownBlock rfl)
  rw [hl'] at HIn
  have HD6 := hideP d6
  have HD7 := hideP d7
  have HS1 := hideP (show w4.cell? ⟨Bc, 0, none⟩ = some (.slice (some ⟨g, 0, none⟩) M.length c) ∧ w4.cell? ⟨g, lf, none⟩ = some (.slice sq.a r.length sq.c) from ⟨d1, d2⟩)
  have hz : Fr w4 w4.drew := Fr.drew (Fr.refl w4)
  have hzB : Fr w4 ((w4.alloc (.cells #[.string key, .int .i64 n] 38)).drew) := Fr.drew ((Fr.refl w4).alloc _)
  obtain ⟨v1, v2⟩ := c2_after hzB HS1.out
  have HIn2 := hideP (HIn.out _ hzB (Blk.new w4 _ _))
  have hlfI : (lf : Int) < (M.length : Int) := by omega
  have hw0 : IntKind.i64.wrap (lf : Int) = (lf : Int) := by rw [IntKind.wrap_i64]; omega
  have hlf64 : lf ≤ 64 := by omega
  have hr5 := hr4
  clear d3 d4 d6 d7 hT4 hsv hrl hl' HIn hobn hMl
  go_wp2_with fail
  go_region_with (first
    | (go_at_call 38; refine HIn2.out.mono ?_; rintro _ w6 ⟨v4, rfl, hO4, hG4, hL4⟩; obtain ⟨a4, c4, rfl⟩ := own_slice hO4; obtain ⟨e1, e2, e3⟩ := HD6.out _ _ hzB hG4))
  all_goals (
    have h7 := HD7.out _ w6 ⟨a4, r.length + 1, c4⟩ l' hzB hG4 (by rw [hl4]; exact hO4) hL4
    have T4 := hideP h7.1
    have B4 := hideP h7.2
    clear hO4 hG4 hL4 h7 e1 e2 e3 v1 v2
    go_wp2_with fail
    refine (grown_any T4.out (below_ge B4.out HSz4.out) lf HGI.out).mono ?_
    rintro _ w5 ⟨rfl, t5, b5⟩
    obtain ⟨pa5, pn5, pc5, qa5, qn5, qc5, x5, x6, ho5⟩ := t5.read
    have F5 := hideP (show Fr w w5 from Below.trans F4.out (Below.mono (Below.trans B4.out b5) F2b.out.size))
    have HB7 := hideP (show Blk w5 (w.heap.size + 1) #[.slice none 0 0, .slice none 0 0] 25 by
      have hlt := HB5b.out.lt
      exact ((Below.trans B4.out b5).block _ hlt).trans HB6b.out)
    have y0 := HB7.out.cell 0 (u := .slice none 0 0) rfl
    have y1 := HB7.out.cell 1 (u := .slice none 0 0) rfl
    have y2 := HB7.out.frozen 0
    have y3 := HB7.out.frozen 1
    have HO5 := hideP ho5
    have hr1 := (HB7.out.set 0 (.slice pa5 pn5 pc5)).set 1 (.slice qa5 qn5 qc5)
    have r1 := hr1.cell 0 (u := .slice pa5 pn5 pc5) rfl
    have r2 := hr1.cell 1 (u := .slice qa5 qn5 qc5) rfl
    have HR3 := hideP (show Fr w ((w5.setCell ⟨w.heap.size + 1, 0, none⟩ (.slice pa5 pn5 pc5)).setCell ⟨w.heap.size + 1, 1, none⟩ (.slice qa5 qn5 qc5)) from Fr.setCell (Fr.setCell F5.out _ 0 _ (by omega)) _ 1 _ (by omega))
    clear t5 b5 ho5 hr1
    go_wp2_with fail
    refine bodyPost_ret (v := .tuple #[.agg #[.slice pa5 pn5 pc5, .slice qa5 qn5 qc5], .int .i64 0]) (by simp [results, Try.results23, go_sem, r1, r2]) rfl ?_
    have hfin := ((HO5.out.set (i := 0) (u := .slice pa5 pn5 pc5) HB7.out).set (i := 1) (u := .slice qa5 qn5 qc5) (HB7.out.set 0 (.slice pa5 pn5 pc5))).low F2b.out.size
    first
      | exact ⟨.inr ⟨rfl, [], _, _, HUn.out, rfl, hfin⟩, HR3.out⟩
      | exact ⟨⟨[], HUn.out, _, _, rfl, hfin⟩, HR3.out⟩)
theorem insert_any (p q : Value) (L : List (List TK.Pr)) (U : List (List Int)) (key : ByteArray) (n : Int) (w : World) (h : IsT w p q L U) (hL : L.length ≤ 9223372036854775806) (hR : ∀ r ∈ L, r.length ≤ 9223372036854775806) (hS : ∀ r ∈ L, ∀ x ∈ r, x.k.size ≤ 9223372036854775806) (hU : U.length ≤ 9223372036854775806) (hUr : ∀ u ∈ U, u.length ≤ 17592186044416) (hk : key.size ≤ 9223372036854775806) :
    Calls Try.prog 23 #[.agg #[p, q], .string key, .int .i64 n] w fun e w' => InsAns key n L U w.heap.size e w' ∧ Fr w w' := by
  by_cases hL0 : L = []
  · exact insert_any0 p q L U key n w h hL hR hS hU hUr hk hL0
  · exact insert_any1 p q L U key n w h hL hR hS hU hUr hk hL0
end Go.Proofs.Ytmemapfboefngaa
