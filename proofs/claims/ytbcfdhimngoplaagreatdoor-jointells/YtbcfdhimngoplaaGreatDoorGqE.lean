/-
  What belongs together: BgX, BgY, BgZ, BhA, BhB, BhC, BhD, BhE.
-/
import Derived.Test.YtbcfdhimngoplaaGreatDoorGqD
import Derived.Test.YtbcfdhimngoplaaGreatDoorGqB
namespace Go.Proofs.YtbcfdhimngoplaaGreatDoor
open Go.ChangeShapes Go.WideShapes Go.ChangeAt Go.RowKit
set_option linter.unusedVariables false
set_option linter.unusedSimpArgs false
set_option maxRecDepth 100000
set_option maxHeartbeats 2000000
namespace BG
open VM
def smO (l : List Vl) : Except Nat Vl := if l.all (fun x => decide (x.k = 1)) = false then .error 7 else if 40 < l.length then .error 2 else if WH.err (l.map (·.n)).sum ≠ 0 then .error 8 else .ok ⟨1, (l.map (·.n)).sum, ⟨#[]⟩⟩
end BG
theorem isTots_of {w : World} {v : Value} {l : List Int} (h : IsL cdZ w v l) : IsTots w v l := by
 obtain ⟨a, c, rfl, hc, h0 | ⟨b, o, rfl, hb, hat⟩⟩ := h
 · exact ⟨a, c, rfl, hc, .inl h0⟩
 · exact ⟨_, c, rfl, hc, .inr ⟨b, o, rfl, hb, fun i hi => hat.zz i hi⟩⟩
theorem Tryz.infoI64 : (Tryz.prog.info? 2).map (fun i => (i.zero, i.size, i.bytes)) = some (some (.int .i64 0), 1, 8) := by kernel_rfl
theorem sumOf_any (v : Value) (l : List VM.Vl) (w : World) (hv : IsL cdV w v l) (hok : ∀ x ∈ l, WH.Ok x.n) (hl : l.length ≤ 1000) :
  Calls Tryz.prog 72 #[v] w fun e w' => e = .returned (exV (BG.smO l)) ∧ Fr w w' := by
 have HK : Hid (BG.smO l = if l.all (fun x => decide (x.k = 1)) = false then .error 7 else if 40 < l.length then .error 2 else if WH.err (l.map (·.n)).sum ≠ 0 then .error 8 else .ok ⟨1, (l.map (·.n)).sum, ⟨#[]⟩⟩) := rfl
 obtain ⟨i0, hi0, hz0, hz1, hz2⟩ := info_parts Tryz.infoI64
 obtain ⟨a, c, rfl, hc, hs⟩ := hv
 have HS := hideP hs
 have HOk := hideP hok
 clear hs hok
 generalize BG.smO l = R at *
 have HB2 := hideP (Blk.new w #[.int .i64 0, .int .i64 0, .string ⟨#[]⟩] 56)
 have F0 := hideP ((Fr.refl w).alloc (.cells #[.int .i64 0, .int .i64 0, .string ⟨#[]⟩] 56))
 go_enter Tryz.func72, Tryz.ntmps72
 go_wp2_with fail
 obtain ⟨b2, hb2⟩ : ∃ x, w.heap.size = x := ⟨_, rfl⟩
 rw [hb2] at HB2 ⊢
 have HW := hideP hb2
 clear hb2
 generalize w.alloc (.cells #[.int .i64 0, .int .i64 0, .string ⟨#[]⟩] 56) = W0 at *
 go_loopw [4, 6, 11] (fun kv _ iv wr => ∃ i : Nat, iv = .int .i64 i ∧ i ≤ l.length ∧ l.all (fun x => decide (x.k = 1)) = (l.drop i).all (fun x => decide (x.k = 1)) ∧ wr.ownsRow w.heap.size 2 1 kv i (flat cdZ ((l.take i).map (·.n))) ∧ Blk wr b2 #[.int .i64 0, .int .i64 0, .string ⟨#[]⟩] 56 ∧ Fr w wr) (fun _ _ iv _ => l.length - (intOf iv).toNat)
 case atStart => exact ⟨0, rfl, Nat.zero_le _, rfl, World.ownsRow_nil _ _ _ _, HB2.out, F0.out⟩
 case round =>
  obtain ⟨i, rfl, hi, hal, hown, h2, hfr⟩ := hrel
  obtain ⟨fa, fc, rfl⟩ := own_slice hown
  by_cases hlt : i < l.length
  ·
   have hlt' : (i : Int) < (l.length : Int) := by omega
   obtain ⟨b, o, rfl, hb, hat⟩ : ∃ b o, a = some ⟨b, o, none⟩ ∧ b < w.heap.size ∧ At cdV w b o l := by
    rcases HS.out with h | h
    · rw [h] at hlt; simp at hlt
    · exact h
   obtain ⟨d0, d1, d2⟩ := (hat.fr hb hfr).v3 i hlt
   have hst : (l.take (i + 1)).map (·.n) = (l.take i).map (·.n) ++ [l[i].n] := by rw [List.take_succ_eq_append_getElem hlt, List.map_append]; rfl
   rw [List.drop_eq_getElem_cons hlt, List.all_cons] at hal
   generalize l[i] = x at *
   obtain ⟨xk, xn, xs⟩ := x
   simp only at d0 d1 d2 hst hal
   have HSt := hideP hst
   have HAl := hideP hal
   have HFA := hideP (hfr.alloc (.cells #[.int .i64 xk, .int .i64 xn, .string xs] 56))
   have HB6 := hideP (Blk.new wr #[.int .i64 xk, .int .i64 xn, .string xs] 56)
   have H2 := hideP (h2.old (.cells #[.int .i64 xk, .int .i64 xn, .string xs] 56))
   have HO0 := hideP (own_fr hown ((Fr.refl wr).alloc (.cells #[.int .i64 xk, .int .i64 xn, .string xs] 56)))
   have hsz := hfr.size
   clear hst hal hown h2 hat
   by_cases hk : xk = 1
   ·
    replace HAl := hideP (show l.all (fun x => decide (x.k = 1)) = (l.drop (i + 1)).all (fun x => decide (x.k = 1)) from HAl.out.trans (by simp [hk]))
    have k1 : (xk != 1) = false := by simp [hk]
    subst hk
    have HLit := hideP (lit_one cdZ (wr.alloc (.cells #[.int .i64 1, .int .i64 xn, .string xs] 56)) xn 2)
    have HO := hideP (own_fr HO0.out ((Fr.refl _).alloc (.cells #[.int .i64 xn] 2)))
    clear HO0 hfr
    go_wp2_with (at_builtin; refine wpList_append_L cdZ rfl _ _ 109 2 i0 _ 8 rfl Tryz.underlying109 hi0 hz0 hz1 hz2 rfl w.heap.size _ i _ rfl HO.out (.slice (some ⟨wr.heap.size + 1, 0, none⟩) 1 1) [xn] rfl (by have := HLit.out; rw [World.size_alloc] at this; exact this) ?c3 ?c4 ?c5 ?_)
    case c3 => unfold maxLen; first | omega | (simp <;> omega)
    case c4 => first | omega | (simp <;> omega)
    case c5 => first | omega | (simp <;> omega)
    intro v2 wB own2 gr2
    have HN2 := hideP own2
    have FB := hideP (show Fr w wB from Below.grown (HFA.out.alloc _) gr2 (by simp <;> omega) (own_base HO.out))
    have H2B := hideP ((H2.out.old (.cells #[.int .i64 xn] 2)).grown gr2 (fun e => by
     obtain ⟨cur, hcur⟩ := own_block HO.out _ e
     have h9 := H2.out.old (.cells #[.int .i64 xn] 2)
     unfold Blk at h9
     rw [h9] at hcur
     simp only [Option.some.injEq, Obj.cells.injEq] at hcur
     exact absurd hcur.2.1 (by decide)))
    clear own2 gr2
    go_wp2_with fail
    go_roundw
    case rel => exact ⟨i + 1, by go_num, by omega, HAl.out, by rw [HSt.out]; have h9 := HN2.out; rw [← List.map_take] at h9; exact h9, H2B.out, FB.out⟩
    case measure => simp [intOf]; omega
   ·
    have HZ := hideP (HK.out.trans (if_pos (HAl.out.trans (by simp [hk]))))
    have k1 : (xk != 1) = true := by simp [hk]
    have p0 := H2.out.cell 0 rfl
    have p1 := H2.out.cell 1 rfl
    have p2 := H2.out.cell 2 rfl
    have y0 := H2.out.frozen 0
    have y1 := H2.out.frozen 1
    have y2 := H2.out.frozen 2
    clear hfr
    go_wp2_with fail
    have N4 := H2.out.put3 (.int .i64 0) (.int .i64 0) (.string ⟨#[]⟩)
    have r0 := N4.cell 0 rfl
    have r1 := N4.cell 1 rfl
    have r2 := N4.cell 2 rfl
    unfold put3 at r0 r1 r2
    refine bodyPost_ret (v := .tuple #[.agg #[.int .i64 0, .int .i64 0, .string ⟨#[]⟩], .int .i64 7]) ?_ rfl ⟨by rw [HZ.out]; rfl, HFA.out.put3 b2 (by have := HW.out; omega) _ _ _⟩
    simp [results, Tryz.results72, go_sem, r0, r1, r2]
  ·
   obtain rfl : i = l.length := by omega
   rw [List.take_length] at hown
   have hT : l.all (fun x => decide (x.k = 1)) = true := by rw [hal, List.drop_length]; rfl
   replace HK := hideP (HK.out.trans (if_neg (by rw [hT]; decide)))
   have hml : (l.map (·.n)).length = l.length := by simp
   have hown2 : wr.ownsRow w.heap.size 2 1 (.slice fa l.length fc) (l.map (·.n)).length (flat cdZ (l.map (·.n))) := by rw [hml]; exact hown
   have cs := tsum_any (.slice fa l.length fc) (l.map (·.n)) wr (isTots_of (isL_own hown2)) (fun x hx => by obtain ⟨y, hy, rfl⟩ := List.mem_map.1 hx; exact HOk.out y hy) (by rw [hml]; omega)
   unfold sumTwo two at cs
   rw [hml] at cs
   generalize (l.map (·.n)).sum = sm at *
   have H2 := hideP h2
   have HF := hideP hfr
   clear hal hT hml hown hown2 h2 hfr
   have p0 := H2.out.cell 0 rfl
   have p1 := H2.out.cell 1 rfl
   have p2 := H2.out.cell 2 rfl
   have y0 := H2.out.frozen 0
   have y1 := H2.out.frozen 1
   have y2 := H2.out.frozen 2
   by_cases h40 : 40 < l.length
   ·
    rw [if_pos h40] at cs
    have HZ := hideP (HK.out.trans (if_pos h40))
    go_wp2_with fail
    refine cs.mono ?_
    rintro _ w2 ⟨rfl, rfl⟩
    go_wp2_with fail
    have N4 := H2.out.put3 (.int .i64 0) (.int .i64 0) (.string ⟨#[]⟩)
    have r0 := N4.cell 0 rfl
    have r1 := N4.cell 1 rfl
    have r2 := N4.cell 2 rfl
    unfold put3 at r0 r1 r2
    refine bodyPost_ret (v := .tuple #[.agg #[.int .i64 0, .int .i64 0, .string ⟨#[]⟩], .int .i64 2]) ?_ rfl ⟨by rw [HZ.out]; rfl, HF.out.put3 b2 (by have := HW.out; omega) _ _ _⟩
    simp [results, Tryz.results72, go_sem, r0, r1, r2]
   ·
    rw [if_neg h40] at cs
    replace HK := hideP (HK.out.trans (if_neg h40))
    by_cases hs0 : WH.Ok sm
    ·
     rw [WH.err_ok hs0, WH.val_ok hs0] at cs
     have HZ := hideP (HK.out.trans (if_neg (by rw [WH.err_ok hs0]; simp)))
     go_wp2_with fail
     refine cs.mono ?_
     rintro _ w2 ⟨rfl, rfl⟩
     go_wp2_with fail
     have N4 := H2.out.put3 (.int .i64 1) (.int .i64 sm) (.string ⟨#[]⟩)
     have r0 := N4.cell 0 rfl
     have r1 := N4.cell 1 rfl
     have r2 := N4.cell 2 rfl
     unfold put3 at r0 r1 r2
     refine bodyPost_ret (v := .tuple #[.agg #[.int .i64 1, .int .i64 sm, .string ⟨#[]⟩], .int .i64 0]) ?_ rfl ⟨by rw [HZ.out]; rfl, HF.out.put3 b2 (by have := HW.out; omega) _ _ _⟩
     simp [results, Tryz.results72, go_sem, r0, r1, r2]
    ·
     have e8 : WH.err sm = 8 := if_neg hs0
     have v0 : WH.val sm = 0 := if_neg hs0
     rw [e8, v0] at cs
     have HZ := hideP (HK.out.trans (if_pos (by rw [e8]; decide)))
     go_wp2_with fail
     refine cs.mono ?_
     rintro _ w2 ⟨rfl, rfl⟩
     go_wp2_with fail
     have N4 := H2.out.put3 (.int .i64 0) (.int .i64 0) (.string ⟨#[]⟩)
     have r0 := N4.cell 0 rfl
     have r1 := N4.cell 1 rfl
     have r2 := N4.cell 2 rfl
     unfold put3 at r0 r1 r2
     refine bodyPost_ret (v := .tuple #[.agg #[.int .i64 0, .int .i64 0, .string ⟨#[]⟩], .int .i64 8]) ?_ rfl ⟨by rw [HZ.out]; rfl, HF.out.put3 b2 (by have := HW.out; omega) _ _ _⟩
     simp [results, Tryz.results72, go_sem, r0, r1, r2]
end Go.Proofs.YtbcfdhimngoplaaGreatDoor
namespace Go.Proofs.YtbcfdhimngoplaaGreatDoor
open Go.ChangeShapes Go.WideShapes Go.ChangeAt Go.RowKit
set_option linter.unusedVariables false
set_option linter.unusedSimpArgs false
set_option maxRecDepth 100000
set_option maxHeartbeats 2000000
namespace BG
open VM
structure Ag where
 kind : Int
 col : Int
def tel (ls : List (List Vl)) (g : Ag) : Except Nat Vl :=
 if g.col = -1 ∧ g.kind = 1 then .ok ⟨1, (ls.length : Int), ⟨#[]⟩⟩
 else if g.kind = 1 then .ok ⟨1, ((vls ls g.col.toNat).length : Int), ⟨#[]⟩⟩
 else if vls ls g.col.toNat = [] then .ok nulV
 else if g.kind = 2 then smO (vls ls g.col.toNat)
 else .ok (far (if g.kind = 3 then -1 else 1) ((vls ls g.col.toNat).headD nulV) (vls ls g.col.toNat))
theorem vls_mem {ls : List (List Vl)} {C : Nat} {x : Vl} (h : x ∈ vls ls C) (hin : ∀ r ∈ ls, C < r.length) : ∃ r ∈ ls, x ∈ r := by
 unfold vls at h
 rw [List.mem_filter, List.mem_map] at h
 obtain ⟨⟨r, hr, rfl⟩, _⟩ := h
 refine ⟨r, hr, ?_⟩
 rw [List.getD_eq_getElem?_getD, List.getElem?_eq_getElem (hin r hr)]
 exact List.getElem_mem _
end BG
theorem gtell_any (sv rv : Value) (ls : List (List VM.Vl)) (g : BG.Ag) (w : World) (hs : ∃ a n c, sv = .slice a n c) (hr : IsRR w rv ls) (hin : (g.col = -1 ∧ g.kind = 1) ∨ (0 ≤ g.col ∧ ∀ r ∈ ls, g.col < (r.length : Int))) (hok : ∀ r ∈ ls, ∀ x ∈ r, WH.Ok x.n) (hl : ls.length ≤ 1000) (hL : ∀ r ∈ ls, r.length ≤ 1000) :
  Calls Tryz.prog 54 #[.agg #[sv, rv], .agg #[.int .i64 g.kind, .int .i64 g.col]] w fun e w' => e = .returned (exV (BG.tel ls g)) ∧ Fr w w' := by
 have HK : Hid (BG.tel ls g = if g.col = -1 ∧ g.kind = 1 then .ok ⟨1, (ls.length : Int), ⟨#[]⟩⟩
  else if g.kind = 1 then .ok ⟨1, ((BG.vls ls g.col.toNat).length : Int), ⟨#[]⟩⟩
  else if BG.vls ls g.col.toNat = [] then .ok BG.nulV
  else if g.kind = 2 then BG.smO (BG.vls ls g.col.toNat)
  else .ok (BG.far (if g.kind = 3 then -1 else 1) ((BG.vls ls g.col.toNat).headD BG.nulV) (BG.vls ls g.col.toNat))) := rfl
 have HGv := hideP (fun (hc : 0 ≤ g.col ∧ ∀ r ∈ ls, g.col < (r.length : Int)) W (f : Fr w W) => gvalues_any sv rv ls g.col.toNat W hs (hr.fr f) (fun r h => by have := hc.2 r h; omega) hl hL)
 have HSo := hideP (fun (hc : 0 ≤ g.col ∧ ∀ r ∈ ls, g.col < (r.length : Int)) (x : Value) W (hx : IsL cdV W x (BG.vls ls g.col.toNat)) => sumOf_any x (BG.vls ls g.col.toNat) W hx (fun y hy => by
  obtain ⟨r, hr, hyr⟩ := BG.vls_mem hy (fun r h => by have := hc.2 r h; omega)
  exact hok r hr y hyr) (by have := BG.vls_len ls g.col.toNat ls.length; rw [List.take_length] at this; omega))
 have hvl := BG.vls_len ls g.col.toNat ls.length
 rw [List.take_length] at hvl
 obtain ⟨sa, sn, sc, rfl⟩ := hs
 obtain ⟨a, c, rfl⟩ := hr.slice
 generalize BG.tel ls g = R at *
 obtain ⟨kind, col⟩ := g
 simp only at *
 have HG2 := hideP (Blk.new w #[.slice sa sn sc, .slice a ls.length c] 88)
 have HG3 := hideP (Blk.new (w.alloc (.cells #[.slice sa sn sc, .slice a ls.length c] 88)) #[.int .i64 kind, .int .i64 col] 66)
 have HG4 := hideP (Blk.new ((w.alloc (.cells #[.slice sa sn sc, .slice a ls.length c] 88)).alloc (.cells #[.int .i64 kind, .int .i64 col] 66)) #[.int .i64 0, .int .i64 0, .string ⟨#[]⟩] 56)
 have F4 := hideP ((((Fr.refl w).alloc (.cells #[.slice sa sn sc, .slice a ls.length c] 88)).alloc (.cells #[.int .i64 kind, .int .i64 col] 66)).alloc (.cells #[.int .i64 0, .int .i64 0, .string ⟨#[]⟩] 56))
 have HG3b := hideP (HG3.out.old (.cells #[.int .i64 0, .int .i64 0, .string ⟨#[]⟩] 56))
 have HG2b := hideP ((HG2.out.old (.cells #[.int .i64 kind, .int .i64 col] 66)).old (.cells #[.int .i64 0, .int .i64 0, .string ⟨#[]⟩] 56))
 simp only [World.size_alloc] at HG3b HG4
 clear HG2 HG3 hr hok hL
 obtain ⟨W4, hW4⟩ : ∃ x, ((w.alloc (.cells #[.slice sa sn sc, .slice a ls.length c] 88)).alloc (.cells #[.int .i64 kind, .int .i64 col] 66)).alloc (.cells #[.int .i64 0, .int .i64 0, .string ⟨#[]⟩] 56) = x := ⟨_, rfl⟩
 rw [hW4] at HG3b HG4 HG2b F4
 have a0 : W4.cell? ⟨w.heap.size + 1, 0, none⟩ = some (.int .i64 kind) := HG3b.out.cell 0 rfl
 have a1 : W4.cell? ⟨w.heap.size + 1, 1, none⟩ = some (.int .i64 col) := HG3b.out.cell 1 rfl
 have g0 : W4.cell? ⟨w.heap.size, 0, none⟩ = some (.slice sa sn sc) := HG2b.out.cell 0 rfl
 have g1 : W4.cell? ⟨w.heap.size, 1, none⟩ = some (.slice a ls.length c) := HG2b.out.cell 1 rfl
 by_cases h1 : col = -1 ∧ kind = 1
 ·
  obtain ⟨rfl, rfl⟩ := h1
  have HZ := hideP (HK.out.trans (if_pos ⟨rfl, rfl⟩))
  have cn := fun W => bnumber_any (ls.length : Int) W
  go_enter Tryz.func54, Tryz.ntmps54
  go_wp2_with fail
  refine (cn _).mono ?_
  rintro _ w2 ⟨rfl, f2⟩
  have K4 := hideP (HG4.out.fr f2)
  have F2 := hideP (F4.out.trans f2)
  clear f2 cn a0 a1 g0 g1
  have p0 := K4.out.cell 0 rfl
  have p1 := K4.out.cell 1 rfl
  have p2 := K4.out.cell 2 rfl
  have y0 := K4.out.frozen 0
  have y1 := K4.out.frozen 1
  have y2 := K4.out.frozen 2
  go_wp2_with fail
  have N4 := K4.out.put3 (.int .i64 1) (.int .i64 (ls.length : Int)) (.string ⟨#[]⟩)
  have r0 := N4.cell 0 rfl
  have r1 := N4.cell 1 rfl
  have r2 := N4.cell 2 rfl
  unfold put3 at r0 r1 r2
  refine bodyPost_ret (v := .tuple #[.agg #[.int .i64 1, .int .i64 (ls.length : Int), .string ⟨#[]⟩], .int .i64 (0)]) ?_ rfl ⟨by rw [HZ.out]; rfl, F2.out.put3 (w.heap.size + 1 + 1) (by omega) _ _ _⟩
  simp [results, Tryz.results54, go_sem, r0, r1, r2]
 have hc : 0 ≤ col ∧ ∀ r ∈ ls, col < (r.length : Int) := by
  rcases hin with h | h
  · exact absurd h h1
  · exact h
 replace HK := hideP (HK.out.trans (if_neg h1))
 have hcol : ¬ (col = -1) := by omega
 have hcol2 : (col == -1) = false := beq_false_of_ne hcol
 have cg := HGv.out hc W4 F4.out
 replace HSo := hideP (HSo.out hc)
 obtain ⟨C, rfl⟩ : ∃ C : Nat, col = (C : Int) := ⟨col.toNat, by omega⟩
 simp only [Int.toNat_natCast] at *
 generalize BG.vls ls C = vs at *
 clear HGv hin h1 hc
 go_enter Tryz.func54, Tryz.ntmps54
 go_wp2_with fail
 refine cg.mono ?_
 rintro _ w2 ⟨x, rfl, hown, f2⟩
 obtain ⟨xa, xc, rfl⟩ := own_slice hown
 have K3 := hideP (HG3b.out.fr f2)
 have K4 := hideP (HG4.out.fr f2)
 have F2 := hideP (F4.out.trans f2)
 have HO := hideP hown
 clear f2 hown cg a0 a1 g0 g1
 have a0 : w2.cell? ⟨w.heap.size + 1, 0, none⟩ = some (.int .i64 kind) := K3.out.cell 0 rfl
 have a1 : w2.cell? ⟨w.heap.size + 1, 1, none⟩ = some (.int .i64 (C : Int)) := K3.out.cell 1 rfl
 by_cases hk1 : kind = 1
 ·
  subst hk1
  have HZ := hideP (HK.out.trans (if_pos rfl))
  have cn := fun W => bnumber_any (vs.length : Int) W
  go_wp2_with fail
  refine (cn _).mono ?_
  rintro _ w3 ⟨rfl, f3⟩
  replace K4 := hideP (K4.out.fr f3)
  have F3 := hideP (F2.out.trans f3)
  clear f3 cn a0 a1
  have p0 := K4.out.cell 0 rfl
  have p1 := K4.out.cell 1 rfl
  have p2 := K4.out.cell 2 rfl
  have y0 := K4.out.frozen 0
  have y1 := K4.out.frozen 1
  have y2 := K4.out.frozen 2
  go_wp2_with fail
  have N4 := K4.out.put3 (.int .i64 1) (.int .i64 (vs.length : Int)) (.string ⟨#[]⟩)
  have r0 := N4.cell 0 rfl
  have r1 := N4.cell 1 rfl
  have r2 := N4.cell 2 rfl
  unfold put3 at r0 r1 r2
  refine bodyPost_ret (v := .tuple #[.agg #[.int .i64 1, .int .i64 (vs.length : Int), .string ⟨#[]⟩], .int .i64 (0)]) ?_ rfl ⟨by rw [HZ.out]; rfl, F3.out.put3 (w.heap.size + 1 + 1) (by omega) _ _ _⟩
  simp [results, Tryz.results54, go_sem, r0, r1, r2]
 replace HK := hideP (HK.out.trans (if_neg hk1))
 have hk1' : (kind == 1) = false := beq_false_of_ne hk1
 by_cases hv0 : vs = []
 ·
  have HZ := hideP (HK.out.trans (if_pos hv0))
  subst hv0
  simp only [List.length_nil]
  have p0 := K4.out.cell 0 rfl
  have p1 := K4.out.cell 1 rfl
  have p2 := K4.out.cell 2 rfl
  have y0 := K4.out.frozen 0
  have y1 := K4.out.frozen 1
  have y2 := K4.out.frozen 2
  go_wp2_with fail
  have N4 := K4.out.put3 (.int .i64 0) (.int .i64 0) (.string ⟨#[]⟩)
  have r0 := N4.cell 0 rfl
  have r1 := N4.cell 1 rfl
  have r2 := N4.cell 2 rfl
  unfold put3 at r0 r1 r2
  refine bodyPost_ret (v := .tuple #[.agg #[.int .i64 0, .int .i64 0, .string ⟨#[]⟩], .int .i64 (0)]) ?_ rfl ⟨by rw [HZ.out]; rfl, F2.out.put3 (w.heap.size + 1 + 1) (by omega) _ _ _⟩
  simp [results, Tryz.results54, go_sem, r0, r1, r2]
 replace HK := hideP (HK.out.trans (if_neg hv0))
 have hvn : 0 < vs.length := List.length_pos_iff.2 hv0
 have hl0 : ((vs.length : Int) == 0) = false := beq_false_of_ne (by omega)
 have hl1 : ¬ ((vs.length : Int) = 0) := by omega
 have HIs := hideP (isL_own HO.out)
 by_cases hk2 : kind = 2
 ·
  have HZ := hideP (HK.out.trans (if_pos hk2))
  subst hk2
  have cs := HSo.out (.slice xa vs.length xc) w2 HIs.out
  generalize BG.smO vs = D at *
  cases D with
  | error e9 =>
   simp only [exV, vlV, EX.nul] at cs
   go_wp2_with fail
   refine cs.mono ?_
   rintro _ w3 ⟨rfl, f3⟩
   replace K4 := hideP (K4.out.fr f3)
   have F3 := hideP (F2.out.trans f3)
   clear f3 cs a0 a1
   have p0 := K4.out.cell 0 rfl
   have p1 := K4.out.cell 1 rfl
   have p2 := K4.out.cell 2 rfl
   have y0 := K4.out.frozen 0
   have y1 := K4.out.frozen 1
   have y2 := K4.out.frozen 2
   go_wp2_with fail
   have N4 := K4.out.put3 (.int .i64 0) (.int .i64 0) (.string ⟨#[]⟩)
   have r0 := N4.cell 0 rfl
   have r1 := N4.cell 1 rfl
   have r2 := N4.cell 2 rfl
   unfold put3 at r0 r1 r2
   refine bodyPost_ret (v := .tuple #[.agg #[.int .i64 0, .int .i64 0, .string ⟨#[]⟩], .int .i64 ((e9 : Int))]) ?_ rfl ⟨by rw [HZ.out]; rfl, F3.out.put3 (w.heap.size + 1 + 1) (by omega) _ _ _⟩
   simp [results, Tryz.results54, go_sem, r0, r1, r2]
  | ok y =>
   obtain ⟨yk, yn, ys⟩ := y
   simp only [exV, vlV] at cs
   go_wp2_with fail
   refine cs.mono ?_
   rintro _ w3 ⟨rfl, f3⟩
   replace K4 := hideP (K4.out.fr f3)
   have F3 := hideP (F2.out.trans f3)
   clear f3 cs a0 a1
   have p0 := K4.out.cell 0 rfl
   have p1 := K4.out.cell 1 rfl
   have p2 := K4.out.cell 2 rfl
   have y0 := K4.out.frozen 0
   have y1 := K4.out.frozen 1
   have y2 := K4.out.frozen 2
   go_wp2_with fail
   have N4 := K4.out.put3 (.int .i64 yk) (.int .i64 yn) (.string ys)
   have r0 := N4.cell 0 rfl
   have r1 := N4.cell 1 rfl
   have r2 := N4.cell 2 rfl
   unfold put3 at r0 r1 r2
   refine bodyPost_ret (v := .tuple #[.agg #[.int .i64 yk, .int .i64 yn, .string ys], .int .i64 (0)]) ?_ rfl ⟨by rw [HZ.out]; rfl, F3.out.put3 (w.heap.size + 1 + 1) (by omega) _ _ _⟩
   simp [results, Tryz.results54, go_sem, r0, r1, r2]
 replace HK := hideP (HK.out.trans (if_neg hk2))
 have hk2' : (kind == 2) = false := beq_false_of_ne hk2
 obtain ⟨x0, t, rfl⟩ : ∃ x t, vs = x :: t := by cases vs with | nil => exact absurd rfl hv0 | cons x t => exact ⟨x, t, rfl⟩
 have htl : t.length ≤ 1000 := by simp at hvl; omega
 by_cases hk3 : kind = 3
 ·
  rw [if_pos hk3] at HK
  subst hk3
  have cs := farthest_any (.slice xa (x0 :: t).length xc) x0 t (-1) w2 HIs.out htl
  simp only [List.headD_cons] at HK
  generalize BG.far (-1) x0 (x0 :: t) = y at *
  generalize (x0 :: t).length = vl at *
  obtain ⟨yk, yn, ys⟩ := y
  simp only [vlV] at cs
  go_wp2_with fail
  refine cs.mono ?_
  rintro _ w3 ⟨rfl, f3⟩
  replace K4 := hideP (K4.out.fr f3)
  have F3 := hideP (F2.out.trans f3)
  clear f3 cs a0 a1
  have p0 := K4.out.cell 0 rfl
  have p1 := K4.out.cell 1 rfl
  have p2 := K4.out.cell 2 rfl
  have y0 := K4.out.frozen 0
  have y1 := K4.out.frozen 1
  have y2 := K4.out.frozen 2
  go_wp2_with fail
  have N4 := K4.out.put3 (.int .i64 yk) (.int .i64 yn) (.string ys)
  have r0 := N4.cell 0 rfl
  have r1 := N4.cell 1 rfl
  have r2 := N4.cell 2 rfl
  unfold put3 at r0 r1 r2
  refine bodyPost_ret (v := .tuple #[.agg #[.int .i64 yk, .int .i64 yn, .string ys], .int .i64 (0)]) ?_ rfl ⟨by rw [HK.out]; rfl, F3.out.put3 (w.heap.size + 1 + 1) (by omega) _ _ _⟩
  simp [results, Tryz.results54, go_sem, r0, r1, r2]
 ·
  rw [if_neg hk3] at HK
  have hk3' : (kind == 3) = false := beq_false_of_ne hk3
  have cs := farthest_any (.slice xa (x0 :: t).length xc) x0 t 1 w2 HIs.out htl
  simp only [List.headD_cons] at HK
  generalize BG.far 1 x0 (x0 :: t) = y at *
  generalize (x0 :: t).length = vl at *
  obtain ⟨yk, yn, ys⟩ := y
  simp only [vlV] at cs
  go_wp2_with fail
  refine cs.mono ?_
  rintro _ w3 ⟨rfl, f3⟩
  replace K4 := hideP (K4.out.fr f3)
  have F3 := hideP (F2.out.trans f3)
  clear f3 cs a0 a1
  have p0 := K4.out.cell 0 rfl
  have p1 := K4.out.cell 1 rfl
  have p2 := K4.out.cell 2 rfl
  have y0 := K4.out.frozen 0
  have y1 := K4.out.frozen 1
  have y2 := K4.out.frozen 2
  go_wp2_with fail
  have N4 := K4.out.put3 (.int .i64 yk) (.int .i64 yn) (.string ys)
  have r0 := N4.cell 0 rfl
  have r1 := N4.cell 1 rfl
  have r2 := N4.cell 2 rfl
  unfold put3 at r0 r1 r2
  refine bodyPost_ret (v := .tuple #[.agg #[.int .i64 yk, .int .i64 yn, .string ys], .int .i64 (0)]) ?_ rfl ⟨by rw [HK.out]; rfl, F3.out.put3 (w.heap.size + 1 + 1) (by omega) _ _ _⟩
  simp [results, Tryz.results54, go_sem, r0, r1, r2]
end Go.Proofs.YtbcfdhimngoplaaGreatDoor
namespace Go.Proofs.YtbcfdhimngoplaaGreatDoor
open Go.ChangeShapes Go.WideShapes Go.ChangeAt Go.RowKit
set_option linter.unusedVariables false
set_option linter.unusedSimpArgs false
set_option maxRecDepth 100000
set_option maxHeartbeats 2000000
def cdG : Cd BG.Ag := ⟨2, fun x => [.int .i64 x.kind, .int .i64 x.col], by decide, fun _ => rfl, fun x u h => by simp at h; rcases h with rfl | rfl <;> rfl⟩
theorem At.g2 {w : World} {b o : Nat} {l : List BG.Ag} (h : At cdG w b o l) (i : Nat) (hi : i < l.length) : w.cell? ⟨b, o + i * 2, none⟩ = some (.int .i64 l[i].kind) ∧ w.cell? ⟨b, o + i * 2 + 1, none⟩ = some (.int .i64 l[i].col) :=
 ⟨h (i * 2) _ (by have := flat_get cdG l i 0 hi (by decide); simpa [cdG] using this), h (i * 2 + 1) _ (by have := flat_get cdG l i 1 hi (by decide); simpa [cdG] using this)⟩
namespace BG
def kindOk (g : Ag) : Bool := decide (1 ≤ g.kind ∧ g.kind ≤ 4)
def colOk (ls : List (List VM.Vl)) (g : Ag) : Bool := hasC ls g.col || decide (g.kind = 1 ∧ g.col = -1)
def gE (ls : List (List VM.Vl)) (cs : List Int) (gs : List Ag) : Nat :=
 if 8 < cs.length + gs.length then 2 else if gs.all kindOk = false then 7 else if cs.all (hasC ls) = false then 3 else if gs.all (colOk ls) = false then 3 else 0
theorem all_drop' {α : Type} {p : α → Bool} {l : List α} {i : Nat} (hi : i < l.length) : (l.drop i).all p = (p l[i] && (l.drop (i + 1)).all p) := by
 rw [List.drop_eq_getElem_cons hi, List.all_cons]
end BG
theorem checkGroup_any (v cv gv : Value) (ls : List (List VM.Vl)) (cs : List Int) (gs : List BG.Ag) (w : World) (h : IsRR w v ls) (hc : IsL cdZ w cv cs) (hg : IsL cdG w gv gs) (hL : ls.length ≤ 9223372036854775806) (hC : cs.length ≤ 4611686018427387900) (hG : gs.length ≤ 4611686018427387900) :
  Calls Tryz.prog 52 #[v, cv, gv] w fun e w' => e = .returned (.int .i64 ((BG.gE ls cs gs : Nat) : Int)) ∧ Fr w w' := by
 have HK : Hid (BG.gE ls cs gs = if 8 < cs.length + gs.length then 2 else if gs.all BG.kindOk = false then 7 else if cs.all (BG.hasC ls) = false then 3 else if gs.all (BG.colOk ls) = false then 3 else 0) := rfl
 have HHc := hideP (fun col W (f : Fr w W) => hasColumn_any v ls col W (h.fr f) hL)
 obtain ⟨a, c, rfl⟩ := h.slice
 obtain ⟨ca, cc, rfl, hcc, hcs⟩ := hc
 obtain ⟨ga, gc, rfl, hgc, hgs⟩ := hg
 have HCs := hideP hcs
 have HGs := hideP hgs
 clear hcs hgs h
 generalize BG.gE ls cs gs = R at *
 by_cases h8 : 8 < cs.length + gs.length
 ·
  have HZ := hideP (HK.out.trans (if_pos h8))
  have h8' : (8 : Int) < (cs.length : Int) + (gs.length : Int) := by omega
  go_enter Tryz.func52, Tryz.ntmps52
  go_wp2_with fail
  go_ret
  exact ⟨by rw [HZ.out]; rfl, Fr.refl _⟩
 replace HK := hideP (HK.out.trans (if_neg h8))
 have h8' : ¬ (8 : Int) < (cs.length : Int) + (gs.length : Int) := by omega
 have hc8 : cs.length ≤ 8 := by omega
 have hg8 : gs.length ≤ 8 := by omega
 clear h8
 go_enter Tryz.func52, Tryz.ntmps52
 go_wp2_with fail
 clear h8'
 go_loopw [8, 21] (fun _ iv wr => ∃ i : Nat, iv = .int .i64 i ∧ i ≤ gs.length ∧ gs.all BG.kindOk = (gs.drop i).all BG.kindOk ∧ Fr w wr) (fun _ iv _ => gs.length - (intOf iv).toNat)
 case atStart => exact ⟨0, rfl, Nat.zero_le _, rfl, Fr.refl _⟩
 case round =>
  obtain ⟨i, rfl, hi, hal, hfr⟩ := hrel
  by_cases hlt : i < gs.length
  ·
   have hlt' : (i : Int) < (gs.length : Int) := by omega
   obtain ⟨b, o, rfl, hb, hat⟩ : ∃ b o, ga = some ⟨b, o, none⟩ ∧ b < w.heap.size ∧ At cdG w b o gs := by
    rcases HGs.out with h | h
    · rw [h] at hlt; simp at hlt
    · exact h
   obtain ⟨d0, d1⟩ := (hat.fr hb hfr).g2 i hlt
   rw [BG.all_drop' hlt] at hal
   generalize gs[i] = g at *
   obtain ⟨kind, col⟩ := g
   simp only at d0 d1
   have HAl := hideP hal
   have HFA := hideP (hfr.alloc (.cells #[.int .i64 kind, .int .i64 col] 66))
   clear hal hat hfr
   by_cases hk : 1 ≤ kind ∧ kind ≤ 4
   ·
    have HA2 := hideP (show gs.all BG.kindOk = (gs.drop (i + 1)).all BG.kindOk from HAl.out.trans (by simp [BG.kindOk, hk]))
    have k1 : ¬ kind < 1 := by omega
    have k2 : ¬ 4 < kind := by omega
    obtain ⟨hk3, hk4⟩ := hk
    go_wp2_with fail
    go_roundw
    case rel => exact ⟨i + 1, by go_num, by omega, HA2.out, HFA.out⟩
    case measure => simp [intOf]; omega
   ·
    have HZ := hideP (HK.out.trans (if_pos (HAl.out.trans (by simp [BG.kindOk]; omega))))
    by_cases k1 : kind < 1
    ·
     go_wp2_with fail
     go_ret
     exact ⟨by rw [HZ.out]; rfl, HFA.out⟩
    ·
     have k2 : 4 < kind := by omega
     go_wp2_with fail
     go_ret
     exact ⟨by rw [HZ.out]; rfl, HFA.out⟩
  ·
   obtain rfl : i = gs.length := by omega
   have hT : gs.all BG.kindOk = true := by rw [hal, List.drop_length]; rfl
   replace HK := hideP (HK.out.trans (if_neg (by rw [hT]; decide)))
   have HF := hideP hfr
   clear hal hT hfr
   go_wp2_with fail
   obtain ⟨w0, hw0⟩ : ∃ x, x = wr := ⟨_, rfl⟩
   go_loopw [10, 36] (fun _ iv W => ∃ i : Nat, iv = .int .i64 i ∧ i ≤ cs.length ∧ cs.all (BG.hasC ls) = (cs.drop i).all (BG.hasC ls) ∧ Fr w W) (fun _ iv _ => cs.length - (intOf iv).toNat)
   case atStart => exact ⟨0, rfl, Nat.zero_le _, rfl, HF.out⟩
   case round =>
    obtain ⟨i, rfl, hi, hal, hfr⟩ := hrel
    by_cases hlt : i < cs.length
    ·
     have hlt' : (i : Int) < (cs.length : Int) := by omega
     obtain ⟨b, o, rfl, hb, hat⟩ : ∃ b o, ca = some ⟨b, o, none⟩ ∧ b < w.heap.size ∧ At cdZ w b o cs := by
      rcases HCs.out with h | h
      · rw [h] at hlt; simp at hlt
      · exact h
     have d0 := (hat.fr hb hfr).zz i hlt
     rw [BG.all_drop' hlt] at hal
     generalize cs[i] = col at *
     have ch := HHc.out col _ hfr
     have HAl := hideP hal
     have HF2 := hideP hfr
     generalize BG.hasC ls col = hq at *
     clear hal hat hfr
     cases hq with
     | true =>
      go_wp2_with fail
      refine ch.mono ?_
      rintro _ w2 ⟨rfl, f2⟩
      have F2 := hideP (HF2.out.trans f2)
      clear f2
      go_wp2_with fail
      go_roundw
      case rel => exact ⟨i + 1, by go_num, by omega, HAl.out.trans (by simp), F2.out⟩
      case measure => simp [intOf]; omega
     | false =>
      have HZ := hideP (HK.out.trans (if_pos (HAl.out.trans (by simp))))
      go_wp2_with fail
      refine ch.mono ?_
      rintro _ w2 ⟨rfl, f2⟩
      have F2 := hideP (HF2.out.trans f2)
      clear f2
      go_wp2_with fail
      go_ret
      exact ⟨by rw [HZ.out]; rfl, F2.out⟩
    ·
     obtain rfl : i = cs.length := by omega
     have hT : cs.all (BG.hasC ls) = true := by rw [hal, List.drop_length]; rfl
     replace HK := hideP (HK.out.trans (if_neg (by rw [hT]; decide)))
     have HF2 := hideP hfr
     clear hal hT hfr
     go_wp2_with fail
     go_loopw [12, 47] (fun _ iv W => ∃ i : Nat, iv = .int .i64 i ∧ i ≤ gs.length ∧ gs.all (BG.colOk ls) = (gs.drop i).all (BG.colOk ls) ∧ Fr w W) (fun _ iv _ => gs.length - (intOf iv).toNat)
     case atStart => exact ⟨0, rfl, Nat.zero_le _, rfl, HF2.out⟩
     case round =>
      obtain ⟨i, rfl, hi, hal, hfr⟩ := hrel
      by_cases hlt : i < gs.length
      ·
       have hlt' : (i : Int) < (gs.length : Int) := by omega
       obtain ⟨b, o, rfl, hb, hat⟩ : ∃ b o, ga = some ⟨b, o, none⟩ ∧ b < w.heap.size ∧ At cdG w b o gs := by
        rcases HGs.out with h | h
        · rw [h] at hlt; simp at hlt
        · exact h
       obtain ⟨d0, d1⟩ := (hat.fr hb hfr).g2 i hlt
       rw [BG.all_drop' hlt] at hal
       generalize gs[i] = g at *
       obtain ⟨kind, col⟩ := g
       simp only at d0 d1
       have hco : BG.colOk ls ⟨kind, col⟩ = (BG.hasC ls col || decide (kind = 1 ∧ col = -1)) := rfl
       rw [hco] at hal
       have HFA := hideP (hfr.alloc (.cells #[.int .i64 kind, .int .i64 col] 66))
       have HB12 := hideP (Blk.new wr #[.int .i64 kind, .int .i64 col] 66)
       have ch := HHc.out col _ HFA.out
       have HAl := hideP hal
       generalize BG.hasC ls col = hq at *
       clear hal hat hfr hco
       cases hq with
       | true =>
        go_wp2_with fail
        refine ch.mono ?_
        rintro _ w2 ⟨rfl, f2⟩
        have F2 := hideP (HFA.out.trans f2)
        clear f2
        go_wp2_with fail
        go_roundw
        case rel => exact ⟨i + 1, by go_num, by omega, HAl.out.trans (by simp), F2.out⟩
        case measure => simp [intOf]; omega
       | false =>
        by_cases hka : kind = 1 ∧ col = -1
        ·
         have HA2 := hideP (show gs.all (BG.colOk ls) = (gs.drop (i + 1)).all (BG.colOk ls) from HAl.out.trans (by simp [hka]))
         obtain ⟨rfl, rfl⟩ := hka
         go_wp2_with fail
         refine ch.mono ?_
         rintro _ w2 ⟨rfl, f2⟩
         have F2 := hideP (HFA.out.trans f2)
         have p0 := (HB12.out.fr f2).cell 0 rfl
         have p1 := (HB12.out.fr f2).cell 1 rfl
         clear f2
         go_wp2_with fail
         go_roundw
         case rel => exact ⟨i + 1, by go_num, by omega, HA2.out, F2.out⟩
         case measure => simp [intOf]; omega
        ·
         have HZ := hideP (HK.out.trans (if_pos (HAl.out.trans (by simp [hka]))))
         go_wp2_with fail
         refine ch.mono ?_
         rintro _ w2 ⟨rfl, f2⟩
         have F2 := hideP (HFA.out.trans f2)
         have p0 := (HB12.out.fr f2).cell 0 rfl
         have p1 := (HB12.out.fr f2).cell 1 rfl
         have e1 : (kind == 1 && col == -1) = false := by simpa using hka
         have e2 : kind = 1 → ¬ col = -1 := fun h1 h2 => hka ⟨h1, h2⟩
         clear f2
         go_wp2_with fail
         all_goals (
          go_ret
          exact ⟨by rw [HZ.out]; rfl, F2.out⟩)
      ·
       obtain rfl : i = gs.length := by omega
       have hT : gs.all (BG.colOk ls) = true := by rw [hal, List.drop_length]; rfl
       have HZ := hideP (HK.out.trans (if_neg (by rw [hT]; decide)))
       have HF3 := hideP hfr
       clear hal hT hfr
       go_wp2_with fail
       go_ret
       exact ⟨by rw [HZ.out]; rfl, HF3.out⟩
end Go.Proofs.YtbcfdhimngoplaaGreatDoor
namespace Go.Proofs.YtbcfdhimngoplaaGreatDoor
open Go.ChangeShapes Go.WideShapes Go.ChangeAt Go.RowKit
set_option linter.unusedVariables false
set_option linter.unusedSimpArgs false
set_option maxRecDepth 100000
set_option maxHeartbeats 2000000
def cdR : Cd (Sq × Sq) := ⟨2, fun x => [.slice x.1.a x.1.n x.1.c, .slice x.2.a x.2.n x.2.c], by decide, fun _ => rfl, fun x u h => by simp at h; rcases h with rfl | rfl <;> rfl⟩
abbrev Gp := List VM.Vl × List (List VM.Vl)
def Apart (a b : Option Nat) : Prop := a = none ∨ a ≠ b
structure GP (w0 : World) (B : Nat) (pv : Value) (recs : List (Sq × Sq)) (gps : List Gp) (w : World) : Prop where
 own : w.ownsRow B 88 2 pv gps.length (flat cdR recs)
 len : recs.length = gps.length
 same : ∀ j (h1 : j < recs.length) (h2 : j < gps.length), w.ownsRow B 56 3 recs[j].1.v gps[j].1.length (flat cdV gps[j].1)
 rows : ∀ j (h1 : j < recs.length) (h2 : j < gps.length), ∃ qs : List Sq, qs.length = gps[j].2.length ∧ w.ownsRow B 31 1 recs[j].2.v gps[j].2.length (flat cdS qs) ∧ ∀ i (h3 : i < qs.length) (h4 : i < gps[j].2.length), IsL cdV w0 qs[i].v gps[j].2[i]
 apS : ∀ j k (h1 : j < recs.length) (h2 : k < recs.length), j ≠ k → Apart recs[j].1.v.ownBlock recs[k].1.v.ownBlock
 apR : ∀ j k (h1 : j < recs.length) (h2 : k < recs.length), j ≠ k → Apart recs[j].2.v.ownBlock recs[k].2.v.ownBlock
section
variable {w0 : World} {B : Nat} {pv : Value} {recs : List (Sq × Sq)} {gps : List Gp} {w w' : World}
theorem GP.nil (w0 : World) (B : Nat) (w : World) : GP w0 B (.slice none 0 0) [] [] w := ⟨World.ownsRow_nil _ _ _ _, rfl, fun j h => by simp at h, fun j h => by simp at h, fun j k h => by simp at h, fun j k h => by simp at h⟩
theorem GP.keep (h : GP w0 B pv recs gps w) (hk : ∀ (T : TypeId) (k : Nat) (cur : Array Value), (T = 88 ∨ T = 56 ∨ T = 31) → B ≤ k → w.heap[k]? = some (.cells cur T (0, 0)) → w'.heap[k]? = w.heap[k]?) : GP w0 B pv recs gps w' where
 own := own_keep h.own fun k cur hB hc => hk _ k cur (.inl rfl) hB hc
 len := h.len
 same := fun j h1 h2 => own_keep (h.same j h1 h2) fun k cur hB hc => hk _ k cur (.inr (.inl rfl)) hB hc
 rows := fun j h1 h2 => by
  obtain ⟨qs, q1, q2, q3⟩ := h.rows j h1 h2
  exact ⟨qs, q1, own_keep q2 fun k cur hB hc => hk _ k cur (.inr (.inr rfl)) hB hc, q3⟩
 apS := h.apS
 apR := h.apR
theorem GP.fr (h : GP w0 B pv recs gps w) (f : Fr w w') : GP w0 B pv recs gps w' := h.keep fun T k cur _ _ hc => f.block k (Array.getElem?_eq_some_iff.1 hc).1
theorem GP.map (h : GP w0 B pv recs gps w) {b : Nat} (hb : ∃ es clk, w.heap[b]? = some (.map es clk)) (g : w.grownBy w' (some b)) : GP w0 B pv recs gps w' := h.keep fun T k cur _ _ hc => g.block k (Array.getElem?_eq_some_iff.1 hc).1 (by
 intro e
 obtain ⟨es, clk, hb⟩ := hb
 cases e
 rw [hc] at hb
 cases hb)
theorem GP.slice (h : GP w0 B pv recs gps w) : ∃ a c, pv = .slice a gps.length c := own_slice h.own
theorem GP.more (h : GP w0 B pv recs gps w) {s : Sq} {same : List VM.Vl} {Bs : Nat} (hs : w.ownsRow Bs 56 3 s.v same.length (flat cdV same)) (hB : B ≤ Bs) (hlow : ∀ j (h1 : j < recs.length) g, recs[j].1.v.ownBlock = some g → g < Bs)
  {pv' : Value} (ho : w'.ownsRow B 88 2 pv' (gps.length + 1) (flat cdR (recs ++ [(s, ⟨none, 0, 0⟩)]))) (g : w.grownBy w' pv.ownBlock) : GP w0 B pv' (recs ++ [(s, ⟨none, 0, 0⟩)]) (gps ++ [(same, [])]) w' := by
 have key : ∀ {B' T sz n : Nat} {v : Value} {xs : List Value}, 88 ≠ T → w.ownsRow B' T sz v n xs → w'.ownsRow B' T sz v n xs := fun hT h' => own_grownT h' hT (own_block h.own) g
 have e1 : ∀ j (h1 : j < recs.length) (h2 : j < (recs ++ [(s, (⟨none, 0, 0⟩ : Sq))]).length), (recs ++ [(s, (⟨none, 0, 0⟩ : Sq))])[j] = recs[j] := fun j h1 h2 => List.getElem_append_left h1
 have e2 : ∀ (h2 : recs.length < (recs ++ [(s, (⟨none, 0, 0⟩ : Sq))]).length), (recs ++ [(s, (⟨none, 0, 0⟩ : Sq))])[recs.length] = (s, ⟨none, 0, 0⟩) := fun h2 => by simp
 have cs : ∀ j, j < (recs ++ [(s, (⟨none, 0, 0⟩ : Sq))]).length → j < recs.length ∨ j = recs.length := fun j hj => by rw [List.length_append] at hj; simp at hj; omega
 refine ⟨by rw [List.length_append]; exact ho, by simp [h.len], fun j h1 h2 => ?_, fun j h1 h2 => ?_, fun j k h1 h2 hne => ?_, fun j k h1 h2 hne => ?_⟩
 ·
  rcases cs j h1 with hj | rfl
  ·
   have e3 : (gps ++ [(same, ([] : List (List VM.Vl)))])[j] = gps[j]'(by rw [← h.len]; exact hj) := List.getElem_append_left _
   rw [e1 j hj h1, e3]
   exact key (by decide) (h.same j hj _)
  ·
   have e3 : (gps ++ [(same, ([] : List (List VM.Vl)))])[recs.length] = (same, []) := by simp [h.len]
   rw [e2 h1, e3]
   exact key (by decide) (own_low hs hB)
 ·
  rcases cs j h1 with hj | rfl
  ·
   have e3 : (gps ++ [(same, ([] : List (List VM.Vl)))])[j] = gps[j]'(by rw [← h.len]; exact hj) := List.getElem_append_left _
   rw [e1 j hj h1, e3]
   obtain ⟨qs, q1, q2, q3⟩ := h.rows j hj (by rw [← h.len]; exact hj)
   exact ⟨qs, q1, key (by decide) q2, q3⟩
  ·
   have e3 : (gps ++ [(same, ([] : List (List VM.Vl)))])[recs.length] = (same, []) := by simp [h.len]
   rw [e2 h1, e3]
   exact ⟨[], rfl, World.ownsRow_nil _ _ _ _, fun i h3 => by simp at h3⟩
 ·
  rcases cs j h1 with hj | rfl
  ·
   rcases cs k h2 with hk | rfl
   · rw [e1 j hj h1, e1 k hk h2]; exact h.apS j k hj hk hne
   ·
    rw [e1 j hj h1, e2 h2]
    cases hq : recs[j].1.v.ownBlock with
    | none => exact .inl rfl
    | some g1 =>
     right
     intro e
     have a1 := hlow j hj g1 hq
     have a2 := own_base hs g1 e.symm
     omega
  ·
   rcases cs k h2 with hk | rfl
   ·
    rw [e2 h1, e1 k hk h2]
    cases hq : s.v.ownBlock with
    | none => exact .inl rfl
    | some g1 =>
     right
     intro e
     have a1 := hlow k hk g1 e.symm
     have a2 := own_base hs g1 hq
     omega
   · exact absurd rfl hne
 ·
  rcases cs j h1 with hj | rfl
  ·
   rcases cs k h2 with hk | rfl
   · rw [e1 j hj h1, e1 k hk h2]; exact h.apR j k hj hk hne
   ·
    rw [e1 j hj h1, e2 h2]
    cases hq : recs[j].2.v.ownBlock with
    | none => exact .inl rfl
    | some g1 => right; intro e; cases e
  · rw [e2 h1]; exact .inl rfl
theorem flat_setR : ∀ (recs : List (Sq × Sq)) (p : Nat) (h : p < recs.length) (x : Sq), (flat cdR recs).set (p * 2 + 1) (.slice x.a x.n x.c) = flat cdR (recs.set p (recs[p].1, x))
 | r :: t, 0, _, x => by simp [flat, cdR]
 | r :: t, p + 1, h, x => by
  have ih := flat_setR t p (by simpa using h) x
  have e : (p + 1) * 2 + 1 = (p * 2 + 1) + 2 := by omega
  rw [e, List.set_cons_succ]
  simp only [flat_cons]
  rw [List.set_append_right _ _ (by simp [cdR])]
  have e2 : p * 2 + 1 + 2 - (cdR.c r).length = p * 2 + 1 := by simp [cdR]
  rw [e2, ih]
  simp
theorem own_put' {B n sz g j c : Nat} {T : TypeId} {u : Value} {xs : List Value} {w : World} (h : w.ownsRow B T sz (.slice (some ⟨g, 0, none⟩) n c) n xs) : (w.setCell ⟨g, j, none⟩ u).ownsRow B T sz (.slice (some ⟨g, 0, none⟩) n c) n (xs.set j u) := by
 refine ⟨by rw [List.length_set]; exact h.1, ?_⟩
 rcases h.2 with ⟨e, _⟩ | ⟨g', cap, cur, e, h2, h3, h4, h5, h6, h7⟩
 · cases e
 ·
  cases e
  right
  refine ⟨g, c, cur.setIfInBounds j u, rfl, h2, Blk.set (T := T) h3 j u, h4, h5, by rw [Array.size_setIfInBounds]; exact h6, ?_⟩
  rw [Array.toList_setIfInBounds, List.take_set, h7]
theorem GP.add {G c p : Nat} (h : GP w0 B (.slice (some ⟨G, 0, none⟩) gps.length c) recs gps w) (hp : p < recs.length) (hp2 : p < gps.length) {w1 : World} {x : Sq} {qs : List Sq} {q : Sq} {r : List VM.Vl} (hqs : qs.length = gps[p].2.length) (hqi : ∀ i (h3 : i < qs.length) (h4 : i < gps[p].2.length), IsL cdV w0 qs[i].v gps[p].2[i]) (hq : IsL cdV w0 q.v r)
  (hold : w.ownsRow B 31 1 recs[p].2.v gps[p].2.length (flat cdS qs)) (ho : w1.ownsRow B 31 1 x.v (gps[p].2.length + 1) (flat cdS (qs ++ [q]))) (gr : w.grownBy w1 recs[p].2.v.ownBlock) (hw : x.v.ownBlock = recs[p].2.v.ownBlock ∨ ∃ g, x.v.ownBlock = some g ∧ w.heap.size ≤ g) :
  GP w0 B (.slice (some ⟨G, 0, none⟩) gps.length c) (recs.set p (recs[p].1, x)) (gps.set p (gps[p].1, gps[p].2 ++ [r])) (w1.setCell ⟨G, p * 2 + 1, none⟩ (.slice x.a x.n x.c)) := by
 have key : ∀ {B' T sz n : Nat} {v : Value} {xs : List Value}, 31 ≠ T → w.ownsRow B' T sz v n xs → w1.ownsRow B' T sz v n xs := fun hT h' => own_grownT h' hT (own_block hold) gr
 have hpv := key (by decide) h.own
 obtain ⟨cur, hcur⟩ := own_block hpv G rfl
 have keep : ∀ {B' T sz n : Nat} {v : Value} {xs : List Value}, 88 ≠ T → w1.ownsRow B' T sz v n xs → (w1.setCell ⟨G, p * 2 + 1, none⟩ (.slice x.a x.n x.c)).ownsRow B' T sz v n xs := fun hT h' => own_keep h' fun k cur' hk hkc => by
  have hne : G ≠ k := by
   rintro rfl
   rw [hcur] at hkc
   simp only [Option.some.injEq, Obj.cells.injEq] at hkc
   exact hT hkc.2.1
  simp only [World.setCell, Array.getElem?_modify, if_neg hne]
 have eR : ∀ j (h1 : j < (recs.set p (recs[p].1, x)).length), (recs.set p (recs[p].1, x))[j] = if p = j then (recs[p].1, x) else recs[j]'(by simpa using h1) := fun j h1 => by rw [List.getElem_set]
 have eG : ∀ j (h1 : j < (gps.set p (gps[p].1, gps[p].2 ++ [r])).length), (gps.set p (gps[p].1, gps[p].2 ++ [r]))[j] = if p = j then (gps[p].1, gps[p].2 ++ [r]) else gps[j]'(by simpa using h1) := fun j h1 => by rw [List.getElem_set]
 have lt : ∀ j (h1 : j < recs.length) g, recs[j].2.v.ownBlock = some g → g < w.heap.size := fun j h1 g hg => by
  obtain ⟨qs', _, q2, _⟩ := h.rows j h1 (by rw [← h.len]; exact h1)
  exact (q2.lt g hg).2
 refine ⟨?_, by simp [h.len], fun j h1 h2 => ?_, fun j h1 h2 => ?_, fun j k h1 h2 hne => ?_, fun j k h1 h2 hne => ?_⟩
 ·
  rw [List.length_set, ← flat_setR recs p hp x]
  exact own_put' hpv
 ·
  have hj : j < recs.length := by simpa using h1
  have hj2 : j < gps.length := by simpa using h2
  rw [eR j h1, eG j h2]
  have := h.same j hj hj2
  by_cases e : p = j
  ·
   subst e
   rw [if_pos rfl, if_pos rfl]
   exact keep (by decide) (key (by decide) this)
  ·
   rw [if_neg e, if_neg e]
   exact keep (by decide) (key (by decide) this)
 ·
  have hj : j < recs.length := by simpa using h1
  have hj2 : j < gps.length := by simpa using h2
  rw [eR j h1, eG j h2]
  by_cases e : p = j
  ·
   subst e
   rw [if_pos rfl, if_pos rfl]
   refine ⟨qs ++ [q], by simp [hqs], by rw [List.length_append]; exact keep (by decide) ho, fun i h3 h4 => ?_⟩
   by_cases hi : i < qs.length
   ·
    have e1 : (qs ++ [q])[i] = qs[i] := List.getElem_append_left hi
    have e2 : (gps[p].2 ++ [r])[i] = gps[p].2[i]'(by omega) := List.getElem_append_left _
    rw [e1]
    show IsL cdV w0 qs[i].v (gps[p].2 ++ [r])[i]
    rw [e2]
    exact hqi i hi (by omega)
   ·
    have hi2 : i = qs.length := by rw [List.length_append] at h3; simp at h3; omega
    subst hi2
    have e1 : (qs ++ [q])[qs.length] = q := by simp
    have e2 : (gps[p].2 ++ [r])[qs.length]'(by simp; omega) = r := by simp [hqs]
    rw [e1]
    show IsL cdV w0 q.v ((gps[p].2 ++ [r])[qs.length]'(by simp; omega))
    rw [e2]
    exact hq
  ·
   rw [if_neg e, if_neg e]
   obtain ⟨qs', q1, q2, q3⟩ := h.rows j hj hj2
   exact ⟨qs', q1, keep (by decide) (q2.kept gr (h.apR j p hj hp (Ne.symm e))), q3⟩
 ·
  have hj : j < recs.length := by simpa using h1
  have hk : k < recs.length := by simpa using h2
  rw [eR j h1, eR k h2]
  have := h.apS j k hj hk hne
  by_cases e1 : p = j
  ·
   subst e1
   rw [if_pos rfl, if_neg hne]
   exact this
  ·
   rw [if_neg e1]
   by_cases e2 : p = k
   · subst e2; rw [if_pos rfl]; exact this
   · rw [if_neg e2]; exact this
 ·
  have hj : j < recs.length := by simpa using h1
  have hk : k < recs.length := by simpa using h2
  rw [eR j h1, eR k h2]
  by_cases e1 : p = j
  ·
   subst e1
   rw [if_pos rfl, if_neg hne]
   show Apart x.v.ownBlock recs[k].2.v.ownBlock
   rcases hw with e | ⟨g, hg, hge⟩
   · rw [e]; exact h.apR p k hj hk hne
   ·
    right
    intro e
    have := lt k hk g (e ▸ hg)
    omega
  ·
   rw [if_neg e1]
   by_cases e2 : p = k
   ·
    subst e2
    rw [if_pos rfl]
    show Apart recs[j].2.v.ownBlock x.v.ownBlock
    rcases hw with e | ⟨g, hg, hge⟩
    · rw [e]; exact h.apR j p hj hk hne
    ·
     cases hq' : recs[j].2.v.ownBlock with
     | none => exact .inl rfl
     | some g1 =>
      right
      intro e
      have := lt j hj g1 hq'
      rw [hg] at e
      injection e with e
      omega
   ·
    rw [if_neg e2]
    exact h.apR j k hj hk hne
end
end Go.Proofs.YtbcfdhimngoplaaGreatDoor
namespace Go.Proofs.YtbcfdhimngoplaaGreatDoor
open Go.ChangeShapes Go.WideShapes Go.ChangeAt Go.RowKit Go.Maps
set_option linter.unusedVariables false
set_option linter.unusedSimpArgs false
set_option maxRecDepth 100000
set_option maxHeartbeats 4000000
theorem append_where {P : Program} {w : World} (base : Nat) (t ty e : TypeId) (i : TypeInfo) (z : Value) (size bytes : Nat) (ht : P.underlying t = some (.slice e)) (hi : P.info? e = some i) (hz : i.zero = some z)
  (hsize : i.size = size) (hby : i.bytes = bytes) (g n cap : Nat) (xs : List Value) (hown : w.ownsRow base e size (.slice (some ⟨g, 0, none⟩) n cap) n xs)
  (a : Addr) (m c : Nat) (news : List Value) (hl : news.length = m * size) (hnews : ∀ j u, news[j]? = some u → w.cell? (a.add j) = some u) (h1 : ∀ u ∈ news, u.oneCell' = true)
  (h63 : n + m ≤ maxLen) (hbytes : (n + m) * bytes ≤ 140737488355328) {v' : Value} {w' : World}
  (hr : (Builtin.append_ #[t, t] ty #[.slice (some ⟨g, 0, none⟩) n cap, .slice (some a) m c]).run P w = .ok v' w') : v'.ownBlock = some g ∨ v'.ownBlock = some w.heap.size := by
 subst hsize
 subst hby
 have hsmall : n + m ≤ 9223372036854775807 := by simp only [maxLen] at h63; omega
 rcases hown.2 with ⟨h, _⟩ | ⟨g', cap', cur, e1, hbg, hg, hnc, hcm, hcs, htake⟩
 · cases h
 ·
  cases e1
  by_cases hroom : n + m ≤ cap
  ·
   have hfit : n * i.size + news.length ≤ cur.size := by rw [hl, hcs, ← Nat.add_mul]; exact Nat.mul_le_mul_right _ hroom
   rw [run_append_room (P := P) w t ty e i ht hi g n cap cur hg a m c news hl hnews h1 hroom hfit] at hr
   cases hr
   exact .inl rfl
  ·
   have holds : ∀ j u, xs[j]? = some u → w.cell? ((⟨g, 0, none⟩ : Addr).add j) = some u := hown.cells (g := g) rfl
   rw [run_append_grow (P := P) w t ty e i z ht hi hz ⟨g, 0, none⟩ n cap xs hown.1 holds a m c news hl hnews (by omega) (by omega) (growslice_fits (by omega) hbytes)] at hr
   cases hr
   exact .inr rfl
theorem wp_append_LW {α : Type} (E : Cd α) {w : World} {o : Oper} {a : Act} {K : Act → World → Prop} {Q : Exit → Act → World → Prop} (s x : Operand) (t e : TypeId) (i : TypeInfo) (z : Value) (by_ : Nat)
  (ho : o.op = .call { callee := .builtin .append, args := #[s, x], argTypes := #[t, t] })
  (ht : Tryz.prog.underlying t = some (.slice e)) (hi : Tryz.prog.info? e = some i) (hz : i.zero = some z) (hs1 : i.size = E.k) (hby : i.bytes = by_) (hzs : z.cells.size = E.k)
  (base : Nat) (g n cap0 : Nat) (xs : List α) (hs : a.eval s = .slice (some ⟨g, 0, none⟩) n cap0) (hown : w.ownsRow base e E.k (.slice (some ⟨g, 0, none⟩) n cap0) n (flat E xs))
  (u : Value) (l : List α) (hx : a.eval x = u) (hl : IsL E w u l) (hm : n + l.length ≤ maxLen) (hsz : (n + l.length) * by_ ≤ 140737488355328) (hbase : base ≤ w.heap.size)
  (h : ∀ v' w', w'.ownsRow base e E.k v' (n + l.length) (flat E (xs ++ l)) → w.grownBy w' (some g) → (v'.ownBlock = some g ∨ v'.ownBlock = some w.heap.size) → K (a.put o.dst v') w') : o.wp Tryz.prog a w K Q := by
 obtain ⟨A, cap, rfl, hc, hcs⟩ := hl
 cases A with
 | none =>
  have h0 : l = [] := by
   rcases hcs with h0 | ⟨b, o', hA, _⟩
   · exact h0
   · cases hA
  subst h0
  have hrun := run_append_cap0 (P := Tryz.prog) (w := w) base t o.type e i E.k cap ht hi _ n (flat E xs) hown
  unfold Oper.wp
  simp only [List.length_nil] at hx
  simp [execOp, ho, resolve, invoke, builtin, hs, hx, hrun, Result.andThen]
  exact h _ w (by simpa using hown) (grown_same w _) (.inl rfl)
 | some A =>
  have hnews : ∀ j u, (flat E l)[j]? = some u → w.cell? (A.add j) = some u := by
   rcases hcs with h0 | ⟨b, o', hA, hb, hcc⟩
   ·
    subst h0
    intro j u hu
    simp [flat] at hu
   ·
    simp only [Option.some.injEq] at hA
    subst hA
    intro j u hu
    rw [Addr.add_lit]
    exact hcc j u hu
  obtain ⟨v', w', hr, h2, h3, h4⟩ := run_append_own (P := Tryz.prog) w base t o.type e i z E.k by_ ht hi hz hs1 hby hzs E.pos _ n (flat E xs) hown A l.length cap (flat E l) (flat_len E l) hnews (flat_one E l) hm hsz hbase
  have h5 := append_where base t o.type e i z E.k by_ ht hi hz hs1 hby g n cap0 (flat E xs) hown A l.length cap (flat E l) (flat_len E l) hnews (flat_one E l) hm hsz hr
  unfold Oper.wp execOp
  simp only [ho, resolve, invoke, builtin, Sem.run_bind, Sem.run_pure, Result.andThen_ok, List.map_toArray, List.map_cons, List.map_nil, hs, hx, hr]
  exact h v' w' (by rw [flat_app]; exact h2) h3 h5
theorem wpList_append_LW {α : Type} (E : Cd α) {w : World} {ops : Array Oper} {rest : List Oper} {o : Oper} {a : Act} {Q : Exit → Act → World → Prop} (hgd : o.guard = none) (s x : Operand) (t e : TypeId) (i : TypeInfo) (z : Value) (by_ : Nat)
  (ho : o.op = .call { callee := .builtin .append, args := #[s, x], argTypes := #[t, t] })
  (ht : Tryz.prog.underlying t = some (.slice e)) (hi : Tryz.prog.info? e = some i) (hz : i.zero = some z) (hs1 : i.size = E.k) (hby : i.bytes = by_) (hzs : z.cells.size = E.k)
  (base : Nat) (g n cap0 : Nat) (xs : List α) (hs : a.eval s = .slice (some ⟨g, 0, none⟩) n cap0) (hown : w.ownsRow base e E.k (.slice (some ⟨g, 0, none⟩) n cap0) n (flat E xs))
  (u : Value) (l : List α) (hx : a.eval x = u) (hl : IsL E w u l) (hm : n + l.length ≤ maxLen) (hsz : (n + l.length) * by_ ≤ 140737488355328) (hbase : base ≤ w.heap.size)
  (h : ∀ v' w', w'.ownsRow base e E.k v' (n + l.length) (flat E (xs ++ l)) → w.grownBy w' (some g) → (v'.ownBlock = some g ∨ v'.ownBlock = some w.heap.size) → wpList Tryz.prog ops Q rest (a.put o.dst v') w') : wpList Tryz.prog ops Q (o :: rest) a w :=
 wpList_plain hgd fun _ hK => wp_append_LW E s x t e i z by_ ho ht hi hz hs1 hby hzs base g n cap0 xs hs hown u l hx hl hm hsz hbase fun v' w' h2 h3 h4 => hK _ _ (h v' w' h2 h3 h4)
namespace BG
open VM
def stepG (cs : List Int) (gps : List Gp) (r : List Vl) : List Gp :=
 let s := pck r cs
 let p := plc (gps.map (·.1)) s
 let g2 := if p = gps.length then gps ++ [(s, [])] else gps
 g2.set p ((g2.getD p ([], [])).1, (g2.getD p ([], [])).2 ++ [r])
def grp (cs : List Int) (ls : List (List Vl)) : List Gp := ls.foldl (stepG cs) []
theorem grp_step (cs : List Int) (ls : List (List Vl)) (i : Nat) (h : i < ls.length) : grp cs (ls.take (i + 1)) = stepG cs (grp cs (ls.take i)) ls[i] := by
 unfold grp
 rw [List.take_succ_eq_append_getElem h, List.foldl_append]
 rfl
theorem set_fst (g2 : List Gp) (p : Nat) (x : List (List Vl)) : (g2.set p ((g2.getD p ([], [])).1, x)).map (·.1) = g2.map (·.1) := by
 rw [List.map_set]
 by_cases h : p < g2.length
 ·
  have e : (g2.getD p ([], [])).1 = (g2.map (·.1))[p]'(by simpa using h) := by
   rw [List.getD_eq_getElem?_getD, List.getElem?_eq_getElem h]; simp
  show (g2.map (·.1)).set p ((g2.getD p ([], [])).1) = _
  rw [e, List.set_getElem_self]
 · rw [List.set_eq_of_length_le (by simpa using h)]
theorem step_keys (cs : List Int) (gps : List Gp) (r : List Vl) : (stepG cs gps r).map (·.1) = add (gps.map (·.1)) (pck r cs) := by
 unfold stepG
 simp only
 rw [set_fst]
 by_cases h : plc (gps.map (·.1)) (pck r cs) = gps.length
 ·
  rw [if_pos h, plc_new (by rw [h, List.length_map])]
  simp
 · rw [if_neg h, plc_old (by rw [List.length_map]; exact h)]
theorem plc_le (fs : List (List Vl)) (r : List Vl) : plc fs r ≤ fs.length := by
 unfold plc
 cases hq : at? r fs with
 | none => simp
 | some i => have := at?_lt hq; simp; omega
theorem step_len (cs : List Int) (gps : List Gp) (r : List Vl) : (stepG cs gps r).length ≤ gps.length + 1 := by
 have h1 := congrArg List.length (step_keys cs gps r)
 rw [List.length_map] at h1
 have h2 := add_len (gps.map (·.1)) (pck r cs)
 rw [List.length_map] at h2
 omega
end BG
theorem At.r2 {w : World} {b o : Nat} {l : List (Sq × Sq)} (h : At cdR w b o l) (i : Nat) (hi : i < l.length) : w.cell? ⟨b, o + i * 2 + 1, none⟩ = some (.slice l[i].2.a l[i].2.n l[i].2.c) := by
 have := h (i * 2 + 1) (.slice l[i].2.a l[i].2.n l[i].2.c) (by have := flat_get cdR l i 1 hi (by decide); simpa [cdR] using this)
 rwa [← Nat.add_assoc] at this
theorem Tryz.infoGp : (Tryz.prog.info? 88).map (fun i => (i.zero, i.size, i.bytes)) = some (some (.agg #[.slice none 0 0, .slice none 0 0]), 2, 48) := by kernel_rfl
theorem Tryz.sizeGp : (Tryz.prog.info? 88).map (·.size) = some 2 := by kernel_rfl
end Go.Proofs.YtbcfdhimngoplaaGreatDoor
namespace Go.Proofs.YtbcfdhimngoplaaGreatDoor
open Go.ChangeShapes Go.WideShapes Go.ChangeAt Go.RowKit Go.Maps
set_option linter.unusedVariables false
set_option linter.unusedSimpArgs false
set_option maxRecDepth 100000
set_option maxHeartbeats 4000000
theorem wpList_append_LA {α : Type} (E : Cd α) {w : World} {ops : Array Oper} {rest : List Oper} {o : Oper} {a : Act} {Q : Exit → Act → World → Prop} (hgd : o.guard = none) (s x : Operand) (t e : TypeId) (i : TypeInfo) (z : Value) (by_ : Nat)
  (ho : o.op = .call { callee := .builtin .append, args := #[s, x], argTypes := #[t, t] })
  (ht : Tryz.prog.underlying t = some (.slice e)) (hi : Tryz.prog.info? e = some i) (hz : i.zero = some z) (hs1 : i.size = E.k) (hby : i.bytes = by_) (hzs : z.cells.size = E.k)
  (base : Nat) (sv : Value) (n : Nat) (xs : List α) (hs : a.eval s = sv) (hown : w.ownsRow base e E.k sv n (flat E xs))
  (u : Value) (l : List α) (hx : a.eval x = u) (hl : IsL E w u l) (hm : n + l.length ≤ maxLen) (hsz : (n + l.length) * by_ ≤ 140737488355328) (hbase : base ≤ w.heap.size)
  (h : ∀ v' w', w'.ownsRow base e E.k v' (n + l.length) (flat E (xs ++ l)) → w.grownBy w' sv.ownBlock → (v'.ownBlock = sv.ownBlock ∨ ∃ g, v'.ownBlock = some g ∧ w.heap.size ≤ g) → wpList Tryz.prog ops Q rest (a.put o.dst v') w') : wpList Tryz.prog ops Q (o :: rest) a w := by
 rcases hown.2 with ⟨rfl, h0⟩ | ⟨g, cap, cur, rfl, h2, h3, h4⟩
 ·
  subst h0
  have hx0 : xs = [] := by
   have := hown.1
   rw [flat_len] at this
   have hp := E.pos
   cases xs with
   | nil => rfl
   | cons y t => simp only [List.length_cons, Nat.zero_mul] at this; exact absurd this (Nat.ne_of_gt (Nat.mul_pos (Nat.succ_pos _) hp))
  subst hx0
  refine wpList_append_L E hgd s x t e i z by_ ho ht hi hz hs1 hby hzs w.heap.size (.slice none 0 0) 0 [] hs (World.ownsRow_nil _ _ _ _) u l hx hl hm hsz (Nat.le_refl _) fun v' w' o1 g1 => ?_
  refine h v' w' (own_low o1 hbase) g1 ?_
  cases hq : v'.ownBlock with
  | none => exact .inl rfl
  | some g => exact .inr ⟨g, rfl, own_base o1 g hq⟩
 ·
  refine wpList_append_LW E hgd s x t e i z by_ ho ht hi hz hs1 hby hzs base g n cap xs hs hown u l hx hl hm hsz hbase fun v' w' o1 g1 hw => ?_
  refine h v' w' o1 g1 ?_
  rcases hw with hw | hw
  · exact .inl hw
  · exact .inr ⟨_, hw, Nat.le_refl _⟩
theorem BG.grp_len (cs : List Int) (ls : List (List VM.Vl)) : ∀ i, i ≤ ls.length → (BG.grp cs (ls.take i)).length ≤ i
 | 0, _ => by simp [BG.grp]
 | i + 1, h => by
  rw [BG.grp_step cs ls i (by omega)]
  have := BG.grp_len cs ls i (by omega)
  have := BG.step_len cs (BG.grp cs (ls.take i)) ls[i]
  omega
theorem BG.grp_keys (cs : List Int) (ls : List (List VM.Vl)) : ∀ i, i ≤ ls.length → ∀ x ∈ (BG.grp cs (ls.take i)).map (·.1), ∃ r ∈ ls, x = BG.pck r cs
 | 0, _, x, hx => by simp [BG.grp] at hx
 | i + 1, h, x, hx => by
  rw [BG.grp_step cs ls i (by omega), BG.step_keys] at hx
  rcases BG.mem_add hx with hx | hx
  · exact BG.grp_keys cs ls i (by omega) x hx
  · exact ⟨_, List.getElem_mem _, hx⟩
theorem BG.step_rows (cs : List Int) (gps : List Gp) (r : List VM.Vl) (m : Nat) (h : ∀ g ∈ gps, g.2.length ≤ m) : ∀ g ∈ BG.stepG cs gps r, g.2.length ≤ m + 1 := by
 intro g hg
 unfold BG.stepG at hg
 simp only at hg
 generalize hg2 : (if BG.plc (gps.map (·.1)) (BG.pck r cs) = gps.length then gps ++ [(BG.pck r cs, ([] : List (List VM.Vl)))] else gps) = g2 at *
 have h2 : ∀ g ∈ g2, g.2.length ≤ m := by
  rw [← hg2]
  split
  ·
   intro g hg
   rw [List.mem_append] at hg
   rcases hg with hg | hg
   · exact h g hg
   · simp at hg; rw [hg]; simp
  · exact h
 rcases List.mem_or_eq_of_mem_set hg with hg | hg
 · have := h2 g hg; omega
 ·
  rw [hg]
  simp only [List.length_append, List.length_cons, List.length_nil]
  by_cases hp : BG.plc (gps.map (·.1)) (BG.pck r cs) < g2.length
  ·
   have := h2 (g2.getD (BG.plc (gps.map (·.1)) (BG.pck r cs)) ([], [])) (by rw [List.getD_eq_getElem?_getD, List.getElem?_eq_getElem hp]; exact List.getElem_mem hp)
   omega
  ·
   rw [List.getD_eq_getElem?_getD, List.getElem?_eq_none (by omega)]
   simp
theorem BG.grp_rows (cs : List Int) (ls : List (List VM.Vl)) : ∀ i, i ≤ ls.length → ∀ g ∈ BG.grp cs (ls.take i), g.2.length ≤ i
 | 0, _, g, hg => by simp [BG.grp] at hg
 | i + 1, h, g, hg => by
  rw [BG.grp_step cs ls i (by omega)] at hg
  exact BG.step_rows cs _ _ i (BG.grp_rows cs ls i (by omega)) g hg
theorem chkAll_of : ∀ {l : List VM.Vl}, (∀ x ∈ l, VM.chk x = 0) → VM.chkAll l = 0
 | [], _ => rfl
 | x :: t, h => by
  unfold VM.chkAll
  have h1 := h x (by simp)
  have h2 := chkAll_of (l := t) fun y hy => h y (by simp [hy])
  simp [h1, h2]
theorem chk_pck {r : List VM.Vl} {cs : List Int} (hc : VM.chkAll r = 0) (hin : ∀ c ∈ cs, 0 ≤ c ∧ c < (r.length : Int)) : VM.chkAll (BG.pck r cs) = 0 := by
 have hall := WM.chkAll_ok hc
 refine chkAll_of fun x hx => ?_
 unfold BG.pck at hx
 rw [List.mem_map] at hx
 obtain ⟨c, hcm, rfl⟩ := hx
 obtain ⟨a, b⟩ := hin c hcm
 refine hall _ ?_
 have hlt : c.toNat < r.length := by omega
 rw [List.getD_eq_getElem?_getD, List.getElem?_eq_getElem hlt]
 exact List.getElem_mem hlt
theorem mem_pck {r : List VM.Vl} {cs : List Int} (hin : ∀ c ∈ cs, 0 ≤ c ∧ c < (r.length : Int)) {x : VM.Vl} (hx : x ∈ BG.pck r cs) : x ∈ r := by
 unfold BG.pck at hx
 rw [List.mem_map] at hx
 obtain ⟨c, hcm, rfl⟩ := hx
 obtain ⟨a, b⟩ := hin c hcm
 have hlt : c.toNat < r.length := by omega
 rw [List.getD_eq_getElem?_getD, List.getElem?_eq_getElem hlt]
 exact List.getElem_mem hlt
theorem GP.blk {w0 : World} {B : Nat} {recs : List (Sq × Sq)} {gps : List Gp} {w : World} {a : Option Addr} {n c : Nat} (h : GP w0 B (.slice a n c) recs gps w) (h0 : 0 < gps.length) : ∃ G, a = some ⟨G, 0, none⟩ ∧ n = gps.length ∧ B ≤ G ∧ gps.length ≤ c ∧ At cdR w G 0 recs ∧ (∃ arr, Blk w G arr 88 ∧ (∀ j, j < gps.length * 2 → ∃ u, arr[j]? = some u)) := by
 rcases h.own.2 with ⟨h1, h2⟩ | ⟨g, cap, cur, e, h2, h3, h4, h5, h6, h7⟩
 · omega
 ·
  cases e
  refine ⟨g, rfl, rfl, h2, h4, ?_, cur, h3, fun j hj => ⟨_, Array.getElem?_eq_getElem (by rw [h6]; omega)⟩⟩
  intro j u hu
  rw [Nat.zero_add, Lib.cell_of_heap h3]
  rw [← h7, List.getElem?_take] at hu
  split at hu
  · rw [← hu, Array.getElem?_toList]
  · cases hu
theorem groups_many (v cv : Value) (ls : List (List VM.Vl)) (cs : List Int) (w : World) (h : IsRR w v ls) (hc : IsL cdZ w cv cs) (h0 : cs ≠ []) (h8 : cs.length ≤ 8) (h40 : ls.length ≤ 40) (hin : ∀ r ∈ ls, ∀ c ∈ cs, 0 ≤ c ∧ c < (r.length : Int)) (hall : ∀ r ∈ ls, VM.chkAll r = 0 ∧ r.length ≤ 8) (hW : ∀ r ∈ ls, ∀ x ∈ r, LM.wide x) :
  Calls Tryz.prog 53 #[v, cv] w fun e w' => ∃ pv recs, e = .returned pv ∧ GP w w.heap.size pv recs (BG.grp cs ls) w' ∧ Fr w w' := by
 obtain ⟨a, c, rfl⟩ := h.slice
 obtain ⟨qs, hq, _, hcap, hcell, hrow⟩ := h.at
 obtain ⟨ca, cc, rfl⟩ : ∃ ca cc, cv = .slice ca cs.length cc := by obtain ⟨ca, cc, e, _⟩ := hc; exact ⟨ca, cc, e⟩
 have HCe := hideP hcell
 have HRo := hideP hrow
 have HCs := hideP hc
 have hcl : 0 < cs.length := List.length_pos_iff.2 h0
 have hcz : (((cs.length : Nat) : Int) == 0) = false := beq_false_of_ne (by omega)
 have hcz' : ¬ (((cs.length : Nat) : Int) = 0) := by omega
 have HPk := hideP (fun r (hr : r ∈ ls) => show BG.Gd (BG.pck r cs) from BG.gd_row (by unfold BG.pck; simp; exact h8) (chk_pck (hall r hr).1 (hin r hr)) (fun x hx => hW r hr x (mem_pck (hin r hr) hx)))
 have HIn := hideP hin
 have HWd := hideP hW
 have HAl := hideP hall
 have HGl := hideP (fun i (hi : i ≤ ls.length) => BG.grp_len cs ls i hi)
 have HGr := hideP (fun i (hi : i ≤ ls.length) => BG.grp_rows cs ls i hi)
 have HGk := hideP (fun i (hi : i ≤ ls.length) => BG.grp_keys cs ls i hi)
 have HGs := hideP (fun i (hi : i < ls.length) => BG.grp_step cs ls i hi)
 clear hcell hrow h hc h0 hin hall hW
 obtain ⟨i0, hi0, hz0, hz1, hz2⟩ := info_parts Tryz.infoVs9
 obtain ⟨g0, hg0, gz0, gz1, gz2⟩ := info_parts Tryz.infoGp
 have hsg := Tryz.sizeGp
 have hmm := @run_makeMap Tryz.prog
 go_enter Tryz.func53, Tryz.ntmps53
 go_wp2_with fail
 clear hmm
 have HM0 := hideP (Mi.made w)
 have F2 := hideP ((Fr.refl w).alloc (.map #[] 0))
 obtain ⟨b, hbw⟩ : ∃ b, w.heap.size = b := ⟨_, rfl⟩
 have hbb : w.heap.size ≤ b := by omega
 rw [hbw] at HM0 ⊢
 clear hbw
 generalize w.alloc (.map #[] 0) = w2 at *
 go_loopw [5, 8, 9, 10, 20] (fun kv _ _ _ iv wr => ∃ (i : Nat) (recs : List (Sq × Sq)), iv = .int .i64 i ∧ i ≤ ls.length ∧ GP w w.heap.size kv recs (BG.grp cs (ls.take i)) wr ∧ Mi wr b (BG.grp cs (ls.take i)).length (BG.num ((BG.grp cs (ls.take i)).map (·.1))) ∧ Fr w wr) (fun _ _ _ _ iv _ => ls.length - (intOf iv).toNat)
 case atStart => exact ⟨0, [], rfl, Nat.zero_le _, GP.nil _ _ _, HM0.out, F2.out⟩
 case round =>
  obtain ⟨i, recs, rfl, hi, hG, hM, hfr⟩ := hrel
  obtain ⟨ka, kc, rfl⟩ := hG.slice
  by_cases hlt : i < ls.length
  ·
   have hlt' : (i : Int) < (ls.length : Int) := by omega
   obtain ⟨b9, o, rfl, _, c0⟩ := HCe.out i (by omega)
   obtain ⟨h1, h2⟩ := HRo.out i (by omega) hlt
   have d0 := (Below.cell hfr (World.block_lt_of_cell? _ _ c0)).trans c0
   have hmem := List.getElem_mem hlt
   have hst := HGs.out i hlt
   have hgl := HGl.out i hi
   have hgr := HGr.out i hi
   have hfm : ∀ x ∈ (BG.grp cs (ls.take i)).map (·.1), BG.Gd x := fun x hx => by
    obtain ⟨r, hr, rfl⟩ := HGk.out i hi x hx
    exact HPk.out r hr
   have hgs := HPk.out _ hmem
   have hin := HIn.out _ hmem
   have hws : Wide (BG.pck ls[i] cs) := fun x hx => HWd.out _ hmem x (mem_pck hin hx)
   generalize ls[i] = r at *
   generalize BG.grp cs (ls.take i) = gps at *
   generalize hfs' : BG.grp cs (ls.take (i + 1)) = gps' at *
   obtain ⟨q, hqq⟩ : ∃ q, (qs[i]'(by omega)) = q := ⟨_, rfl⟩
   rw [hqq] at h1 d0
   obtain ⟨qa, qn, qc⟩ := q
   simp only [Sq.v] at h1 d0
   have HQ := hideP (show IsL cdV w (Sq.v ⟨qa, qn, qc⟩) r from h1)
   have HPi := hideP (picked_any (.slice qa qn qc) (.slice ca cs.length cc) r cs wr (h1.fr hfr) (HCs.out.fr hfr) hin (by omega))
   have HPl := hideP (fun (x : Value) (W : World) (f : Fr wr W) (hx : IsL cdV W x (BG.pck r cs)) => place_any b x (gps.map (·.1)) (BG.pck r cs) W (by rw [List.length_map]; exact hM.fr f) hx hfm hgs hws (by rw [List.length_map]; omega))
   have hple := BG.plc_le (gps.map (·.1)) (BG.pck r cs)
   rw [List.length_map] at hple
   have HMh := hideP hM.heap
   have HO := hideP hG
   have HF := hideP hfr
   have HGr2 := hideP hgr
   have HKe := hideP (BG.step_keys cs gps r)
   have HSt := hideP hst
   have HSd : Hid (BG.stepG cs gps r = (if BG.plc (gps.map (·.1)) (BG.pck r cs) = gps.length then gps ++ [(BG.pck r cs, ([] : List (List VM.Vl)))] else gps).set (BG.plc (gps.map (·.1)) (BG.pck r cs)) (((if BG.plc (gps.map (·.1)) (BG.pck r cs) = gps.length then gps ++ [(BG.pck r cs, ([] : List (List VM.Vl)))] else gps).getD (BG.plc (gps.map (·.1)) (BG.pck r cs)) ([], [])).1, ((if BG.plc (gps.map (·.1)) (BG.pck r cs) = gps.length then gps ++ [(BG.pck r cs, ([] : List (List VM.Vl)))] else gps).getD (BG.plc (gps.map (·.1)) (BG.pck r cs)) ([], [])).2 ++ [r])) := rfl
   have HSl := hideP (show (BG.pck r cs).length = cs.length by unfold BG.pck; simp)
   have hwsz := hfr.size
   clear hG hfr hM h1 h2 c0 hqq hst hfm hgs hws hmem hin hgr
   have HFs := hideP hfs'
   clear hfs'
   generalize BG.stepG cs gps r = gst at *
   generalize BG.pck r cs = sm at *
   go_wp2_with fail
   refine HPi.out.mono ?_
   rintro _ w3 ⟨x3, rfl, own3, f3⟩
   obtain ⟨xa, xc, rfl⟩ := own_slice own3
   have HX3 := hideP own3
   have HF3 := hideP f3
   have HPl2 := hideP (HPl.out _ w3 f3 (isL_own (E := cdV) (l := sm) (by rw [HSl.out]; exact own3)))
   clear own3 f3 HPi HPl
   go_wp2_with fail
   refine HPl2.out.mono ?_
   rintro _ w4 ⟨rfl, hm4, gr4⟩
   have F4 := hideP (show Fr w w4 from Below.grown (HF.out.trans HF3.out) gr4 (by have := (HF.out.trans HF3.out).size; omega) (fun k hk => by injection hk with hk; omega))
   have hmh3 : ∃ es clk, w3.heap[b]? = some (.map es clk) := by
    obtain ⟨es, clk, hes⟩ := HMh.out
    exact ⟨es, clk, (HF3.out.block b (Array.getElem?_eq_some_iff.1 hes).1).trans hes⟩
   have HG4 := hideP ((HO.out.fr HF3.out).map hmh3 gr4)
   have HX4 := hideP (show w4.ownsRow wr.heap.size 56 3 (.slice xa cs.length xc) cs.length (flat cdV sm) from own_keep HX3.out fun k cur hk hkc => gr4.block k (Array.getElem?_eq_some_iff.1 hkc).1 (by
    intro e
    obtain ⟨es, clk, hes⟩ := hmh3
    cases e
    rw [hkc] at hes
    cases hes))
   have HM4 := hideP hm4
   have HLow := hideP (fun j (h1 : j < recs.length) g (hg : recs[j].1.v.ownBlock = some g) => ((HO.out.same j h1 (by rw [← HO.out.len]; exact h1)).lt g hg).2)
   have hw4 := F4.out.size
   have hwr3 := HF3.out.size
   have hgr4 := gr4.size
   clear hm4 gr4 HPl2 HO HF HMh HX3 HF3 hmh3
   generalize BG.plc (gps.map (·.1)) sm = p at *
   by_cases hp : p = gps.length
   ·
    subst hp
    simp only [if_pos] at HSd
    have HLit := hideP (lit_one cdR w4 ((⟨xa, cs.length, xc⟩ : Sq), (⟨none, 0, 0⟩ : Sq)) 88)
    have fA : Fr w4 (w4.alloc (.cells #[.slice xa cs.length xc, .slice none 0 0] 88)) := (Fr.refl w4).alloc _
    have HGA := hideP (HG4.out.fr fA)
    have HXA := hideP (own_fr HX4.out fA)
    have HMA := hideP (HM4.out.fr fA)
    have FA := hideP (F4.out.trans fA)
    clear fA HG4 HX4 HM4 F4
    go_wp2_with (at_builtin; refine wpList_append_L cdR rfl _ _ 85 88 g0 _ 48 rfl Tryz.underlying85 hg0 gz0 gz1 gz2 rfl w.heap.size _ gps.length _ rfl HGA.out.own (.slice (some ⟨w4.heap.size, 0, none⟩) 1 1) [((⟨xa, cs.length, xc⟩ : Sq), (⟨none, 0, 0⟩ : Sq))] rfl HLit.out ?c3 ?c4 ?c5 ?_)
    case c3 => unfold maxLen; (try simp) <;> omega
    case c4 => (try simp) <;> omega
    case c5 => (try simp) <;> omega
    intro v5 w5 own5 gr5
    have HG5 := hideP (HGA.out.more (s := ⟨xa, cs.length, xc⟩) (same := sm) (by rw [HSl.out]; exact HXA.out) hwsz (HLow.out) own5 gr5)
    have F5 := hideP (show Fr w w5 from Below.grown FA.out gr5 (by simp <;> omega) (own_base HGA.out.own))
    have HM5 := hideP (HMA.out.same (gr5.block b HMA.out.lt (by
     intro e
     obtain ⟨cur, hcur⟩ := own_block HGA.out.own _ e.symm
     obtain ⟨es, clk, hes⟩ := HMA.out.heap
     rw [hes] at hcur
     cases hcur)))
    have hp2 : gps.length < (gps ++ [(sm, ([] : List (List VM.Vl)))]).length := by simp
    have hgr5 : ∀ g ∈ gps ++ [(sm, ([] : List (List VM.Vl)))], g.2.length ≤ i := by
     intro g hg
     rw [List.mem_append] at hg
     rcases hg with hg | hg
     · exact HGr2.out g hg
     · simp at hg; rw [hg]; simp
    have HGr5 := hideP hgr5
    have hgl5 : (gps ++ [(sm, ([] : List (List VM.Vl)))]).length ≤ i + 1 := by simp; omega
    clear own5 gr5 HGA HXA HMA FA HLow hgr5 HGr2
    generalize gps ++ [(sm, ([] : List (List VM.Vl)))] = gpx at *
    generalize recs ++ [((⟨xa, cs.length, xc⟩ : Sq), (⟨none, 0, 0⟩ : Sq))] = rex at *
    generalize gps.length = p at *
    obtain ⟨va, vc, rfl⟩ := HG5.out.slice
    obtain ⟨G, rfl, _, hGB, hGc, hat, arr, hbl, harr⟩ := HG5.out.blk (by omega)
    have hpr : p < rex.length := by rw [HG5.out.len]; exact hp2
    have y2 := hat.r2 p hpr
    rw [Nat.zero_add] at y2
    obtain ⟨qs5, q1, q2, q3⟩ := HG5.out.rows p hpr hp2
    obtain ⟨rl, hrl⟩ : ∃ rl, (gpx[p]).2.length = rl := ⟨_, rfl⟩
    have hrl40 : rl ≤ i := by rw [← hrl]; exact HGr5.out _ (List.getElem_mem hp2)
    obtain ⟨oq, hoq⟩ : ∃ oq, rex[p].2 = oq := ⟨_, rfl⟩
    have HQ2 := hideP q2
    rw [hoq, hrl] at HQ2
    rw [hoq] at y2
    have hon : oq.n = rl := by
     obtain ⟨sa, sc, es⟩ := own_slice HQ2.out
     unfold Sq.v at es
     injection es
    obtain ⟨oa, on_, oc⟩ := oq
    simp only at hon y2
    subst hon
    simp only [Sq.v] at HQ2
    have HQ1 := hideP q1
    have HQ3 := hideP q3
    have HRl := hideP hrl
    have HOq := hideP hoq
    have HBl := hideP hbl
    have HHr := hideP harr
    have hpl : (p : Int) < (gpx.length : Int) := by omega
    have hp0 : p * 2 + 1 < gpx.length * 2 := by omega
    have HLit2 := hideP (lit_one cdS w5 (⟨qa, qn, qc⟩ : Sq) 31)
    have fB : Fr w5 (w5.alloc (.cells #[.slice qa qn qc] 31)) := (Fr.refl w5).alloc _
    have HQB := hideP (own_fr HQ2.out fB)
    have HGB := hideP (HG5.out.fr fB)
    have HMB := hideP (HM5.out.fr fB)
    have FB := hideP (F5.out.trans fB)
    have HBB := hideP (HBl.out.fr fB)
    have hw5 := F5.out.size
    clear fB q1 q2 q3 hrl hoq hbl harr hat HQ2 HG5 HM5 F5 HBl
    go_wp2_with (at_builtin; refine wpList_append_LA cdS rfl _ _ 22 31 i0 _ 24 rfl Tryz.underlying22 hi0 hz0 hz1 hz2 rfl w.heap.size _ on_ qs5 rfl HQB.out (.slice (some ⟨w5.heap.size, 0, none⟩) 1 1) [⟨qa, qn, qc⟩] rfl HLit2.out ?c3 ?c4 ?c5 ?_)
    case c3 => unfold maxLen; (try simp) <;> omega
    case c4 => (try simp) <;> omega
    case c5 => (try simp) <;> omega
    intro v6 w6 own6 gr6 wh6
    obtain ⟨xa6, xc6, rfl⟩ := own_slice own6
    have HB6 := hideP (HBB.out.grown gr6 (by
     intro e
     obtain ⟨cur, hcur⟩ := own_block HQB.out _ e
     have := HBB.out
     unfold Blk at this
     rw [this] at hcur
     simp only [Option.some.injEq, Obj.cells.injEq] at hcur
     exact absurd hcur.2.1 (by decide)))
    obtain ⟨u9, hu9⟩ := HHr.out (p * 2 + 1) hp0
    have y0 := HB6.out.cell (p * 2 + 1) hu9
    have y1 := HB6.out.frozen (p * 2 + 1)
    have F6 := hideP (show Fr w w6 from Below.grown FB.out gr6 (by simp <;> omega) (own_base HQB.out))
    have HM6 := hideP (HMB.out.same (gr6.block b HMB.out.lt (by
     intro e
     obtain ⟨cur, hcur⟩ := own_block HQB.out _ e.symm
     obtain ⟨es, clk, hes⟩ := HMB.out.heap
     rw [hes] at hcur
     cases hcur)))
    have hne : b ≠ G := by
     rintro rfl
     have h1 := HB6.out
     obtain ⟨es, clk, hes⟩ := HM6.out.heap
     unfold Blk at h1
     rw [hes] at h1
     cases h1
    have HA6 := hideP (HGB.out.add (p := p) hpr hp2 (x := ⟨xa6, on_ + 1, xc6⟩) (qs := qs5) (q := ⟨qa, qn, qc⟩) (r := r) HQ1.out HQ3.out HQ.out (by rw [HOq.out, HRl.out]; exact HQB.out) (by rw [HRl.out]; exact own6) (by rw [HOq.out]; exact gr6) (by
     rw [HOq.out]
     rcases wh6 with e | ⟨g6, e, hg6⟩
     · exact .inl e
     · exact .inr ⟨g6, e, by simpa using hg6⟩))
    clear own6 gr6 wh6 HQB HGB HMB FB HBB
    go_wp2_with fail
    have HM7 := hideP (HM6.out.same (w' := w6.setCell ⟨G, p * 2 + 1, none⟩ (.slice xa6 (on_ + 1) xc6)) (by simp only [World.setCell, Array.getElem?_modify, if_neg (Ne.symm hne)]))
    have F7 := hideP (F6.out.setC G (p * 2 + 1) (.slice xa6 (on_ + 1) xc6) hGB)
    have HGt := hideP (show gst = gpx.set p ((gpx[p]).1, (gpx[p]).2 ++ [r]) by
     rw [HSd.out]
     have : gpx.getD p ([], []) = gpx[p] := by rw [List.getD_eq_getElem?_getD, List.getElem?_eq_getElem hp2]; rfl
     rw [this])
    go_roundw
    case rel =>
     refine ⟨i + 1, rex.set p (rex[p].1, ⟨xa6, on_ + 1, xc6⟩), by go_num, by omega, ?_, ?_, F7.out⟩
     ·
      rw [HFs.out, HSt.out, HGt.out]
      exact HA6.out
     ·
      rw [HFs.out, HSt.out]
      have hk := HKe.out
      have : gst.length = (BG.add (gps.map (·.1)) sm).length := by rw [← hk, List.length_map]
      rw [this, hk]
      exact HM7.out
    case measure => simp [intOf]; omega
   ·
    have e1 : (((p : Nat) : Int) == (gps.length : Int)) = false := beq_false_of_ne (by omega)
    have e2 : ¬ (((p : Nat) : Int) = (gps.length : Int)) := by omega
    simp only [if_neg hp] at HSd
    have HG5 := HG4
    have HM5 := HM4
    have F5 := F4
    have HGr5 := HGr2
    have hp2 : p < gps.length := by omega
    have hgl5 : gps.length ≤ i + 1 := by omega
    clear HG4 HM4 F4 HX4 HLow HGr2
    generalize recs = rex at *
    generalize gps = gpx at *
    generalize w4 = w5 at *
    generalize hv5 : Value.slice ka gpx.length kc = v5 at *
    obtain ⟨va, vc, rfl⟩ := HG5.out.slice
    obtain ⟨G, rfl, _, hGB, hGc, hat, arr, hbl, harr⟩ := HG5.out.blk (by omega)
    have hpr : p < rex.length := by rw [HG5.out.len]; exact hp2
    have y2 := hat.r2 p hpr
    rw [Nat.zero_add] at y2
    obtain ⟨qs5, q1, q2, q3⟩ := HG5.out.rows p hpr hp2
    obtain ⟨rl, hrl⟩ : ∃ rl, (gpx[p]).2.length = rl := ⟨_, rfl⟩
    have hrl40 : rl ≤ i := by rw [← hrl]; exact HGr5.out _ (List.getElem_mem hp2)
    obtain ⟨oq, hoq⟩ : ∃ oq, rex[p].2 = oq := ⟨_, rfl⟩
    have HQ2 := hideP q2
    rw [hoq, hrl] at HQ2
    rw [hoq] at y2
    have hon : oq.n = rl := by
     obtain ⟨sa, sc, es⟩ := own_slice HQ2.out
     unfold Sq.v at es
     injection es
    obtain ⟨oa, on_, oc⟩ := oq
    simp only at hon y2
    subst hon
    simp only [Sq.v] at HQ2
    have HQ1 := hideP q1
    have HQ3 := hideP q3
    have HRl := hideP hrl
    have HOq := hideP hoq
    have HBl := hideP hbl
    have HHr := hideP harr
    have hpl : (p : Int) < (gpx.length : Int) := by omega
    have hp0 : p * 2 + 1 < gpx.length * 2 := by omega
    have HLit2 := hideP (lit_one cdS w5 (⟨qa, qn, qc⟩ : Sq) 31)
    have fB : Fr w5 (w5.alloc (.cells #[.slice qa qn qc] 31)) := (Fr.refl w5).alloc _
    have HQB := hideP (own_fr HQ2.out fB)
    have HGB := hideP (HG5.out.fr fB)
    have HMB := hideP (HM5.out.fr fB)
    have FB := hideP (F5.out.trans fB)
    have HBB := hideP (HBl.out.fr fB)
    have hw5 := F5.out.size
    clear fB q1 q2 q3 hrl hoq hbl harr hat HQ2 HG5 HM5 F5 HBl
    go_wp2_with (at_builtin; refine wpList_append_LA cdS rfl _ _ 22 31 i0 _ 24 rfl Tryz.underlying22 hi0 hz0 hz1 hz2 rfl w.heap.size _ on_ qs5 rfl HQB.out (.slice (some ⟨w5.heap.size, 0, none⟩) 1 1) [⟨qa, qn, qc⟩] rfl HLit2.out ?c3 ?c4 ?c5 ?_)
    case c3 => unfold maxLen; (try simp) <;> omega
    case c4 => (try simp) <;> omega
    case c5 => (try simp) <;> omega
    intro v6 w6 own6 gr6 wh6
    obtain ⟨xa6, xc6, rfl⟩ := own_slice own6
    have HB6 := hideP (HBB.out.grown gr6 (by
     intro e
     obtain ⟨cur, hcur⟩ := own_block HQB.out _ e
     have := HBB.out
     unfold Blk at this
     rw [this] at hcur
     simp only [Option.some.injEq, Obj.cells.injEq] at hcur
     exact absurd hcur.2.1 (by decide)))
    obtain ⟨u9, hu9⟩ := HHr.out (p * 2 + 1) hp0
    have y0 := HB6.out.cell (p * 2 + 1) hu9
    have y1 := HB6.out.frozen (p * 2 + 1)
    have F6 := hideP (show Fr w w6 from Below.grown FB.out gr6 (by simp <;> omega) (own_base HQB.out))
    have HM6 := hideP (HMB.out.same (gr6.block b HMB.out.lt (by
     intro e
     obtain ⟨cur, hcur⟩ := own_block HQB.out _ e.symm
     obtain ⟨es, clk, hes⟩ := HMB.out.heap
     rw [hes] at hcur
     cases hcur)))
    have hne : b ≠ G := by
     rintro rfl
     have h1 := HB6.out
     obtain ⟨es, clk, hes⟩ := HM6.out.heap
     unfold Blk at h1
     rw [hes] at h1
     cases h1
    have HA6 := hideP (HGB.out.add (p := p) hpr hp2 (x := ⟨xa6, on_ + 1, xc6⟩) (qs := qs5) (q := ⟨qa, qn, qc⟩) (r := r) HQ1.out HQ3.out HQ.out (by rw [HOq.out, HRl.out]; exact HQB.out) (by rw [HRl.out]; exact own6) (by rw [HOq.out]; exact gr6) (by
     rw [HOq.out]
     rcases wh6 with e | ⟨g6, e, hg6⟩
     · exact .inl e
     · exact .inr ⟨g6, e, by simpa using hg6⟩))
    clear own6 gr6 wh6 HQB HGB HMB FB HBB
    go_wp2_with fail
    have HM7 := hideP (HM6.out.same (w' := w6.setCell ⟨G, p * 2 + 1, none⟩ (.slice xa6 (on_ + 1) xc6)) (by simp only [World.setCell, Array.getElem?_modify, if_neg (Ne.symm hne)]))
    have F7 := hideP (F6.out.setC G (p * 2 + 1) (.slice xa6 (on_ + 1) xc6) hGB)
    have HGt := hideP (show gst = gpx.set p ((gpx[p]).1, (gpx[p]).2 ++ [r]) by
     rw [HSd.out]
     have : gpx.getD p ([], []) = gpx[p] := by rw [List.getD_eq_getElem?_getD, List.getElem?_eq_getElem hp2]; rfl
     rw [this])
    go_roundw
    case rel =>
     refine ⟨i + 1, rex.set p (rex[p].1, ⟨xa6, on_ + 1, xc6⟩), by go_num, by omega, ?_, ?_, F7.out⟩
     ·
      rw [HFs.out, HSt.out, HGt.out]
      exact HA6.out
     ·
      rw [HFs.out, HSt.out]
      have hk := HKe.out
      have : gst.length = (BG.add (gpx.map (·.1)) sm).length := by rw [← hk, List.length_map]
      rw [this, hk]
      exact HM7.out
    case measure => simp [intOf]; omega
  ·
   obtain rfl : i = ls.length := by omega
   rw [List.take_length] at hG ⊢
   have HO := hideP hG
   have HF := hideP hfr
   clear hG hfr hM
   go_wp2_with fail
   go_ret
   exact ⟨_, _, rfl, HO.out, HF.out⟩
end Go.Proofs.YtbcfdhimngoplaaGreatDoor
namespace Go.Proofs.YtbcfdhimngoplaaGreatDoor
open Go.ChangeShapes Go.WideShapes Go.ChangeAt Go.RowKit Go.Maps
set_option linter.unusedVariables false
set_option linter.unusedSimpArgs false
set_option maxRecDepth 100000
set_option maxHeartbeats 2000000
theorem gvalues_none (sv rv : Value) (col : Int) (w : World) (hs : ∃ a n c, sv = .slice a n c) (hr : IsRR w rv []) :
  Calls Tryz.prog 71 #[.agg #[sv, rv], .int .i64 col] w fun e w' => e = .returned (.slice none 0 0) ∧ Fr w w' := by
 obtain ⟨sa, sn, sc, rfl⟩ := hs
 obtain ⟨a, c, rfl⟩ := hr.slice
 clear hr
 have F0 := hideP ((Fr.refl w).alloc (.cells #[.slice sa sn sc, .slice a 0 c] 88))
 go_enter Tryz.func71, Tryz.ntmps71
 go_wp2_with fail
 go_loopw [5, 7, 11] (fun kv _ iv wr => iv = .int .i64 0 ∧ kv = .slice none 0 0 ∧ Fr w wr) (fun _ _ iv _ => 0)
 case atStart => exact ⟨rfl, rfl, F0.out⟩
 case round =>
  obtain ⟨rfl, rfl, hfr⟩ := hrel
  have HF := hideP hfr
  clear hfr
  go_wp2_with fail
  go_ret
  exact ⟨rfl, HF.out⟩
theorem gtell_none (sv rv : Value) (g : BG.Ag) (w : World) (hs : ∃ a n c, sv = .slice a n c) (hr : IsRR w rv []) :
  Calls Tryz.prog 54 #[.agg #[sv, rv], .agg #[.int .i64 g.kind, .int .i64 g.col]] w fun e w' => e = .returned (exV (BG.tel [] g)) ∧ Fr w w' := by
 by_cases h1 : g.col = -1 ∧ g.kind = 1
 · exact gtell_any sv rv [] g w hs hr (.inl h1) (fun r h => by simp at h) (by simp) (fun r h => by simp at h)
 have HK : Hid (BG.tel [] g = if g.kind = 1 then .ok ⟨1, 0, ⟨#[]⟩⟩ else .ok BG.nulV) := by
  show BG.tel [] g = _
  unfold BG.tel
  rw [if_neg h1]
  have : BG.vls [] g.col.toNat = [] := rfl
  rw [this]
  by_cases h : g.kind = 1
  · rw [if_pos h, if_pos h]; rfl
  · rw [if_neg h, if_neg h, if_pos rfl]
 have HGv := hideP (fun W (f : Fr w W) => gvalues_none sv rv g.col W hs (hr.fr f))
 obtain ⟨sa, sn, sc, rfl⟩ := hs
 obtain ⟨a, c, rfl⟩ := hr.slice
 generalize BG.tel [] g = R at *
 obtain ⟨kind, col⟩ := g
 simp only at *
 simp only [List.length_nil] at *
 have HG2 := hideP (Blk.new w #[.slice sa sn sc, .slice a 0 c] 88)
 have HG3 := hideP (Blk.new (w.alloc (.cells #[.slice sa sn sc, .slice a 0 c] 88)) #[.int .i64 kind, .int .i64 col] 66)
 have HG4 := hideP (Blk.new ((w.alloc (.cells #[.slice sa sn sc, .slice a 0 c] 88)).alloc (.cells #[.int .i64 kind, .int .i64 col] 66)) #[.int .i64 0, .int .i64 0, .string ⟨#[]⟩] 56)
 have F4 := hideP ((((Fr.refl w).alloc (.cells #[.slice sa sn sc, .slice a 0 c] 88)).alloc (.cells #[.int .i64 kind, .int .i64 col] 66)).alloc (.cells #[.int .i64 0, .int .i64 0, .string ⟨#[]⟩] 56))
 have HG3b := hideP (HG3.out.old (.cells #[.int .i64 0, .int .i64 0, .string ⟨#[]⟩] 56))
 have HG2b := hideP ((HG2.out.old (.cells #[.int .i64 kind, .int .i64 col] 66)).old (.cells #[.int .i64 0, .int .i64 0, .string ⟨#[]⟩] 56))
 simp only [World.size_alloc] at HG3b HG4
 clear HG2 HG3 hr
 obtain ⟨W4, hW4⟩ : ∃ x, ((w.alloc (.cells #[.slice sa sn sc, .slice a 0 c] 88)).alloc (.cells #[.int .i64 kind, .int .i64 col] 66)).alloc (.cells #[.int .i64 0, .int .i64 0, .string ⟨#[]⟩] 56) = x := ⟨_, rfl⟩
 rw [hW4] at HG3b HG4 HG2b F4
 have a0 : W4.cell? ⟨w.heap.size + 1, 0, none⟩ = some (.int .i64 kind) := HG3b.out.cell 0 rfl
 have a1 : W4.cell? ⟨w.heap.size + 1, 1, none⟩ = some (.int .i64 col) := HG3b.out.cell 1 rfl
 have g0 : W4.cell? ⟨w.heap.size, 0, none⟩ = some (.slice sa sn sc) := HG2b.out.cell 0 rfl
 have g1 : W4.cell? ⟨w.heap.size, 1, none⟩ = some (.slice a 0 c) := HG2b.out.cell 1 rfl
 have cg := HGv.out W4 F4.out
 clear HGv
 have hx1 : (col == -1) = decide (col = -1) := rfl
 have hx2 : (kind == 1) = decide (kind = 1) := rfl
 by_cases hk1 : kind = 1
 ·
  subst hk1
  have hcol : ¬ (col = -1) := fun h => h1 ⟨h, rfl⟩
  have hcol2 : (col == -1) = false := beq_false_of_ne hcol
  clear h1 hx1 hx2
  have HZ := hideP (HK.out.trans (if_pos rfl))
  have cn := fun W => bnumber_any 0 W
  go_enter Tryz.func54, Tryz.ntmps54
  go_wp2_with fail
  refine cg.mono ?_
  rintro _ w2 ⟨rfl, f2⟩
  have K3 := hideP (HG3b.out.fr f2)
  have K4 := hideP (HG4.out.fr f2)
  have F2 := hideP (F4.out.trans f2)
  clear f2 cg a0 a1 g0 g1
  have a0 : w2.cell? ⟨w.heap.size + 1, 0, none⟩ = some (.int .i64 1) := K3.out.cell 0 rfl
  go_wp2_with fail
  refine (cn _).mono ?_
  rintro _ w3 ⟨rfl, f3⟩
  replace K4 := hideP (K4.out.fr f3)
  have F3 := hideP (F2.out.trans f3)
  clear f3 cn a0
  have p0 := K4.out.cell 0 rfl
  have p1 := K4.out.cell 1 rfl
  have p2 := K4.out.cell 2 rfl
  have y0 := K4.out.frozen 0
  have y1 := K4.out.frozen 1
  have y2 := K4.out.frozen 2
  go_wp2_with fail
  have N4 := K4.out.put3 (.int .i64 1) (.int .i64 0) (.string ⟨#[]⟩)
  have r0 := N4.cell 0 rfl
  have r1 := N4.cell 1 rfl
  have r2 := N4.cell 2 rfl
  unfold put3 at r0 r1 r2
  refine bodyPost_ret (v := .tuple #[.agg #[.int .i64 1, .int .i64 0, .string ⟨#[]⟩], .int .i64 (0)]) ?_ rfl ⟨by rw [HZ.out]; rfl, F3.out.put3 (w.heap.size + 1 + 1) (by omega) _ _ _⟩
  simp [results, Tryz.results54, go_sem, r0, r1, r2]
 ·
  have HZ := hideP (HK.out.trans (if_neg hk1))
  have hk1' : (kind == 1) = false := beq_false_of_ne hk1
  clear h1 hx1 hx2
  by_cases hcol : col = -1
  ·
   subst hcol
   go_enter Tryz.func54, Tryz.ntmps54
   go_wp2_with fail
   refine cg.mono ?_
   rintro _ w2 ⟨rfl, f2⟩
   have K3 := hideP (HG3b.out.fr f2)
   have K4 := hideP (HG4.out.fr f2)
   have F2 := hideP (F4.out.trans f2)
   clear f2 cg a0 a1 g0 g1
   have a0 : w2.cell? ⟨w.heap.size + 1, 0, none⟩ = some (.int .i64 kind) := K3.out.cell 0 rfl
   have p0 := K4.out.cell 0 rfl
   have p1 := K4.out.cell 1 rfl
   have p2 := K4.out.cell 2 rfl
   have y0 := K4.out.frozen 0
   have y1 := K4.out.frozen 1
   have y2 := K4.out.frozen 2
   go_wp2_with fail
   have N4 := K4.out.put3 (.int .i64 0) (.int .i64 0) (.string ⟨#[]⟩)
   have r0 := N4.cell 0 rfl
   have r1 := N4.cell 1 rfl
   have r2 := N4.cell 2 rfl
   unfold put3 at r0 r1 r2
   refine bodyPost_ret (v := .tuple #[.agg #[.int .i64 0, .int .i64 0, .string ⟨#[]⟩], .int .i64 (0)]) ?_ rfl ⟨by rw [HZ.out]; rfl, F2.out.put3 (w.heap.size + 1 + 1) (by omega) _ _ _⟩
   simp [results, Tryz.results54, go_sem, r0, r1, r2]
  ·
   have hcol2 : (col == -1) = false := beq_false_of_ne hcol
   go_enter Tryz.func54, Tryz.ntmps54
   go_wp2_with fail
   refine cg.mono ?_
   rintro _ w2 ⟨rfl, f2⟩
   have K3 := hideP (HG3b.out.fr f2)
   have K4 := hideP (HG4.out.fr f2)
   have F2 := hideP (F4.out.trans f2)
   clear f2 cg a0 a1 g0 g1
   have a0 : w2.cell? ⟨w.heap.size + 1, 0, none⟩ = some (.int .i64 kind) := K3.out.cell 0 rfl
   have p0 := K4.out.cell 0 rfl
   have p1 := K4.out.cell 1 rfl
   have p2 := K4.out.cell 2 rfl
   have y0 := K4.out.frozen 0
   have y1 := K4.out.frozen 1
   have y2 := K4.out.frozen 2
   go_wp2_with fail
   have N4 := K4.out.put3 (.int .i64 0) (.int .i64 0) (.string ⟨#[]⟩)
   have r0 := N4.cell 0 rfl
   have r1 := N4.cell 1 rfl
   have r2 := N4.cell 2 rfl
   unfold put3 at r0 r1 r2
   refine bodyPost_ret (v := .tuple #[.agg #[.int .i64 0, .int .i64 0, .string ⟨#[]⟩], .int .i64 (0)]) ?_ rfl ⟨by rw [HZ.out]; rfl, F2.out.put3 (w.heap.size + 1 + 1) (by omega) _ _ _⟩
   simp [results, Tryz.results54, go_sem, r0, r1, r2]
theorem gtell_all (sv rv : Value) (ls : List (List VM.Vl)) (g : BG.Ag) (w : World) (hs : ∃ a n c, sv = .slice a n c) (hr : IsRR w rv ls) (hin : (g.col = -1 ∧ g.kind = 1) ∨ (∀ r ∈ ls, 0 ≤ g.col ∧ g.col < (r.length : Int))) (hok : ∀ r ∈ ls, ∀ x ∈ r, WH.Ok x.n) (hl : ls.length ≤ 1000) (hL : ∀ r ∈ ls, r.length ≤ 1000) :
  Calls Tryz.prog 54 #[.agg #[sv, rv], .agg #[.int .i64 g.kind, .int .i64 g.col]] w fun e w' => e = .returned (exV (BG.tel ls g)) ∧ Fr w w' := by
 cases ls with
 | nil => exact gtell_none sv rv g w hs hr
 | cons r t =>
  refine gtell_any sv rv (r :: t) g w hs hr ?_ hok hl hL
  rcases hin with h | h
  · exact .inl h
  · exact .inr ⟨(h r (by simp)).1, fun x hx => (h x hx).2⟩
def Kpt (w w' : World) : Prop := ∀ (k : Nat) (cur : Array Value) (T : TypeId), T ≠ 56 → w.heap[k]? = some (.cells cur T (0, 0)) → w'.heap[k]? = some (.cells cur T (0, 0))
theorem Kpt.refl (w : World) : Kpt w w := fun _ _ _ _ h => h
theorem Kpt.fr {w w1 w2 : World} (h : Kpt w w1) (f : Fr w1 w2) : Kpt w w2 := fun k cur T hT hk => by
 have := h k cur T hT hk
 rw [f.block k (Array.getElem?_eq_some_iff.1 this).1, this]
theorem Kpt.grown {w w1 w2 : World} {r : Option Nat} (h : Kpt w w1) (g : w1.grownBy w2 r) (hr : ∀ k, r = some k → w.heap.size ≤ k ∨ ∃ cur, w1.heap[k]? = some (.cells cur 56 (0, 0))) : Kpt w w2 := fun k cur T hT hk => by
 have := h k cur T hT hk
 rw [g.block k (Array.getElem?_eq_some_iff.1 this).1 (by
  intro e
  rcases hr k e.symm with h1 | ⟨c, h1⟩
  ·
   have := (Array.getElem?_eq_some_iff.1 hk).1
   omega
  ·
   rw [this] at h1
   injection h1 with h1
   injection h1 with _ h1
   exact hT h1), this]
structure GA (w0 : World) (B : Nat) (pv : Value) (recs : List (Sq × Sq)) (gps : List Gp) (w : World) : Prop where
 lst : ∀ wr, Kpt w wr → IsL cdR wr pv recs
 len : recs.length = gps.length
 same : ∀ j (h1 : j < recs.length) (h2 : j < gps.length), w.ownsRow B 56 3 recs[j].1.v gps[j].1.length (flat cdV gps[j].1)
 rows : ∀ wr, Fr w0 wr → Kpt w wr → ∀ j (h1 : j < recs.length) (h2 : j < gps.length), IsRR wr recs[j].2.v gps[j].2
 apS : ∀ j k (h1 : j < recs.length) (h2 : k < recs.length), j ≠ k → Apart recs[j].1.v.ownBlock recs[k].1.v.ownBlock
theorem own_kp {B n sz : Nat} {T : TypeId} {v : Value} {xs : List Value} {w w' : World} (h : w.ownsRow B T sz v n xs) (hT : T ≠ 56) (k : Kpt w w') : w'.ownsRow B T sz v n xs := own_keep h fun b cur _ hb => by rw [k b cur T hT hb, hb]
theorem GP.ga {w0 : World} {B : Nat} {pv : Value} {recs : List (Sq × Sq)} {gps : List Gp} {w : World} (h : GP w0 B pv recs gps w) : GA w0 B pv recs gps w where
 lst := fun wr k => isL_own (E := cdR) (by rw [h.len]; exact own_kp h.own (by decide) k)
 len := h.len
 same := h.same
 rows := fun wr f k j h1 h2 => by
  obtain ⟨qs, q1, q2, q3⟩ := h.rows j h1 h2
  exact ⟨qs, isL_own (E := cdS) (l := qs) (by rw [q1]; exact own_kp q2 (by decide) k), q1, fun i a b => (q3 i a b).fr f⟩
 apS := h.apS
namespace BG
open VM
def grs (cs : List Int) (ls : List (List Vl)) : List Gp := if cs = [] then [([], ls)] else grp cs ls
end BG
theorem groups_any (v cv : Value) (ls : List (List VM.Vl)) (cs : List Int) (w : World) (h : IsRR w v ls) (hc : IsL cdZ w cv cs) (h8 : cs.length ≤ 8) (h40 : ls.length ≤ 40) (hin : ∀ r ∈ ls, ∀ c ∈ cs, 0 ≤ c ∧ c < (r.length : Int)) (hall : ∀ r ∈ ls, VM.chkAll r = 0 ∧ r.length ≤ 8) (hW : ∀ r ∈ ls, ∀ x ∈ r, LM.wide x) :
  Calls Tryz.prog 53 #[v, cv] w fun e w' => ∃ pv recs, e = .returned pv ∧ GA w w.heap.size pv recs (BG.grs cs ls) w' ∧ Fr w w' := by
 by_cases h0 : cs = []
 ·
  subst h0
  have HI := hideP h
  obtain ⟨a, c, rfl⟩ := h.slice
  obtain ⟨ca, cc, rfl⟩ : ∃ ca cc, cv = .slice ca 0 cc := by obtain ⟨ca, cc, e, _⟩ := hc; exact ⟨ca, cc, e⟩
  have F0 := hideP ((Fr.refl w).alloc (.cells #[.slice none 0 0, .slice a ls.length c] 88))
  have HB := hideP (Blk.new w #[.slice none 0 0, .slice a ls.length c] 88)
  have HLit := hideP (fun T => lit_one cdR w ((⟨none, 0, 0⟩ : Sq), (⟨a, ls.length, c⟩ : Sq)) T)
  clear h hc
  go_enter Tryz.func53, Tryz.ntmps53
  go_wp2_with fail
  go_ret
  refine ⟨_, [((⟨none, 0, 0⟩ : Sq), (⟨a, ls.length, c⟩ : Sq))], rfl, ?_, F0.out⟩
  show GA w w.heap.size _ _ [([], ls)] _
  refine ⟨fun wr k => ?_, rfl, fun j h1 h2 => ?_, fun wr f k j h1 h2 => ?_, fun j k h1 h2 hne => ?_⟩
  ·
   refine ⟨_, _, rfl, Nat.le_refl _, .inr ⟨_, 0, rfl, ?_, ?_⟩⟩
   ·
    have := k _ _ _ (by decide) HB.out
    exact (Array.getElem?_eq_some_iff.1 this).1
   ·
    intro j u hu
    have := k _ _ _ (by decide) HB.out
    rw [Nat.zero_add, Lib.cell_of_heap this]
    simpa [flat, cdR] using hu
  ·
   have : j = 0 := by simp at h1; exact h1
   subst this
   exact World.ownsRow_nil _ _ _ _
  ·
   have : j = 0 := by simp at h1; exact h1
   subst this
   exact HI.out.fr f
  · simp at h1 h2; omega
 ·
  refine (groups_many v cv ls cs w h hc h0 h8 h40 hin hall hW).mono ?_
  rintro e w' ⟨pv, recs, rfl, hg, f⟩
  refine ⟨pv, recs, rfl, ?_, f⟩
  unfold BG.grs
  rw [if_neg h0]
  exact hg.ga
end Go.Proofs.YtbcfdhimngoplaaGreatDoor
namespace Go.Proofs.YtbcfdhimngoplaaGreatDoor
open Go.ChangeShapes Go.WideShapes Go.ChangeAt Go.RowKit Go.Maps
set_option linter.unusedVariables false
set_option linter.unusedSimpArgs false
set_option maxRecDepth 100000
set_option maxHeartbeats 4000000
namespace BG
open VM
def telR (gs : List Ag) (g : Gp) : Except Nat (List Vl) := pre g.1 (mp (tel g.2) gs)
def gpO (ls : List (List Vl)) (cs : List Int) (gs : List Ag) : Except Nat (List (List Vl)) := if chk ls ≠ 0 then .error (chk ls) else if gE ls cs gs ≠ 0 then .error (gE ls cs gs) else mp (telR gs) (grs cs ls)
theorem tel_ne {ls : List (List Vl)} {g : Ag} {c : Nat} (h : tel ls g = .error c) : c ≠ 0 := by
 unfold tel at h
 split at h
 · cases h
 split at h
 · cases h
 split at h
 · cases h
 split at h
 ·
  unfold smO at h
  split at h
  · cases h; decide
  split at h
  · cases h; decide
  split at h
  · cases h; decide
  · cases h
 · cases h
theorem step_mem (cs : List Int) (gps : List Gp) (r : List Vl) : ∀ g ∈ stepG cs gps r, ∀ x ∈ g.2, x = r ∨ ∃ g' ∈ gps, x ∈ g'.2 := by
 intro g hg x hx
 unfold stepG at hg
 simp only at hg
 generalize hg2 : (if plc (gps.map (·.1)) (pck r cs) = gps.length then gps ++ [(pck r cs, ([] : List (List VM.Vl)))] else gps) = g2 at *
 have h2 : ∀ g ∈ g2, ∀ x ∈ g.2, ∃ g' ∈ gps, x ∈ g'.2 := by
  rw [← hg2]
  split
  ·
   intro g hg x hx
   rw [List.mem_append] at hg
   rcases hg with hg | hg
   · exact ⟨g, hg, hx⟩
   · simp at hg; rw [hg] at hx; simp at hx
  · exact fun g hg x hx => ⟨g, hg, hx⟩
 rcases List.mem_or_eq_of_mem_set hg with hg | hg
 · exact .inr (h2 g hg x hx)
 ·
  rw [hg] at hx
  simp only [List.mem_append, List.mem_singleton] at hx
  rcases hx with hx | hx
  ·
   by_cases hp : plc (gps.map (·.1)) (pck r cs) < g2.length
   · exact .inr (h2 _ (by rw [List.getD_eq_getElem?_getD, List.getElem?_eq_getElem hp]; exact List.getElem_mem hp) x hx)
   ·
    rw [List.getD_eq_getElem?_getD, List.getElem?_eq_none (by omega)] at hx
    simp at hx
  · exact .inl hx
theorem grp_mem (cs : List Int) (ls : List (List Vl)) : ∀ i, i ≤ ls.length → ∀ g ∈ grp cs (ls.take i), ∀ x ∈ g.2, x ∈ ls
 | 0, _, g, hg, x, hx => by simp [grp] at hg
 | i + 1, h, g, hg, x, hx => by
  rw [grp_step cs ls i (by omega)] at hg
  rcases step_mem cs _ _ g hg x hx with hx | ⟨g', hg', hx⟩
  · rw [hx]; exact List.getElem_mem _
  · exact grp_mem cs ls i (by omega) g' hg' x hx
theorem grs_mem (cs : List Int) (ls : List (List Vl)) : ∀ g ∈ grs cs ls, ∀ x ∈ g.2, x ∈ ls := by
 intro g hg x hx
 unfold grs at hg
 split at hg
 · simp at hg; rw [hg] at hx; exact hx
 · exact grp_mem cs ls ls.length (Nat.le_refl _) g (by rw [List.take_length]; exact hg) x hx
theorem grs_rows (cs : List Int) (ls : List (List Vl)) : ∀ g ∈ grs cs ls, g.2.length ≤ ls.length := by
 intro g hg
 unfold grs at hg
 split at hg
 · simp at hg; rw [hg]; exact Nat.le_refl _
 · exact grp_rows cs ls ls.length (Nat.le_refl _) g (by rw [List.take_length]; exact hg)
theorem grs_len (cs : List Int) (ls : List (List Vl)) : (grs cs ls).length ≤ ls.length + 1 := by
 unfold grs
 split
 · simp
 ·
  have := grp_len cs ls ls.length (Nat.le_refl _)
  rw [List.take_length] at this
  omega
theorem grs_same (cs : List Int) (ls : List (List Vl)) : ∀ g ∈ grs cs ls, g.1.length = cs.length := by
 intro g hg
 unfold grs at hg
 split at hg
 ·
  rename_i h
  simp at hg; rw [hg, h]; rfl
 ·
  obtain ⟨r, _, e⟩ := grp_keys cs ls ls.length (Nat.le_refl _) g.1 (by rw [List.take_length]; exact List.mem_map_of_mem hg)
  rw [e]
  unfold pck
  simp
end BG
structure GO (w0 : World) (B : Nat) (w1 : World) (recs : List (Sq × Sq)) (gps : List Gp) (i : Nat) (tv : Value) (outs : List (List VM.Vl)) (w : World) : Prop where
 fr : Fr w0 w
 kp : Kpt w1 w
 sz : w1.heap.size ≤ w.heap.size
 own : ∃ qs : List Sq, w.ownsRow w1.heap.size 31 1 tv outs.length (flat cdS qs) ∧ qs.length = outs.length ∧ (∀ j (h1 : j < qs.length) (h2 : j < outs.length), w.ownsRow B 56 3 qs[j].v outs[j].length (flat cdV outs[j])) ∧ (∀ j k (h1 : j < qs.length) (h2 : k < recs.length), i ≤ k → Apart qs[j].v.ownBlock recs[k].1.v.ownBlock)
 same : ∀ k (h1 : k < recs.length) (h2 : k < gps.length), i ≤ k → w.ownsRow B 56 3 recs[k].1.v gps[k].1.length (flat cdV gps[k].1)
structure GI (wr : World) (B : Nat) (sv rv : Value) (l : List VM.Vl) (w : World) : Prop where
 gr : wr.grownBy w sv.ownBlock
 own : w.ownsRow B 56 3 rv l.length (flat cdV l)
 wh : rv.ownBlock = sv.ownBlock ∨ ∃ g, rv.ownBlock = some g ∧ wr.heap.size ≤ g
theorem GI.fr {wr : World} {B : Nat} {sv rv : Value} {l : List VM.Vl} {w w' : World} (h : GI wr B sv rv l w) (f : Fr w w') : GI wr B sv rv l w' :=
 ⟨⟨f.os.trans h.gr.os, f.tape.trans h.gr.tape, f.output.trans h.gr.output, Nat.le_trans h.gr.size f.size, fun k hk hne => (f.block k (Nat.lt_of_lt_of_le hk h.gr.size)).trans (h.gr.block k hk hne)⟩, own_fr h.own f, h.wh⟩
theorem GI.app {wr : World} {B : Nat} {sv rv rv' : Value} {l l' : List VM.Vl} {w w' : World} (h : GI wr B sv rv l w) (ho : w'.ownsRow B 56 3 rv' l'.length (flat cdV l')) (g : w.grownBy w' rv.ownBlock) (hw : rv'.ownBlock = rv.ownBlock ∨ ∃ b, rv'.ownBlock = some b ∧ w.heap.size ≤ b) : GI wr B sv rv' l' w' := by
 refine ⟨⟨g.os.trans h.gr.os, g.tape.trans h.gr.tape, g.output.trans h.gr.output, Nat.le_trans h.gr.size g.size, fun k hk hne => ?_⟩, ho, ?_⟩
 ·
  refine (g.block k (Nat.lt_of_lt_of_le hk h.gr.size) ?_).trans (h.gr.block k hk hne)
  intro e
  rcases h.wh with h1 | ⟨b, h1, h2⟩
  · exact hne (e.trans h1)
  ·
   rw [h1] at e
   injection e with e
   omega
 ·
  rcases hw with h1 | ⟨b, h1, h2⟩
  · rw [h1]; exact h.wh
  · exact .inr ⟨b, h1, Nat.le_trans h.gr.size h2⟩
section
variable {w0 w1 : World} {B : Nat} {recs : List (Sq × Sq)} {gps : List Gp} {i : Nat} {tv : Value} {outs : List (List VM.Vl)} {w : World}
theorem GO.start {pv : Value} (h : GA w0 B pv recs gps w1) (f : Fr w0 w1) : GO w0 B w1 recs gps 0 (.slice none 0 0) [] w1 :=
 ⟨f, Kpt.refl _, Nat.le_refl _, ⟨[], World.ownsRow_nil _ _ _ _, rfl, fun j h => by simp at h, fun j k h => by simp at h⟩, fun k h1 h2 _ => h.same k h1 h2⟩
theorem GO.slice (h : GO w0 B w1 recs gps i tv outs w) : ∃ a c, tv = .slice a outs.length c := by
 obtain ⟨qs, h1, _⟩ := h.own
 exact own_slice h1
theorem GO.move {w' : World} (h : GO w0 B w1 recs gps i tv outs w) (f : Fr w w') : GO w0 B w1 recs gps i tv outs w' := by
 obtain ⟨qs, h1, h2, h3, h4⟩ := h.own
 exact ⟨h.fr.trans f, h.kp.fr f, Nat.le_trans h.sz f.size, ⟨qs, own_fr h1 f, h2, fun j a b => own_fr (h3 j a b) f, h4⟩, fun k a b c => own_fr (h.same k a b c) f⟩
theorem GI.fr0 {w' : World} {rv : Value} {l : List VM.Vl} (h : GO w0 B w1 recs gps i tv outs w) (hB : w0.heap.size ≤ B) (hi : i < recs.length) (hi2 : i < gps.length) (g : GI w B recs[i].1.v rv l w') : Fr w0 w' ∧ Kpt w1 w' :=
 ⟨Below.grown h.fr g.gr h.fr.size (fun k hk => Nat.le_trans hB (own_base (h.same i hi hi2 (Nat.le_refl _)) k hk)), h.kp.grown g.gr (fun k hk => .inr (own_block (h.same i hi hi2 (Nat.le_refl _)) k hk))⟩
theorem GO.next {w2 w3 : World} {rv tv' : Value} {l : List VM.Vl} {q : Sq} {qs : List Sq} {pv : Value} (hw01 : w0.heap.size ≤ w1.heap.size) (hA : GA w0 B pv recs gps w1) (h : GO w0 B w1 recs gps i tv outs w) (hB : w0.heap.size ≤ B) (hi : i < recs.length) (hi2 : i < gps.length) (g : GI w B recs[i].1.v q.v l w2)
  (hq1 : w.ownsRow w1.heap.size 31 1 tv outs.length (flat cdS qs)) (hq2 : qs.length = outs.length) (hq3 : ∀ j (h1 : j < qs.length) (h2 : j < outs.length), w.ownsRow B 56 3 qs[j].v outs[j].length (flat cdV outs[j])) (hq4 : ∀ j k (h1 : j < qs.length) (h2 : k < recs.length), i ≤ k → Apart qs[j].v.ownBlock recs[k].1.v.ownBlock)
  (ho : w3.ownsRow w1.heap.size 31 1 tv' (outs.length + 1) (flat cdS (qs ++ [q]))) (gr : w2.grownBy w3 tv.ownBlock) : GO w0 B w1 recs gps (i + 1) tv' (outs ++ [l]) w3 := by
 have hs := h.same i hi hi2 (Nat.le_refl _)
 have htv2 : w2.ownsRow w1.heap.size 31 1 tv outs.length (flat cdS qs) := own_grownT hq1 (by decide) (own_block hs) g.gr
 have key : ∀ {B' n : Nat} {v : Value} {xs : List Value}, w2.ownsRow B' 56 3 v n xs → w3.ownsRow B' 56 3 v n xs := fun h' => own_grownT h' (by decide) (own_block htv2) gr
 obtain ⟨f2, k2⟩ := GI.fr0 h hB hi hi2 g
 have hsz : w1.heap.size ≤ w2.heap.size := Nat.le_trans h.sz g.gr.size
 have eq1 : ∀ j (h1 : j < qs.length) (h2 : j < (qs ++ [q]).length), (qs ++ [q])[j] = qs[j] := fun j h1 h2 => List.getElem_append_left h1
 refine ⟨Below.grown f2 gr f2.size (fun k hk => Nat.le_trans hw01 (own_base htv2 k hk)), k2.grown gr (fun k hk => .inl (own_base htv2 k hk)), Nat.le_trans hsz gr.size, ⟨qs ++ [q], by rw [List.length_append]; exact ho, by simp [hq2], fun j h1 h2 => ?_, fun j k h1 h2 hk => ?_⟩, fun k h1 h2 hk => ?_⟩
 ·
  by_cases hj : j < qs.length
  ·
   have e2 : (outs ++ [l])[j] = outs[j]'(by omega) := List.getElem_append_left _
   rw [eq1 j hj h1, e2]
   exact key ((hq3 j hj (by omega)).kept g.gr (hq4 j i hj hi (Nat.le_refl _)))
  ·
   have hj2 : j = qs.length := by rw [List.length_append] at h1; simp at h1; omega
   subst hj2
   have e1 : (qs ++ [q])[qs.length] = q := by simp
   have e2 : (outs ++ [l])[qs.length] = l := by simp [hq2]
   rw [e1, e2]
   exact key g.own
 ·
  by_cases hj : j < qs.length
  ·
   rw [eq1 j hj h1]
   exact hq4 j k hj h2 (by omega)
  ·
   have hj2 : j = qs.length := by rw [List.length_append] at h1; simp at h1; omega
   subst hj2
   have e1 : (qs ++ [q])[qs.length] = q := by simp
   rw [e1]
   rcases g.wh with e | ⟨b, e, hb⟩
   ·
    rw [e]
    exact hA.apS i k hi h2 (by omega)
   ·
    rw [e]
    right
    intro e2
    have := ((hA.same k h2 (by rw [← hA.len]; exact h2)).lt b e2.symm).2
    have := h.sz
    omega
 · exact key ((h.same k h1 h2 (by omega)).kept g.gr (hA.apS k i h1 hi (by omega)))
end
namespace BG
theorem gE_ok {ls : List (List VM.Vl)} {cs : List Int} {gs : List Ag} (h : gE ls cs gs = 0) : cs.length + gs.length ≤ 8 ∧ (∀ g ∈ gs, kindOk g = true) ∧ (∀ c ∈ cs, hasC ls c = true) ∧ (∀ g ∈ gs, colOk ls g = true) := by
 unfold gE at h
 split at h
 · cases h
 split at h
 · cases h
 split at h
 · cases h
 split at h
 · cases h
 rename_i h1 h2 h3 h4
 rw [Bool.not_eq_false, List.all_eq_true] at h2 h3 h4
 exact ⟨by omega, h2, h3, h4⟩
theorem hasC_in {ls : List (List VM.Vl)} {c : Int} (h : hasC ls c = true) {r : List VM.Vl} (hr : r ∈ ls) (hw : r.length = wd ls) : 0 ≤ c ∧ c < (r.length : Int) := by
 unfold hasC at h
 simp only [Bool.or_eq_true, Bool.and_eq_true, decide_eq_true_eq] at h
 rcases h with h | h
 · rw [List.length_eq_zero_iff] at h; subst h; simp at hr
 · rw [hw]; exact h
end BG
theorem At.r1 {w : World} {b o : Nat} {l : List (Sq × Sq)} (h : At cdR w b o l) (i : Nat) (hi : i < l.length) : w.cell? ⟨b, o + i * 2, none⟩ = some (.slice l[i].1.a l[i].1.n l[i].1.c) := by
 have := h (i * 2) (.slice l[i].1.a l[i].1.n l[i].1.c) (by have := flat_get cdR l i 0 hi (by decide); simpa [cdR] using this)
 exact this
theorem group_any (v cv gv : Value) (ls : List (List VM.Vl)) (cs : List Int) (gs : List BG.Ag) (w : World) (h : IsRR w v ls) (hc : IsL cdZ w cv cs) (hg : IsL cdG w gv gs) (hW : ∀ r ∈ ls, ∀ x ∈ r, LM.wide x) (hL : ls.length ≤ 9223372036854775806) (hR : ∀ r ∈ ls, r.length ≤ 9223372036854775806) (hC : cs.length ≤ 4611686018427387900) (hG : gs.length ≤ 4611686018427387900) :
  Calls Tryz.prog 23 #[v, cv, gv] w fun r w' => RA w.heap.size (BG.gpO ls cs gs) r w' ∧ Fr w w' := by
 have HK : Hid (BG.gpO ls cs gs = if BG.chk ls ≠ 0 then .error (BG.chk ls) else if BG.gE ls cs gs ≠ 0 then .error (BG.gE ls cs gs) else BG.mp (BG.telR gs) (BG.grs cs ls)) := rfl
 have HCk := hideP (bagCheck_any v ls w h hL hR)
 have HCg := hideP (fun W (f : Fr w W) => checkGroup_any v cv gv ls cs gs W (h.fr f) (hc.fr f) (hg.fr f) hL hC hG)
 have HRl := hideP (fun (h0 : BG.chk ls = 0) => BG.chk_all h0)
 have HGE : Hid (BG.gE ls cs gs = if 8 < cs.length + gs.length then 2 else if gs.all BG.kindOk = false then 7 else if cs.all (BG.hasC ls) = false then 3 else if gs.all (BG.colOk ls) = false then 3 else 0) := rfl
 have HGs := hideP (fun (h0 : BG.chk ls = 0) (he : BG.gE ls cs gs = 0) W (f : Fr w W) => by
  obtain ⟨h40, hall⟩ := BG.chk_all h0
  obtain ⟨e8, _, ec, eg⟩ := BG.gE_ok he
  exact groups_any v cv ls cs W (h.fr f) (hc.fr f) (by omega) h40 (fun r hr c hcm => BG.hasC_in (ec c hcm) hr (hall r hr).2.2) (fun r hr => ⟨(hall r hr).2.1, (hall r hr).1⟩) hW)
 obtain ⟨a, c, rfl⟩ := h.slice
 obtain ⟨ca, cc, rfl⟩ : ∃ ca cc, cv = .slice ca cs.length cc := by obtain ⟨ca, cc, e, _⟩ := hc; exact ⟨ca, cc, e⟩
 obtain ⟨ga, gc, rfl, hgc, hgs⟩ := hg
 have HGa := hideP hgs
 have HWd := hideP hW
 clear hgs h hc hL hR hC hG hW
 obtain ⟨i0, hi0, hz0, hz1, hz2⟩ := info_parts Tryz.infoVs9
 obtain ⟨j0, hj0, jz0, jz1, jz2⟩ := info_parts Tryz.infoV9
 have hsg := Tryz.sizeGp
 generalize BG.gpO ls cs gs = R at *
 by_cases h0 : BG.chk ls = 0
 case neg =>
  replace HK := hideP (HK.out.trans (if_pos h0))
  generalize BG.chk ls = z at *
  have e1 : ((z : Int) != 0) = true := by simp; omega
  have e2 : ¬ ((z : Int) = 0) := by omega
  go_enter Tryz.func23, Tryz.ntmps23
  go_wp2_with fail
  refine HCk.out.mono ?_
  rintro _ w1 ⟨rfl, f1⟩
  have F1 := hideP f1
  clear f1 HCk
  go_wp2_with fail
  go_ret2
  exact ⟨by rw [HK.out]; rfl, F1.out⟩
 replace HK := hideP (HK.out.trans (if_neg (by simpa using h0)))
 obtain ⟨h40, hall⟩ := HRl.out h0
 replace HGs := hideP (HGs.out h0)
 rw [h0] at HCk
 clear HRl h0
 have HAl := hideP hall
 clear hall
 by_cases hE : BG.gE ls cs gs = 0
 case neg =>
  replace HK := hideP (HK.out.trans (if_pos hE))
  generalize BG.gE ls cs gs = z at *
  have e1 : ((z : Int) != 0) = true := by simp; omega
  have e2 : ¬ ((z : Int) = 0) := by omega
  go_enter Tryz.func23, Tryz.ntmps23
  go_wp2_with fail
  refine HCk.out.mono ?_
  rintro _ w1 ⟨rfl, f1⟩
  have c2 := HCg.out w1 f1
  have F1 := hideP f1
  clear f1 HCk HCg
  go_wp2_with fail
  refine c2.mono ?_
  rintro _ w2 ⟨rfl, f2⟩
  have F2 := hideP (F1.out.trans f2)
  clear f2 c2
  go_wp2_with fail
  go_ret2
  exact ⟨by rw [HK.out]; rfl, F2.out⟩
 replace HK := hideP (HK.out.trans (if_neg (by simpa using hE)))
 replace HGs := hideP (HGs.out hE)
 obtain ⟨e8, _, _, eg⟩ := BG.gE_ok hE
 have HEg := hideP eg
 rw [hE] at HCg
 clear eg hE HGE
 have HGm := hideP (BG.grs_mem cs ls)
 have HGr := hideP (BG.grs_rows cs ls)
 have HGn := hideP (BG.grs_same cs ls)
 have hGl := BG.grs_len cs ls
 generalize BG.grs cs ls = gps at *
 go_enter Tryz.func23, Tryz.ntmps23
 go_wp2_with fail
 refine HCk.out.mono ?_
 rintro _ wa ⟨rfl, fa⟩
 have c2 := HCg.out wa fa
 have F1 := hideP fa
 clear fa HCk HCg
 go_wp2_with fail
 refine c2.mono ?_
 rintro _ wb ⟨rfl, fb⟩
 have F2 := hideP (F1.out.trans fb)
 have c3 := HGs.out wb F2.out
 clear fb c2 F1 HGs
 go_wp2_with fail
 refine c3.mono ?_
 rintro _ w1 ⟨pv, recs, rfl, hA, f3⟩
 have hwb := F2.out.size
 have hw01 : wb.heap.size ≤ w1.heap.size := f3.size
 have HO0 := hideP (GO.start hA f3)
 have HA := hideP hA
 have hrl := hA.len
 obtain ⟨pa, pc, rfl⟩ : ∃ pa pc, pv = .slice pa recs.length pc := by obtain ⟨pa, pc, e, _⟩ := hA.lst w1 (Kpt.refl _); exact ⟨pa, pc, e⟩
 clear c3 hA f3
 go_wp2_with fail
 go_loopw [10, 12, 13, 15, 16, 17, 34] (fun tv _ _ _ _ _ iv wr => ∃ (i : Nat) (outs : List (List VM.Vl)), iv = .int .i64 i ∧ i ≤ gps.length ∧ outs.length = i ∧ R = BG.pre outs (BG.mp (BG.telR gs) (gps.drop i)) ∧ GO wb wb.heap.size w1 recs gps i tv outs wr) (fun _ _ _ _ _ _ iv _ => gps.length - (intOf iv).toNat)
 case atStart => exact ⟨0, [], rfl, Nat.zero_le _, rfl, by rw [BG.pre_nil]; exact HK.out, HO0.out⟩
 case round =>
  obtain ⟨i, outs, rfl, hi, hol, hRi, hO⟩ := hrel
  obtain ⟨ta, tc, rfl⟩ := hO.slice
  obtain ⟨wo, rfl⟩ : ∃ x, x = wr := ⟨_, rfl⟩
  by_cases hlt : i < gps.length
  case neg =>
   obtain rfl : i = gps.length := by omega
   have HRe := hideP (show R = .ok outs by rw [hRi, List.drop_length]; simp [BG.mp, BG.pre])
   have HF := hideP (F2.out.trans hO.fr)
   have HOr := hideP (show ORR w.heap.size wo (.slice ta outs.length tc) outs from by
    obtain ⟨qs, h1, h2, h3, _⟩ := hO.own
    exact ⟨qs, own_low h1 (by omega), h2, fun i a b => own_low (h3 i a b) hwb⟩)
   clear hRi hO hol
   have hlt' : ¬ ((gps.length : Int) < (recs.length : Int)) := by omega
   go_wp2_with fail
   go_ret2
   exact ⟨by rw [HRe.out]; exact ⟨_, rfl, HOr.out⟩, HF.out⟩
  have hlr : i < recs.length := by omega
  have hlt' : (i : Int) < (recs.length : Int) := by omega
  obtain ⟨pb, po, rfl, hpb, hat⟩ : ∃ b o, pa = some ⟨b, o, none⟩ ∧ b < wo.heap.size ∧ At cdR wo b o recs := by
   obtain ⟨pa', pc', e, _, h | h⟩ := HA.out.lst wo hO.kp
   · rw [h] at hlr; simp at hlr
   · cases e; exact h
  have d1 := hat.r2 i hlr
  have d0 := hat.r1 i hlr
  have HRr := hideP (fun W (f : Fr wb W) (k : Kpt w1 W) => HA.out.rows W f k i hlr hlt)
  rw [List.drop_eq_getElem_cons hlt] at hRi
  have hmem := List.getElem_mem hlt
  have hgm := HGm.out _ hmem
  have hgr := HGr.out _ hmem
  have HGn2 := hideP (HGn.out _ hmem)
  have HTl := hideP (fun (sv : Value) (g : BG.Ag) (hg : g ∈ gs) W (f : Fr wb W) (k : Kpt w1 W) (hs : ∃ a n c, sv = .slice a n c) => gtell_all sv recs[i].2.v gps[i].2 g W hs (HRr.out W f k) (by
   have := HEg.out g hg
   unfold BG.colOk at this
   rw [Bool.or_eq_true, decide_eq_true_eq] at this
   rcases this with h | h
   · exact .inr fun r hr => BG.hasC_in h (hgm r hr) (HAl.out r (hgm r hr)).2.2
   · exact .inl ⟨h.2, h.1⟩) (fun r hr x hx => HWd.out r (hgm r hr) x hx) (by omega) (fun r hr => by have := (HAl.out r (hgm r hr)).1; omega))
  have s1 := fun c (h : BG.telR gs gps[i] = .error c) => BG.mp_err (f := BG.telR gs) (t := gps.drop (i + 1)) h
  have s2 := fun x (h : BG.telR gs gps[i] = .ok x) => BG.mp_ok (f := BG.telR gs) (t := gps.drop (i + 1)) h
  have hst : BG.telR gs gps[i] = BG.pre gps[i].1 (BG.mp (BG.tel gps[i].2) gs) := rfl
  have hG0 : GI wo wb.heap.size recs[i].1.v recs[i].1.v gps[i].1 wo := ⟨grown_same _ _, hO.same i hlr hlt (Nat.le_refl _), .inl rfl⟩
  have hsl : recs[i].1.n = gps[i].1.length := by
   obtain ⟨a, c, e⟩ := own_slice hG0.own
   unfold Sq.v at e
   injection e
  have HFk := hideP (fun W rv l (g : GI wo wb.heap.size recs[i].1.v rv l W) => GI.fr0 hO (Nat.le_refl _) hlr hlt g)
  obtain ⟨qs, hq1, hq2, hq3, hq4⟩ := hO.own
  have HNx := hideP (fun W W' tv' q l (g : GI wo wb.heap.size recs[i].1.v (Sq.v q) l W) ho gr => GO.next (w2 := W) (w3 := W') (tv' := tv') (q := q) (qs := qs) (rv := .slice none 0 0) hw01 HA.out hO (Nat.le_refl _) hlr hlt g hq1 hq2 hq3 hq4 ho gr)
  have HTv := hideP (fun W rv l (g : GI wo wb.heap.size recs[i].1.v rv l W) => (own_grownT hq1 (by decide) (own_block (hO.same i hlr hlt (Nat.le_refl _))) g.gr : W.ownsRow w1.heap.size 31 1 (.slice ta outs.length tc) outs.length (flat cdS qs)))
  generalize BG.mp (BG.telR gs) (gps[i] :: gps.drop (i + 1)) = Z at *
  generalize BG.telR gs gps[i] = TR at *
  generalize gps[i] = gp at *
  obtain ⟨sq, hsq⟩ : ∃ x, recs[i].1 = x := ⟨_, rfl⟩
  obtain ⟨rq, hrq⟩ : ∃ x, recs[i].2 = x := ⟨_, rfl⟩
  rw [hrq] at d1 HTl HRr
  rw [hsq] at d0 HFk HNx HTv hG0 hsl
  clear hrq hsq
  obtain ⟨sa, sn, sc⟩ := sq
  obtain ⟨ra, rn, rc⟩ := rq
  obtain ⟨same, grows⟩ := gp
  simp only [Sq.v] at *
  subst hsl
  have HS1 := hideP s1
  have HS2 := hideP s2
  have HRi := hideP hRi
  have HO := hideP hO
  have HHo := hideP hol
  have HSt := hideP hst
  have HB8 := hideP (Blk.new wo #[.slice sa same.length sc, .slice ra rn rc] 88)
  have HG0 := hideP (hG0.fr ((Fr.refl wo).alloc (.cells #[.slice sa same.length sc, .slice ra rn rc] 88)))
  have hwrs := hO.fr.size
  clear s1 s2 hRi hO hol hst hG0 hgm hgr hmem hat hpb hq1 hq2 hq3 hq4
  go_wp2_with fail
  clear d0 d1
  obtain ⟨b8, hb8⟩ : ∃ x, wo.heap.size = x := ⟨_, rfl⟩
  rw [hb8] at HB8 ⊢
  have Hb8 := hideP hb8
  generalize wo.alloc (.cells #[.slice sa same.length sc, .slice ra rn rc] 88) = W8 at *
  clear hb8
  go_loopw [13, 15, 16, 17, 42] (fun rv _ _ _ iv W => ∃ (k : Nat) (xs : List VM.Vl), iv = .int .i64 k ∧ k ≤ gs.length ∧ xs.length = k ∧ TR = BG.pre (same ++ xs) (BG.mp (BG.tel grows) (gs.drop k)) ∧ GI wo wb.heap.size (.slice sa same.length sc) rv (same ++ xs) W ∧ Blk W b8 #[.slice sa same.length sc, .slice ra rn rc] 88) (fun _ _ _ _ iv _ => gs.length - (intOf iv).toNat)
  case atStart => exact ⟨0, [], rfl, Nat.zero_le _, rfl, by rw [List.append_nil]; exact HSt.out, by rw [List.append_nil]; exact HG0.out, HB8.out⟩
  case round =>
   clear HB8 HG0 HSt
   obtain ⟨k, xs, rfl, hk, hxl, hMk, hGi, hB8⟩ := hrel
   obtain ⟨xa, xc, rfl⟩ := own_slice hGi.own
   obtain ⟨ln, hln⟩ : ∃ x, (same ++ xs).length = x := ⟨_, rfl⟩
   rw [hln] at hGi ⊢
   have HLn := hideP hln
   clear hln
   by_cases hltk : k < gs.length
   case neg =>
    obtain rfl : k = gs.length := by omega
    have HMe := hideP (HS2.out (same ++ xs) (by rw [hMk, List.drop_length]; simp [BG.mp, BG.pre]))
    have HLit := hideP (lit_one cdS wr ⟨xa, ln, xc⟩ 31)
    have fA : Fr wr (wr.alloc (.cells #[.slice xa ln xc] 31)) := (Fr.refl wr).alloc _
    have HGA := hideP (hGi.fr fA)
    have HTA := hideP (HTv.out _ _ _ (hGi.fr fA))
    have hsz : w1.heap.size ≤ wr.heap.size := Nat.le_trans HO.out.sz hGi.gr.size
    clear hMk hGi hB8 fA HTv HFk HTl HRr
    go_wp2_with (at_builtin; refine wpList_append_L cdS rfl _ _ 22 31 i0 _ 24 rfl Tryz.underlying22 hi0 hz0 hz1 hz2 rfl w1.heap.size _ outs.length _ rfl HTA.out (.slice (some ⟨wr.heap.size, 0, none⟩) 1 1) [⟨xa, ln, xc⟩] rfl HLit.out ?c3 ?c4 ?c5 ?_)
    case c3 => have := HHo.out; unfold maxLen; (try simp) <;> omega
    case c4 => have := HHo.out; (try simp) <;> omega
    case c5 => (try simp) <;> omega
    intro v2 wB own2 gr2
    have HNN := hideP (HNx.out _ _ _ ⟨xa, ln, xc⟩ _ HGA.out own2 gr2)
    clear own2 gr2
    go_wp2_with fail
    go_roundw
    case rel => exact ⟨i + 1, outs ++ [same ++ xs], by go_num, by omega, by rw [List.length_append, HHo.out]; rfl, by rw [HRi.out, HMe.out, BG.pre_pre], HNN.out⟩
    case measure => simp [intOf]; omega
   have hltk' : (k : Int) < (gs.length : Int) := by omega
   obtain ⟨hfr, hkp⟩ := HFk.out _ _ _ hGi
   obtain ⟨gb, go_, rfl, hgb, hatg⟩ : ∃ b o, ga = some ⟨b, o, none⟩ ∧ b < w.heap.size ∧ At cdG w b o gs := by
    rcases HGa.out with h | h
    · rw [h] at hltk; simp at hltk
    · exact h
   obtain ⟨d0, d1⟩ := (hatg.fr hgb (F2.out.trans hfr)).g2 k hltk
   have b0 := hB8.cell 0 rfl
   have b1 := hB8.cell 1 rfl
   rw [List.drop_eq_getElem_cons hltk] at hMk
   have cx := fun W f kp => HTl.out (.slice sa same.length sc) gs[k] (List.getElem_mem hltk) W f kp ⟨_, _, _, rfl⟩
   have s1 := fun c (h : BG.tel grows gs[k] = .error c) => BG.mp_err (f := BG.tel grows) (t := gs.drop (k + 1)) h
   have s2 := fun x (h : BG.tel grows gs[k] = .ok x) => BG.mp_ok (f := BG.tel grows) (t := gs.drop (k + 1)) h
   have hne := fun c (h : BG.tel grows gs[k] = .error c) => BG.tel_ne h
   generalize BG.mp (BG.tel grows) (gs[k] :: gs.drop (k + 1)) = Y at *
   generalize BG.tel grows gs[k] = D at *
   generalize gs[k] = ag at *
   obtain ⟨kind, col⟩ := ag
   simp only at cx d0 d1
   obtain ⟨W9, hW9⟩ : ∃ x, wr.alloc (.cells #[.int .i64 kind, .int .i64 col] 66) = x := ⟨_, rfl⟩
   have fA : Fr wr W9 := by rw [← hW9]; exact (Fr.refl wr).alloc _
   have bb0 := (Below.cell fA (World.block_lt_of_cell? _ _ b0)).trans b0
   have bb1 := (Below.cell fA (World.block_lt_of_cell? _ _ b1)).trans b1
   have HG9 := hideP (hGi.fr fA)
   have HB9 := hideP (hB8.fr fA)
   have HF9 := hideP (hfr.trans fA)
   have HMk2 := hideP hMk
   have HXl := hideP hxl
   have c4 := cx W9 (hfr.trans fA) (hkp.fr fA)
   have hN9 := Blk.new wr #[.int .i64 kind, .int .i64 col] 66
   rw [hW9] at hN9
   have a0 := hN9.cell 0 rfl
   have a1 := hN9.cell 1 rfl
   clear hMk hGi hB8 hfr hkp fA cx hxl hatg b0 b1 hN9
   cases D with
   | error c =>
    have HY := hideP (s1 c rfl)
    have e1 : ((c : Int) != 0) = true := by have := hne c rfl; simp; omega
    have e2 : ¬ ((c : Int) = 0) := by have := hne c rfl; omega
    have HRr2 := hideP (show R = .error c from by rw [HRi.out, HS1.out c (by rw [HMk2.out, HY.out]; rfl)]; rfl)
    simp only [exV, vlV] at c4
    clear s1 s2 hne
    go_wp2_with fail
    refine c4.mono ?_
    rintro _ w5 ⟨rfl, f5⟩
    have F5 := hideP ((F2.out.trans HF9.out).trans f5)
    clear f5
    go_wp2_with fail
    go_ret2
    exact ⟨by rw [HRr2.out]; rfl, F5.out.alloc _⟩
   | ok y =>
    have HY := hideP (s2 y rfl)
    obtain ⟨yk, yn, ys⟩ := y
    simp only [exV, vlV] at c4
    clear s1 s2 hne
    go_wp2_with fail
    refine c4.mono ?_
    rintro _ w5 ⟨rfl, f5⟩
    have fB : Fr W9 ((w5.alloc (.cells #[.int .i64 yk, .int .i64 yn, .string ys] 56)).alloc (.cells #[.int .i64 yk, .int .i64 yn, .string ys] 56)) := (f5.alloc _).alloc _
    have HGB := hideP (HG9.out.fr fB)
    have HBB := hideP (HB9.out.fr fB)
    have HLit := hideP (lit_one' cdV w5 (.cells #[.int .i64 yk, .int .i64 yn, .string ys] 56) ⟨yk, yn, ys⟩ 56)
    have hszB : wb.heap.size ≤ w5.heap.size := Nat.le_trans HF9.out.size f5.size
    have hsl8 : ln ≤ 16 := by have := HGn2.out; have := HXl.out; have := HLn.out; rw [List.length_append] at this; omega
    have HGO := hideP (by have := HGB.out.own; rw [HLn.out] at this; exact this : World.ownsRow _ wb.heap.size 56 3 (.slice xa ln xc) ln (flat cdV (same ++ xs)))
    clear f5 fB HG9 HB9 c4 bb0 bb1 a0 a1 hW9 d0 d1
    go_wp2_with (at_builtin; refine wpList_append_LA cdV rfl _ _ 31 56 j0 _ 32 rfl Tryz.underlying31 hj0 jz0 jz1 jz2 rfl wb.heap.size _ ln (same ++ xs) rfl HGO.out (.slice (some ⟨w5.heap.size + 1, 0, none⟩) 1 1) [⟨yk, yn, ys⟩] rfl HLit.out ?c3 ?c4 ?c5 ?_)
    case c3 => unfold maxLen; (try simp) <;> omega
    case c4 => (try simp) <;> omega
    case c5 => (try simp) <;> omega
    intro v6 w6 own6 gr6 wh6
    have HB6 := hideP (HBB.out.grown gr6 (by
     intro e
     obtain ⟨cur, hcur⟩ := own_block HGO.out _ e
     have := HBB.out
     unfold Blk at this
     rw [this] at hcur
     simp only [Option.some.injEq, Obj.cells.injEq] at hcur
     exact absurd hcur.2.1 (by decide)))
    have HG6 := hideP (HGB.out.app (l' := same ++ (xs ++ [⟨yk, yn, ys⟩])) (by
     have e9 : same ++ (xs ++ [(⟨yk, yn, ys⟩ : VM.Vl)]) = (same ++ xs) ++ [⟨yk, yn, ys⟩] := by simp
     have e8 : (same ++ (xs ++ [(⟨yk, yn, ys⟩ : VM.Vl)])).length = ln + 1 := by rw [e9, List.length_append, HLn.out]; rfl
     rw [e8]
     exact own6) gr6 (by
     rcases wh6 with e | ⟨g6, e, hg6⟩
     · exact .inl e
     · exact .inr ⟨g6, e, by simpa using hg6⟩))
    clear own6 gr6 wh6 HGB HBB
    go_wp2_with fail
    go_roundw
    case rel => exact ⟨k + 1, xs ++ [⟨yk, yn, ys⟩], by go_num, by omega, by rw [List.length_append, HXl.out]; rfl, by rw [HMk2.out, HY.out, BG.pre_pre, List.append_assoc], HG6.out, HB6.out⟩
    case measure => simp [intOf]; omega
end Go.Proofs.YtbcfdhimngoplaaGreatDoor
