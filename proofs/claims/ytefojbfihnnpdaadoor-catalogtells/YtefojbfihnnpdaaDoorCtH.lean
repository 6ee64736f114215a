/-
  What Rows of package catalog answers.
-/
import Derived.Test.YtefojbfihnnpdaaDoorCtG
namespace Go.Proofs.YtefojbfihnnpdaaDoor
open Go.ChangeShapes Go.WideShapes Go.ChangeAt Go.RowKit
set_option linter.unusedVariables false
set_option linter.unusedSimpArgs false
set_option maxRecDepth 100000
set_option maxHeartbeats 4000000

theorem Tryd.infoVal0 : (Tryd.prog.info? 46).map (fun i => (i.zero, i.size, i.bytes)) = some (some (.agg #[.int .i64 0, .int .i64 0, .string ⟨#[]⟩]), 3, 32) := by kernel_rfl
def cdV : Cd VM.Vl := ⟨3, fun x => [.int .i64 x.k, .int .i64 x.n, .string x.s], by decide, fun _ => rfl, fun x u h => by simp at h; rcases h with rfl | rfl | rfl <;> rfl⟩
theorem conv_three (w : World) (b : Nat) (x y z : Nat) (hx : x < 256) (hy : y < 256) (hz : z < 256) (h : Blk w b #[.int .u8 (x : Int), .int .u8 (y : Int), .int .u8 (z : Int)] 49) :
    (convert 51 9 (.slice (some ⟨b, 0, none⟩) 3 3)).run Tryd.prog w = .ok (.string ⟨#[UInt8.ofNat x, UInt8.ofNat y, UInt8.ofNat z]⟩) w := by
  have e : ∀ n : Nat, n < 256 → (UInt8.ofNat n).toNat = n := fun n hn => by rw [UInt8.toNat_ofNat']; exact Nat.mod_eq_of_lt hn
  refine run_convert_bytes_back (P := Tryd.prog) w 51 9 5 ⟨b, 0, none⟩ 3 [UInt8.ofNat x, UInt8.ofNat y, UInt8.ofNat z] Tryd.underlying51 Tryd.underlying5 Tryd.underlying9 ?_
  intro j hj
  rw [Addr.add_lit, Nat.zero_add]
  match j, hj with
  | 0, _ => simp only [List.getElem_cons_zero]; rw [h.cell 0 rfl, e x hx]; rfl
  | 1, _ => simp only [List.getElem_cons_succ, List.getElem_cons_zero]; rw [h.cell 1 rfl, e y hy]; rfl
  | 2, _ => simp only [List.getElem_cons_succ, List.getElem_cons_zero]; rw [h.cell 2 rfl, e z hz]; rfl
/-- what Rows answers -/
def RAns (B : Nat) (l : List CT.Sc) (e : Ending) (w' : World) : Prop :=
  if CT.chk l = 0 then ∃ v es, e = .returned (.tuple #[v, .int .i64 0]) ∧ Oe B v es w' ∧ es.map (·.1) = CT.rows l else e = .returned (.tuple #[.slice none 0 0, .int .i64 (CT.chk l)])
theorem rows_bad (v : Value) (l : List CT.Sc) (w : World) (h : IsSc w v l) (hw : WS l) (h0 : CT.chk l ≠ 0) :
    Calls Tryd.prog 8 #[v] w fun e w' => e = .returned (.tuple #[.slice none 0 0, .int .i64 (CT.chk l)]) ∧ Fr w w' := by
  have cc := ccheck_any v l w h hw
  obtain ⟨ps, ⟨a, cap, rfl, _, _⟩, hps, _⟩ := h
  generalize CT.chk l = x at cc h0
  have e1 : ((x : Int) != 0) = true := by simp; omega
  have e2 : ¬ ((x : Int) = 0) := by omega
  go_enter Tryd.func8, Tryd.ntmps8
  go_wp2_with fail
  refine cc.mono ?_
  rintro _ w1 ⟨rfl, f1⟩
  go_wp2_with fail
  go_ret2
  exact ⟨rfl, f1⟩
def CapOk (v : Value) : Prop := ∃ (a : Option Addr) (n c : Nat), v = .slice a n c ∧ n ≤ c
theorem own_slice_c {B n sz : Nat} {T : TypeId} {v : Value} {xs : List Value} {w : World} (h : w.ownsRow B T sz v n xs) : ∃ a c, v = .slice a n c ∧ n ≤ c := by
  rcases h.2 with ⟨rfl, h0⟩ | ⟨g', cap, cur, rfl, h2, h3, h4, _⟩
  · exact ⟨none, 0, by rw [h0], by omega⟩
  · exact ⟨_, _, rfl, h4⟩
theorem rows_good (v : Value) (l : List CT.Sc) (w : World) (h : IsSc w v l) (hw : WS l) (h0 : CT.chk l = 0) :
    Calls Tryd.prog 8 #[v] w fun e w' => ∃ v es, e = .returned (.tuple #[v, .int .i64 0]) ∧ Oe w.heap.size v es w' ∧ es.map (·.1) = CT.rows l ∧ (∀ p ∈ es, CapOk p.2) ∧ Fr w w' := by
  have cc := ccheck_any v l w h hw
  rw [h0] at cc
  obtain ⟨hl6, hok⟩ := CT.chk_ok h0
  obtain ⟨ps, hL, hps, hcs⟩ := h
  obtain ⟨a, cap, rfl, hcap, hpc⟩ := hL
  have hpl : ps.length = l.length := by rw [← hps, List.length_map]
  rw [hpl] at hcap cc ⊢
  have HC := hideP hpc
  have HK := hideP hcs
  have HP := hideP hps
  have HPL := hideP hpl
  have HW := hideP hw
  have HOk := hideP hok
  clear hpc hcs hps hpl hw h0 hok
  obtain ⟨i0, hi0, hz0, hz1, hz2⟩ := info_parts Tryd.infoEn
  obtain ⟨j0, hj0, jz0, jz1, jz2⟩ := info_parts Tryd.infoVal0
  obtain ⟨mc, hmc⟩ : ∃ mc, madeCells (Value.agg #[.int .i64 0, .slice none 0 0]).cells (l.length * 2) = mc := ⟨_, rfl⟩
  have hms : mc.size = l.length * 2 := by rw [← hmc]; exact size_madeCells _ _
  have hmk : ∀ W : World, (Instr.makeSlice 23 (.int .i64 0) (.int .i64 (l.length : Int))).run Tryd.prog W = .ok (.slice (some ⟨W.heap.size, 0, none⟩) 0 l.length) (W.alloc (.cells mc 53)) := by
    intro W
    have hr := run_make (P := Tryd.prog) W 23 53 i0 _ Tryd.underlying23 hi0 hz0 .i64 .i64 0 (l.length : Int) (by omega) (by omega) (by rw [hz2]; omega) (by omega)
    simp only [hz1] at hr
    rw [show (l.length : Int).toNat * 2 = l.length * 2 by omega, hmc] at hr
    exact hr
  go_enter Tryd.func8, Tryd.ntmps8
  go_wp2_with fail
  refine cc.mono ?_
  rintro _ w1 ⟨rfl, f1⟩
  have F1 : Hid (Fr w (w1.alloc (.cells mc 53))) := f1.alloc _
  have HO1 : Hid (Oe w.heap.size (.slice (some ⟨w1.heap.size, 0, none⟩) 0 l.length) [] (w1.alloc (.cells mc 53))) := ⟨World.ownsRow_made w1 mc l.length f1.size (by unfold maxLen; omega) hms, fun p hp => by simp at hp⟩
  clear cc f1 hms hmc
  go_wp2_with fail
  clear hmk
  go_loopw [5, 7, 8, 10, 11, 22] (fun ev _ _ _ _ iv wr => ∃ (i : Nat) (es : List Ev), iv = .int .i64 i ∧ i ≤ l.length ∧ Fr w wr ∧ Oe w.heap.size ev es wr ∧ es.map (·.1) = CT.rows (l.take i) ∧ ∀ p ∈ es, CapOk p.2) (fun _ _ _ _ _ iv _ => l.length - (intOf iv).toNat)
  case atStart => exact ⟨0, [], rfl, Nat.zero_le _, F1.out, HO1.out, rfl, fun p hp => by simp at hp⟩
  case round =>
    obtain ⟨i, es, rfl, hi, hfr, hoe, hes, hcp⟩ := hrel
    have HCp := hideP hcp
    clear hcp
    generalize wr = wo at *
    have hel : es.length = i := by
      have := congrArg List.length hes
      rw [List.length_map, CT.rows, List.length_map, List.length_take] at this
      omega
    obtain ⟨av, ocap, rfl⟩ := own_slice hoe.own
    have HFr := hideP hfr
    have HOe := hideP hoe
    have HEs := hideP hes
    have HEl := hideP hel
    rw [hel]
    clear hfr hoe hes hel
    by_cases hlt : i < l.length
    · have hlt2 : i < ps.length := by rw [HPL.out]; exact hlt
      have hlt' : (i : Int) < (l.length : Int) := by omega
      obtain ⟨b, o, rfl, hb, hc⟩ : ∃ b o, a = some ⟨b, o, none⟩ ∧ b < w.heap.size ∧ At cdS w b o ps := by
        rcases HC.out with h | h
        · rw [h] at hlt2; simp at hlt2
        · exact h
      obtain ⟨c0, c1, c2⟩ := (hc.fr hb HFr.out).sc i hlt2
      have hpi : ps[i].1 = l[i] := by
        have e := HP.out
        subst e
        rw [List.getElem_map]
      have hcol := HK.out ps[i] (List.getElem_mem hlt2)
      rw [hpi] at c0 c1 hcol
      have hokt := HOk.out l[i] (List.getElem_mem hlt)
      have hwt := HW.out l[i] (List.getElem_mem hlt)
      have htk : CT.rows (l.take (i + 1)) = CT.rows (l.take i) ++ [(l[i].id, CT.row l[i])] := by
        rw [List.take_succ_eq_append_getElem hlt]
        unfold CT.rows
        rw [List.map_append]
        rfl
      generalize ps[i].2 = sl at c2 hcol
      obtain ⟨sa, sn, sc⟩ := sl
      simp only [slV] at c2 hcol
      have h6c := hokt.six
      have hwc := hwt.2.1
      have hke := hokt.each
      have hrow : CT.row l[i] = ⟨2, 0, l[i].n⟩ :: l[i].c.map fun c => ⟨2, 0, CT.ct c⟩ := rfl
      generalize CT.row l[i] = rw_ at htk hrow
      generalize l[i].id = x0 at c0 htk
      generalize l[i].n = x1 at c1 hrow
      generalize l[i].c = cols at hcol h6c hwc hke hrow
      obtain ⟨ca, ccap, hce, hccap, hcc⟩ := hcol
      simp only [Value.slice.injEq] at hce
      obtain ⟨rfl, rfl, rfl⟩ := hce
      have HTk := hideP htk
      have HRw := hideP hrow
      have HCC := hideP hcc
      have HWc := hideP hwc
      have HKe := hideP hke
      clear hc hpi hokt hwt htk hrow hcc hwc hke hlt2
      obtain ⟨wb, hwb⟩ : ∃ wb, wo.alloc (.cells #[.int .i64 x0, .string x1, .slice sa cols.length sc] 39) = wb := ⟨_, rfl⟩
      have B1 : Blk wb wo.heap.size #[.int .i64 x0, .string x1, .slice sa cols.length sc] 39 := by rw [← hwb]; exact Blk.new wo _ _
      have fb : Fr wo wb := by rw [← hwb]; exact (Fr.refl wo).alloc _
      have hsb : wb.heap.size = wo.heap.size + 1 := by rw [← hwb, World.size_alloc]
      have HB1 := hideP B1
      have HFb := hideP fb
      have k2 := (B1.old (.cells #[.int .i64 2, .int .i64 0, .string x1] 46)).cell 2 rfl
      have k1 := B1.cell 1 rfl
      clear B1 fb
      go_wp2_with fail
      have HSb := hideP hsb
      have hst : Ov wb.heap.size (.slice (some ⟨wo.heap.size + 1, 0, none⟩) 1 1) [⟨2, 0, x1⟩] (wb.alloc (.cells #[.int .i64 2, .int .i64 0, .string x1] 46)) := by
        rw [← hsb]
        exact World.ownsRow_lit (base := wb.heap.size) (e := 46) (size := 3) wb #[.int .i64 2, .int .i64 0, .string x1] 1 (Nat.le_refl _) (by decide) rfl
      have HSt := hideP hst
      have F0 : Hid (Fr wb (wb.alloc (.cells #[.int .i64 2, .int .i64 0, .string x1] 46))) := (Fr.refl wb).alloc _
      clear hst hsb hwb k1 k2 c0 c1 c2
      go_loopw [8, 10, 11, 33] (fun rv _ _ kv wq => ∃ k : Nat, kv = .int .i64 k ∧ k ≤ cols.length ∧ Fr wb wq ∧ Ov wb.heap.size rv (⟨2, 0, x1⟩ :: (cols.take k).map fun c => ⟨2, 0, CT.ct c⟩) wq) (fun _ _ _ kv _ => cols.length - (intOf kv).toNat)
      case atStart => exact ⟨0, rfl, Nat.zero_le _, F0.out, HSt.out⟩
      case round =>
        obtain ⟨k, rfl, hk, hfq, hov⟩ := hrel
        have hrl : (⟨2, 0, x1⟩ :: (cols.take k).map fun c => (⟨2, 0, CT.ct c⟩ : VM.Vl)).length = k + 1 := by
          rw [List.length_cons, List.length_map, List.length_take]; omega
        have hov2 : wr.ownsRow wb.heap.size 46 3 u8 (k + 1) (flat cdV (⟨2, 0, x1⟩ :: (cols.take k).map fun c => ⟨2, 0, CT.ct c⟩)) := by
          have h := hov
          unfold Ov at h
          rw [hrl] at h
          exact h
        obtain ⟨ar, cr, rfl, hcr⟩ := own_slice_c hov2
        have HCr := hideP hcr
        clear hcr
        have HOv := hideP hov2
        have HFq := hideP hfq
        clear hov hov2 hfq hrl
        by_cases hkl : k < cols.length
        · have hkl' : (k : Int) < (cols.length : Int) := by omega
          obtain ⟨b2, o2, rfl, hb2, hc2⟩ : ∃ b o, sa = some ⟨b, o, none⟩ ∧ b < w.heap.size ∧ At cdC w b o cols := by
            rcases HCC.out with h | h
            · rw [h] at hkl; simp at hkl
            · exact h
          have FF : Hid (Fr w wr) := HFr.out.trans (HFb.out.trans HFq.out)
          obtain ⟨d0, d1, d2, d3⟩ := (hc2.fr hb2 FF.out).co k hkl
          have hok := HKe.out cols[k] (List.getElem_mem hkl)
          have hwn := HWc.out cols[k] (List.getElem_mem hkl)
          have htk2 : (cols.take (k + 1)).map (fun c => (⟨2, 0, CT.ct c⟩ : VM.Vl)) = (cols.take k).map (fun c => (⟨2, 0, CT.ct c⟩ : VM.Vl)) ++ [⟨2, 0, CT.mrk cols[k] ++ cols[k].n⟩] := by
            rw [List.take_succ_eq_append_getElem hkl, List.map_append]; rfl
          have hmr : CT.mrk cols[k] = ⟨#[UInt8.ofNat (48 + cols[k].k.toNat), UInt8.ofNat (CT.mk cols[k].nn 110), UInt8.ofNat (CT.mk cols[k].u 117)]⟩ := rfl
          generalize CT.mrk cols[k] = mb at htk2 hmr
          have hlo := hok.lo
          have hhi := hok.hi
          generalize cols[k].n = y0 at d0 htk2 hwn
          generalize cols[k].k = y1 at d1 hmr hlo hhi
          obtain ⟨kk, rfl⟩ := Int.eq_ofNat_of_zero_le hlo
          rw [Int.toNat_natCast] at hmr
          generalize cols[k].nn = y2 at d2 hmr
          generalize cols[k].u = y3 at d3 hmr
          have cm := fun W => marksOf_any y0 kk y2 y3 W (by omega)
          have hm2 : CT.mk y2 110 < 256 := by unfold CT.mk; split <;> omega
          have hm3 : CT.mk y3 117 < 256 := by unfold CT.mk; split <;> omega
          generalize CT.mk y2 110 = m1 at cm hmr hm2
          generalize CT.mk y3 117 = m2 at cm hmr hm3
          have HTk2 := hideP htk2
          have HMr := hideP hmr
          have HBc := hideP (Blk.new wr #[.string y0, .int .i64 kk, .bool y2, .bool y3] 44)
          clear hc2 hok htk2 hmr hlo
          go_wp2_with fail
          refine (cm _).mono ?_
          rintro _ w3 ⟨rfl, f3⟩
          obtain ⟨W4, hW4⟩ : ∃ W4, w3.alloc (.cells #[.int .u8 (48 + (kk : Int)), .int .u8 m1, .int .u8 m2] 49) = W4 := ⟨_, rfl⟩
          have f4 : Fr wr W4 := by rw [← hW4]; exact (((Fr.refl wr).alloc _).trans f3).alloc _
          have e48 : ((48 + kk : Nat) : Int) = 48 + (kk : Int) := by omega
          have b4 : Blk W4 w3.heap.size #[.int .u8 ((48 + kk : Nat) : Int), .int .u8 m1, .int .u8 m2] 49 := by rw [← hW4, e48]; exact Blk.new w3 _ _
          have hs4 : W4.heap.size = w3.heap.size + 1 := by rw [← hW4, World.size_alloc]
          have q0 : W4.cell? ⟨wr.heap.size, 0, none⟩ = some (.string y0) := by rw [← hW4]; exact ((HBc.out.fr f3).old _).cell 0 rfl
          have hmb : mb.size = 3 := by rw [HMr.out]; rfl
          have HF4 := hideP f4
          have HO4 := hideP (own_fr HOv.out f4)
          have hz := Fr.drew (Fr.refl W4)
          have hsum : (9223372036854775807 < 3 + y0.size) = False := by simp; omega
          have hlit : IsL cdV (W4.alloc (.cells #[.int .i64 2, .int .i64 0, .string (mb ++ y0)] 46)).drew (.slice (some ⟨w3.heap.size + 1, 0, none⟩) 1 1) [⟨2, 0, mb ++ y0⟩] := by
            have h := (lit_one cdV W4 ⟨2, 0, mb ++ y0⟩ 46).fr (Fr.drew (Fr.refl _))
            rw [hs4] at h
            exact h
          have HLit := hideP hlit
          have hkeep : ∀ (v2 : Value) (wB : World), wB.ownsRow wb.heap.size 46 3 v2 (k + 1 + 1) (flat cdV ((⟨2, 0, x1⟩ :: (cols.take k).map fun c => ⟨2, 0, CT.ct c⟩) ++ [⟨2, 0, mb ++ y0⟩])) → (W4.alloc (.cells #[.int .i64 2, .int .i64 0, .string (mb ++ y0)] 46)).drew.grownBy wB (Value.slice ar (k + 1) cr).ownBlock → (wB.cell? ⟨wr.heap.size, 0, none⟩ = some (.string y0) ∧ (convert 51 9 (.slice (some ⟨w3.heap.size, 0, none⟩) 3 3)).run Tryd.prog wB = .ok (.string mb) wB) := by
            intro v2 wB _ gr
            have hbk := own_block (own_fr HOv.out (f4.trans (Fr.drew (Fr.alloc (Fr.refl W4) (.cells #[.int .i64 2, .int .i64 0, .string (mb ++ y0)] 46)))))
            have hcol : (W4.alloc (.cells #[.int .i64 2, .int .i64 0, .string (mb ++ y0)] 46)).drew.heap[wr.heap.size]? = some (.cells #[.string y0, .int .i64 kk, .bool y2, .bool y3] 44 (0, 0)) := by
              have : Blk W4 wr.heap.size #[.string y0, .int .i64 kk, .bool y2, .bool y3] 44 := by rw [← hW4]; exact (HBc.out.fr f3).old _
              exact this.fr (Fr.drew (Fr.alloc (Fr.refl W4) _))
            have hk2 := gr.block wr.heap.size (Array.getElem?_eq_some_iff.1 hcol).1 (fun e => by
              obtain ⟨cur, hcur⟩ := hbk _ e.symm
              rw [hcol] at hcur
              simp at hcur)
            have hmar : (W4.alloc (.cells #[.int .i64 2, .int .i64 0, .string (mb ++ y0)] 46)).drew.heap[w3.heap.size]? = some (.cells #[.int .u8 ((48 + kk : Nat) : Int), .int .u8 m1, .int .u8 m2] 49 (0, 0)) := b4.fr (Fr.drew (Fr.alloc (Fr.refl W4) _))
            have hk3 := gr.block w3.heap.size (Array.getElem?_eq_some_iff.1 hmar).1 (fun e => by
              obtain ⟨cur, hcur⟩ := hbk _ e.symm
              rw [hmar] at hcur
              simp at hcur)
            refine ⟨?_, ?_⟩
            · rw [Lib.cell_of_heap (hk2.trans hcol)]
              rfl
            · rw [HMr.out]
              exact conv_three wB w3.heap.size (48 + kk) m1 m2 (by omega) hm2 hm3 (hk3.trans hmar)
          have HW4 := hideP hW4
          have HB4 := hideP b4
          have hcvF : ∀ W, Fr W4 W → (convert 51 9 (.slice (some ⟨w3.heap.size, 0, none⟩) 3 3)).run Tryd.prog W = .ok (.string mb) W := by
            intro W f
            rw [HMr.out]
            exact conv_three W w3.heap.size (48 + kk) m1 m2 (by omega) hm2 hm3 (HB4.out.fr f)
          have HCv := hideP hcvF
          have HS1 := hideP (show W4.cell? ⟨wr.heap.size, 0, none⟩ = some (.string y0) ∧ (convert 51 9 (.slice (some ⟨w3.heap.size, 0, none⟩) 3 3)).run Tryd.prog W4 = .ok (.string mb) W4 from ⟨q0, hcvF W4 (Fr.refl _)⟩)
          have HQ0 := hideP q0
          clear f3 f4 b4 cm hlit HBc HOv d0 d1 d2 d3 e48 hW4
          go_upto_region 13 with fail
          rw [HW4.out]
          go_region_held3 (fun W => W.cell? ⟨wr.heap.size, 0, none⟩ = some (.string y0) ∧ (convert 51 9 (.slice (some ⟨w3.heap.size, 0, none⟩) 3 3)).run Tryd.prog W = .ok (.string mb) W) (first | exact HS1.out | exact ⟨(Below.cell hz (World.block_lt_of_cell? _ _ HQ0.out)).trans HQ0.out, HCv.out _ hz⟩ | exact ⟨(Below.cell (Fr.drew (Fr.alloc (Fr.refl W4) _)) (World.block_lt_of_cell? _ _ HQ0.out)).trans HQ0.out, HCv.out _ (Fr.drew (Fr.alloc (Fr.refl W4) _))⟩ | exact hcs1) (first
            | (refine step_append_L cdV rfl _ _ 40 46 j0 _ 32 rfl Tryd.underlying40 hj0 jz0 jz1 jz2 rfl wb.heap.size _ (k + 1) _ rfl (own_fr HO4.out (Fr.drew (Fr.alloc (Fr.refl W4) _))) (.slice (some ⟨w3.heap.size + 1, 0, none⟩) 1 1) [⟨2, 0, mb ++ y0⟩] rfl HLit.out (by unfold maxLen; simp; omega) (by simp; omega) (by have := HFq.out.size; have := HF4.out.size; simp; omega) ?_; intro v2 wB own2 gr2; have hcs1 := hkeep _ _ own2 gr2))
          all_goals (
            have F2 : Hid (Fr wb wB) := Below.grown (HFq.out.trans (HF4.out.trans (Fr.drew (Fr.alloc (Fr.refl W4) _)))) gr2 (by have := HFq.out.size; have := HF4.out.size; simp; omega) (own_base HO4.out)
            have HO2 : Hid (Ov wb.heap.size v2 (⟨2, 0, x1⟩ :: (cols.take (k + 1)).map fun c => ⟨2, 0, CT.ct c⟩) wB) := by
              unfold Hid Ov
              rw [HTk2.out, ← List.cons_append]
              have hl2 : (((⟨2, 0, x1⟩ : VM.Vl) :: (cols.take k).map fun c => (⟨2, 0, CT.ct c⟩ : VM.Vl)) ++ [(⟨2, 0, mb ++ y0⟩ : VM.Vl)]).length = k + 1 + 1 := by
                rw [List.length_append, List.length_cons, List.length_map, List.length_take, Nat.min_eq_left (by omega)]
                rfl
              rw [hl2]
              exact own2
            clear own2 gr2 hcs1
            go_wp2_with fail
            go_roundw
            case rel => exact ⟨k + 1, by go_num, by omega, F2.out, HO2.out⟩
            case measure => simp [intOf]; omega)
        · obtain rfl : k = cols.length := by omega
          have hkl' : ((cols.length : Int) < (cols.length : Int)) = False := by simp
          have hrowv : Ov wb.heap.size (.slice ar (cols.length + 1) cr) rw_ wr := by
            unfold Ov
            rw [HRw.out]
            have e9 : cols.take cols.length = cols := List.take_length
            have h := HOv.out
            rw [e9] at h
            rw [List.length_cons, List.length_map]
            exact h
          have f2 : Fr wo (wr.alloc (.cells #[.int .i64 x0, .slice ar (cols.length + 1) cr] 53)) := (HFb.out.trans HFq.out).alloc _
          have HOE4 := hideP (HOe.out.fr f2)
          have hown4 : (wr.alloc (.cells #[.int .i64 x0, .slice ar (cols.length + 1) cr] 53)).ownsRow w.heap.size 53 2 (.slice av i ocap) i (esV es) := by
            have h := HOE4.out.own
            rw [HEl.out] at h
            exact h
          have HOW := hideP hown4
          have HR4 := hideP ((hrowv.row.mono (Nat.zero_le _)).fr ((Fr.refl wr).alloc (.cells #[.int .i64 x0, .slice ar (cols.length + 1) cr] 53)))
          have hc1 : ∀ j u, [Value.int .i64 x0, .slice ar (cols.length + 1) cr][j]? = some u → (wr.alloc (.cells #[.int .i64 x0, .slice ar (cols.length + 1) cr] 53)).cell? ((⟨wr.heap.size, 0, none⟩ : Addr).add j) = some u := by
            intro j u hj
            rw [Addr.add_lit, Nat.zero_add]
            exact (Blk.new wr #[.int .i64 x0, .slice ar (cols.length + 1) cr] 53).cell j (by simpa using hj)
          have HC1 := hideP hc1
          have k0 := (HB1.out.fr HFq.out).cell 0 rfl
          have HF4 : Hid (Fr w (wr.alloc (.cells #[.int .i64 x0, .slice ar (cols.length + 1) cr] 53))) := HFr.out.trans f2
          have hws : w.heap.size ≤ wr.heap.size := (HFr.out.trans (HFb.out.trans HFq.out)).size
          clear hrowv f2 hown4 hc1 HOv
          go_wp2_with (at_builtin; refine wpList_append_own _ rfl _ _ 23 rfl w.heap.size 53 i0 (.agg #[.int .i64 0, .slice none 0 0]) 2 32 Tryd.underlying23 hi0 hz0 hz1 hz2 rfl (by decide) _ _ _ rfl HOW.out ⟨wr.heap.size, 0, none⟩ 1 1 [.int .i64 x0, .slice ar (cols.length + 1) cr] rfl rfl ?c1 ?c2 ?c3 ?c4 ?c5 ?_)
          case c1 => exact HC1.out
          case c2 =>
            intro u hu
            simp at hu
            rcases hu with rfl | rfl <;> rfl
          case c3 => unfold maxLen; omega
          case c4 => omega
          case c5 => simp; omega
          intro v' w5 hown' hgrow _
          have HN : Hid (Oe w.heap.size v' (es ++ [((x0, rw_), .slice ar (cols.length + 1) cr)]) w5) := by
            have h := HOE4.out
            rw [HEl.out] at h
            exact Oe.snoc h (p := ((x0, rw_), .slice ar (cols.length + 1) cr)) HR4.out (by rw [HEl.out]; exact hown') hgrow
          have HF6 : Hid (Fr w w5) := Below.grown HF4.out hgrow (by simp; omega) (fun k hk => (HOW.out.lt k hk).1)
          have HE2 : Hid ((es ++ [(((x0, rw_) : LF.En), Value.slice ar (cols.length + 1) cr)]).map (·.1) = CT.rows (l.take (i + 1))) := by
            unfold Hid
            rw [HTk.out, List.map_append, HEs.out]
            rfl
          have HCq : Hid (∀ p ∈ es ++ [(((x0, rw_) : LF.En), Value.slice ar (cols.length + 1) cr)], CapOk p.2) := by
            intro p hp
            rw [List.mem_append, List.mem_singleton] at hp
            rcases hp with hp | rfl
            · exact HCp.out p hp
            · exact ⟨_, _, _, rfl, HCr.out⟩
          clear hown' hgrow HOW HR4 HC1 HOE4
          go_wp2_with fail
          go_roundw
          case rel => exact ⟨i + 1, _, by go_num, by omega, HF6.out, HN.out, HE2.out, HCq.out⟩
          case measure => simp [intOf]; omega
    · obtain rfl : i = l.length := by omega
      have hlt' : ((l.length : Int) < (l.length : Int)) = False := by simp
      have e9 : l.take l.length = l := List.take_length
      rw [e9] at HEs
      clear e9
      go_wp2_with fail
      go_ret2
      refine ⟨_, es, rfl, ?_, HEs.out, HCp.out, HFr.out⟩
      have h := HOe.out
      rw [HEl.out] at h
      exact h
end Go.Proofs.YtefojbfihnnpdaaDoor
