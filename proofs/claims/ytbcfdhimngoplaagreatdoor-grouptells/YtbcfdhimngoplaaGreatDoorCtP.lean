/-
  What Print answers of one word, and names.Is of a text.
-/
import Derived.Test.YtbcfdhimngoplaaGreatDoorCtN
import Derived.Test.YtbcfdhimngoplaaGreatDoorCtR
namespace Go.Proofs.YtbcfdhimngoplaaGreatDoor
open Go.ChangeShapes Go.WideShapes Go.ChangeAt Go.RowKit
set_option linter.unusedVariables false
set_option linter.unusedSimpArgs false
set_option maxRecDepth 100000
set_option maxHeartbeats 2000000
theorem Tryz.infoStr0 : (Tryz.prog.info? 9).map (fun i => (i.zero, i.size, i.bytes)) = some (some (.string ⟨#[]⟩), 1, 16) := by kernel_rfl
structure Ost1 (w : World) (B : Nat) (v : Value) (n : Nat) (xs : List Value) : Prop where
 out : w.ownsRow B 9 1 v n xs
theorem shownW_any (s : ByteArray) (w : World) (hs : s.size ≤ 9223372036854775807) :
  Calls Tryz.prog 145 #[.agg #[.int .i64 1, .int .i64 0, .int .i64 0, .string s]] w fun e w' => e = .returned (twE s (LX.chkWord s.data.toList)) ∧ Fr w w' := by
 have c := fun W => shownWord_any s W hs
 generalize LX.chkWord s.data.toList = z at c
 by_cases h0 : s.size = 0
 ·
  have hl0 : s.data.toList = [] := List.length_eq_zero_iff.1 (by rw [dlenx]; exact h0)
  obtain rfl : s = ⟨#[]⟩ := by rw [← dl_eq s, hl0]
  clear hl0 h0
  unfold twE at c ⊢
  generalize (if z = 0 then (⟨#[]⟩ : ByteArray) else ⟨#[]⟩) = S at c
  go_enter Tryz.func145, Tryz.ntmps145
  go_wp2_with fail
  refine (c _).mono ?_
  rintro _ w1 ⟨rfl, f1⟩
  go_wp2_with fail
  go_ret2
  exact ⟨rfl, ((Fr.refl w).alloc _).trans f1⟩
 ·
  have hne : s.data.toList ≠ [] := fun h => by have := dlenx s; rw [h] at this; simp at this; omega
  have n1 : (s.toList == []) = false := beq_false_of_ne (by rw [Lib.toList_data]; exact hne)
  have n2 : ¬ s.toList = [] := by rw [Lib.toList_data]; exact hne
  have n3 : (s.toList != []) = true := by simp [n2]
  clear hne h0
  unfold twE at c ⊢
  generalize (if z = 0 then s else (⟨#[]⟩ : ByteArray)) = S at c
  go_enter Tryz.func145, Tryz.ntmps145
  go_wp2_with fail
  refine (c _).mono ?_
  rintro _ w1 ⟨rfl, f1⟩
  go_wp2_with fail
  go_ret2
  exact ⟨rfl, ((Fr.refl w).alloc _).trans f1⟩
theorem joinOne_any (b o cap : Nat) (s t : ByteArray) (w : World) (h : w.cell? ⟨b, o, none⟩ = some (.string s)) :
  Calls Tryz.prog 146 #[.slice (some ⟨b, o, none⟩) 1 cap, .string t] w fun e w' => e = .returned (.string s) ∧ w' = w := by
 go_enter Tryz.func146, Tryz.ntmps146
 go_wp2_with fail
 go_ret
 exact ⟨rfl, by first | rfl | trivial⟩
theorem chk_len {l : List UInt8} (h : LX.chkWord l = 0) : l.length ≤ 12 := by
 unfold LX.chkWord at h
 split at h
 · simp
 ·
  split at h
  ·
   split at h
   · simp at h
   · omega
  · simp at h
theorem printW_any (b : Nat) (s : ByteArray) (w : World) (hs : s.size ≤ 9223372036854775807) (hb : b < w.heap.size) (c0 : w.cell? ⟨b, 0, none⟩ = some (.int .i64 1)) (c1 : w.cell? ⟨b, 1, none⟩ = some (.int .i64 0)) (c2 : w.cell? ⟨b, 2, none⟩ = some (.int .i64 0)) (c3 : w.cell? ⟨b, 3, none⟩ = some (.string s)) :
  Calls Tryz.prog 136 #[.slice (some ⟨b, 0, none⟩) 1 1] w fun e w' => e = .returned (twE s (LX.chkWord s.data.toList)) ∧ Fr w w' := by
 have cs := fun W => shownW_any s W hs
 have hcl := @chk_len s.data.toList
 rw [dlenx] at hcl
 generalize LX.chkWord s.data.toList = z at cs hcl
 obtain ⟨i0, hi0, hz0, hz1, hz2⟩ := info_parts Tryz.infoStr0
 obtain ⟨mc, hmc⟩ : ∃ mc, madeCells (Value.string ⟨#[]⟩).cells 1 = mc := ⟨_, rfl⟩
 have hms : mc.size = 1 := by rw [← hmc]; exact size_madeCells _ _
 have hmk : ∀ W : World, (Instr.makeSlice 32 (.int .i64 0) (.int .i64 1)).run Tryz.prog W = .ok (.slice (some ⟨W.heap.size, 0, none⟩) 0 1) (W.alloc (.cells mc 9)) := by
  intro W
  have hr := run_make (P := Tryz.prog) W 32 9 i0 _ Tryz.underlying32 hi0 hz0 .i64 .i64 0 1 (by omega) (by omega) (by rw [hz2]; omega) (by omega)
  simp only [hz1] at hr
  rw [show (1 : Int).toNat * 1 = 1 by rfl, hmc] at hr
  exact hr
 obtain ⟨W1, hW1⟩ : ∃ W1, w.alloc (.cells mc 9) = W1 := ⟨_, rfl⟩
 have f1 : Fr w W1 := by rw [← hW1]; exact (Fr.refl w).alloc _
 have own1 : W1.ownsRow w.heap.size 9 1 (.slice (some ⟨w.heap.size, 0, none⟩) 0 1) 0 [] := by rw [← hW1]; exact World.ownsRow_made w mc 1 (Nat.le_refl _) (by unfold maxLen; omega) (by omega)
 have HW1 : Hid _ := hW1
 have HF1 : Hid _ := f1
 have HO1 : Ost1 W1 w.heap.size (.slice (some ⟨w.heap.size, 0, none⟩) 0 1) 0 ([Value.string s].take 0) := ⟨own1⟩
 have HC : Hid (w.cell? ⟨b, 0, none⟩ = some (.int .i64 1) ∧ w.cell? ⟨b, 1, none⟩ = some (.int .i64 0) ∧ w.cell? ⟨b, 2, none⟩ = some (.int .i64 0) ∧ w.cell? ⟨b, 3, none⟩ = some (.string s)) := ⟨c0, c1, c2, c3⟩
 have HL : Hid _ := hcl
 clear hW1 f1 own1 hmc hms c0 c1 c2 c3 hcl
 go_enter Tryz.func136, Tryz.ntmps136
 go_wp2_with fail
 rw [HW1.out]
 clear hmk
 go_loopw [4, 18] (fun ov iv wr => ∃ i : Nat, iv = .int .i64 i ∧ i ≤ 1 ∧ (i = 0 ∨ z = 0) ∧ Fr w wr ∧ wr.ownsRow w.heap.size 9 1 ov i ([Value.string s].take i)) (fun _ iv _ => 1 - (intOf iv).toNat)
 case atStart => exact ⟨0, rfl, Nat.zero_le _, .inl rfl, HF1.out, HO1.out⟩
 case round =>
  obtain ⟨i, rfl, hi, hz, hfr, hown⟩ := hrel
  obtain ⟨av, ocap, rfl⟩ : ∃ a cap, u4 = .slice a i cap := by
   rcases hown.2 with ⟨hv, h0⟩ | ⟨g, cap, cur, hv, _⟩
   · exact ⟨none, 0, by rw [hv, h0]⟩
   · exact ⟨_, cap, hv⟩
  match i, hi with
  | 0, _ =>
   have k0 := (Below.cell hfr hb).trans HC.out.1
   have k1 := (Below.cell hfr hb).trans HC.out.2.1
   have k2 := (Below.cell hfr hb).trans HC.out.2.2.1
   have k3 := (Below.cell hfr hb).trans HC.out.2.2.2
   obtain ⟨W2, hW2⟩ : ∃ W2, wr.alloc (.cells #[.int .i64 1, .int .i64 0, .int .i64 0, .string s] 167) = W2 := ⟨_, rfl⟩
   have f2 : Fr wr W2 := by rw [← hW2]; exact (Fr.refl wr).alloc _
   have cs2 := cs W2
   have HW2 : Hid _ := hW2
   have hown2 : W2.ownsRow w.heap.size 9 1 (.slice av 0 ocap) 0 ([Value.string s].take 0) := by rw [← hW2]; exact hown.alloc _
   have HOW : Ost1 W2 w.heap.size (.slice av 0 ocap) 0 ([Value.string s].take 0) := ⟨hown2⟩
   have HFR : Hid _ := hfr.trans f2
   clear hown hfr f2 hown2 hW2 cs hz
   by_cases hc : z = 0
   ·
    subst hc
    unfold twE at cs2
    rw [if_pos rfl] at cs2
    go_wp2_with fail
    rw [HW2.out]
    refine cs2.mono ?_
    rintro _ w3 ⟨rfl, f3⟩
    have hown3 : w3.ownsRow w.heap.size 9 1 (.slice av 0 ocap) 0 ([Value.string s].take 0) := by
     refine ⟨HOW.out.1, ?_⟩
     rcases HOW.out.2 with h0 | ⟨g, cap, cur, h1, h2, h3, h4⟩
     · exact Or.inl h0
     · exact Or.inr ⟨g, cap, cur, h1, h2, (f3.block g (Array.getElem?_eq_some_iff.1 h3).1).trans h3, h4⟩
    have hf3 : Fr w w3 := Fr.trans HFR.out f3
    have HF3 : Hid (Below w.heap.size w w3) := hf3
    have hsz3 : w.heap.size ≤ w3.heap.size := hf3.size
    clear cs2 f3 hf3 HOW
    go_wp2_with (at_builtin; refine wpList_append_own _ rfl _ _ 32 rfl w.heap.size 9 i0 (.string ⟨#[]⟩) 1 16 Tryz.underlying32 hi0 hz0 hz1 hz2 rfl (by decide) _ _ _ rfl (hown3.alloc _) ⟨w3.heap.size, 0, none⟩ 1 1 [.string s] rfl rfl ?c1 ?c2 ?c3 ?c4 ?c5 ?_)
    case c1 =>
     intro j u hj
     match j, hj with
     | 0, hj => simp at hj; subst hj; simp [Addr.add]
    case c2 => intro u hu; simp at hu; subst hu; rfl
    case c3 => unfold maxLen; omega
    case c4 => omega
    case c5 => simp; omega
    intro v' w5 hown' hgrow _
    have HO5 : Hid (w5.ownsRow w.heap.size 9 1 v' 1 ([Value.string s].take 1)) := hown'
    have hbe : Below w.heap.size w3 w5 := ((Below.refl w.heap.size w3).alloc hsz3 _).grown hgrow (by simp; omega) (fun q hq => (hown3.lt q hq).1)
    have HF5 : Hid (Fr w w5) := Below.trans HF3.out hbe
    clear hown' hgrow hown3 hbe HF3
    go_wp2_with fail
    go_roundw
    case rel => exact ⟨1, rfl, Nat.le_refl _, by first | exact .inr rfl | exact .inr trivial, HF5.out, HO5.out⟩
    case measure => simp [intOf]
   ·
    have e1 : ((z : Int) != 0) = true := by simp; omega
    have e2 : ¬ ((z : Int) = 0) := by omega
    have HX : Hid (twE s z = .tuple #[.string ⟨#[]⟩, .int .i64 z]) := by unfold Hid twE; rw [if_neg hc]
    rw [HX.out] at cs2
    clear hc
    go_wp2_with fail
    rw [HW2.out]
    refine cs2.mono ?_
    rintro _ w3 ⟨rfl, f3⟩
    have HF3 : Hid (Fr w w3) := Fr.trans HFR.out f3
    clear cs2 f3
    go_wp2_with fail
    go_ret2
    exact ⟨by rw [HX.out]; rfl, HF3.out⟩
  | 1, _ =>
   obtain rfl : z = 0 := by omega
   have hk := HL.out rfl
   obtain ⟨g, rfl, hcell⟩ : ∃ g, av = some ⟨g, 0, none⟩ ∧ wr.cell? ⟨g, 0, none⟩ = some (.string s) := by
    rcases hown.2 with ⟨_, h0⟩ | ⟨g, cap, cur, hv, h2, h3, h4, h5, h6, h7⟩
    · omega
    ·
     simp only [Value.slice.injEq] at hv
     refine ⟨g, hv.1, ?_⟩
     rw [Lib.cell_of_heap h3]
     have : (cur.toList.take (1 * 1))[0]? = ([Value.string s].take 1)[0]? := by rw [h7]
     simpa [List.getElem?_take] using this
   have cj := joinOne_any g 0 ocap s ⟨#[32]⟩ wr hcell
   have HFR : Hid _ := hfr
   have e1 : (s.size : Int) ≤ 300 := by omega
   have e2 : (300 < (s.size : Int)) = False := by simp; omega
   clear hown hfr hz cs hk
   go_wp2_with fail
   refine cj.mono ?_
   rintro _ w3 ⟨rfl, rfl⟩
   go_wp2_with fail
   go_ret2
   exact ⟨by unfold twE; rw [if_pos rfl]; rfl, HFR.out⟩
theorem namesIs_any (s : ByteArray) (w : World) (hs : s.size ≤ 140737488355327) :
  Calls Tryz.prog 120 #[.string s] w fun e w' => e = .returned (.bool (LX.nm s.data.toList)) ∧ Fr w w' := by
 obtain ⟨W1, hW1⟩ : ∃ W1, w.alloc (.cells #[.int .i64 1, .int .i64 0, .int .i64 0, .string s] 167) = W1 := ⟨_, rfl⟩
 have hb : w.heap.size < W1.heap.size := by rw [← hW1]; simp
 have cp := printW_any w.heap.size s W1 (by omega) hb (by rw [← hW1]; simp [go_sem]) (by rw [← hW1]; simp [go_sem]) (by rw [← hW1]; simp [go_sem]) (by rw [← hW1]; simp [go_sem])
 have cr := fun W => reserved_any s W
 have f1 : Fr w W1 := by rw [← hW1]; exact (Fr.refl w).alloc _
 have HN : Hid (LX.nm s.data.toList = (decide (LX.chkWord s.data.toList = 0) && !decide (s.data.toList ∈ LX.rsv))) := rfl
 generalize LX.nm s.data.toList = r at HN ⊢
 generalize LX.chkWord s.data.toList = z at cp HN
 generalize decide (s.data.toList ∈ LX.rsv) = q at cr HN
 have HF : Hid (Fr w W1) := f1
 clear f1 hb
 by_cases h0 : z = 0
 ·
  subst h0
  unfold twE at cp
  rw [if_pos rfl] at cp
  cases q
  ·
   go_enter Tryz.func120, Tryz.ntmps120
   go_wp2_with fail
   refine cp.mono ?_
   rintro _ w2 ⟨rfl, f2⟩
   go_wp2_with fail
   refine (cr _).mono ?_
   rintro _ w3 ⟨rfl, rfl⟩
   go_wp2_with fail
   go_ret
   exact ⟨by rw [HN.out]; rfl, HF.out.trans f2⟩
  ·
   go_enter Tryz.func120, Tryz.ntmps120
   go_wp2_with fail
   refine cp.mono ?_
   rintro _ w2 ⟨rfl, f2⟩
   go_wp2_with fail
   refine (cr _).mono ?_
   rintro _ w3 ⟨rfl, rfl⟩
   go_wp2_with fail
   go_ret
   exact ⟨by rw [HN.out]; rfl, HF.out.trans f2⟩
 ·
  have e1 : ((z : Int) == 0) = false := by simp; omega
  have e2 : ¬ ((z : Int) = 0) := by omega
  have HX : Hid (twE s z = .tuple #[.string ⟨#[]⟩, .int .i64 z]) := by unfold Hid twE; rw [if_neg h0]
  rw [HX.out] at cp
  go_enter Tryz.func120, Tryz.ntmps120
  go_wp2_with fail
  refine cp.mono ?_
  rintro _ w2 ⟨rfl, f2⟩
  go_wp2_with fail
  go_ret
  exact ⟨by rw [HN.out]; simp [h0], HF.out.trans f2⟩
end Go.Proofs.YtbcfdhimngoplaaGreatDoor
