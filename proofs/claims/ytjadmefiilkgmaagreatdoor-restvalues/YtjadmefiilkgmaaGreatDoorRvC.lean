/-
  twin of one row: a copy of its own, with room behind the row, and behind all.
-/
import Derived.Test.YtjadmefiilkgmaaGreatDoorRvB
namespace Go.Proofs.YtjadmefiilkgmaaGreatDoor
open Go.ChangeShapes Go.WideShapes Go.ChangeAt Go.RowKit
set_option linter.unusedVariables false
set_option linter.unusedSimpArgs false
set_option maxRecDepth 100000

theorem Tryz.infoVals : (Tryz.prog.info? 28).map (fun i => (i.zero, i.size, i.bytes)) = some (some (.slice none 0 0), 1, 24) := by kernel_rfl
theorem ownFr {w w' : World} {base : Nat} {e : TypeId} {size : Nat} {v : Value} {n : Nat} {xs : List Value} (h : w.ownsRow base e size v n xs) (f : Fr w w') : w'.ownsRow base e size v n xs := by
  refine ⟨h.1, ?_⟩
  rcases h.2 with h0 | ⟨g, cap, cur, h1, h2, h3, h4⟩
  · exact Or.inl h0
  · exact Or.inr ⟨g, cap, cur, h1, h2, (Below.block f g (Array.getElem?_eq_some_iff.1 h3).1).trans h3, h4⟩
/-- rows of different types of one's own lie in different blocks -/
theorem own_apart {w : World} {B B' : Nat} {e e' : TypeId} {size size' : Nat} {v v' : Value} {n n' : Nat} {xs xs' : List Value} (h : w.ownsRow B e size v n xs) (h' : w.ownsRow B' e' size' v' n' xs') (hne : e ≠ e') : v.ownBlock = none ∨ v.ownBlock ≠ v'.ownBlock := by
  rcases h.2 with ⟨rfl, _⟩ | ⟨g, cap, cur, rfl, _, h3, _⟩
  · exact Or.inl rfl
  · right
    rcases h'.2 with ⟨rfl, _⟩ | ⟨g', cap', cur', rfl, _, h3', _⟩
    · simp [Value.ownBlock]
    · simp only [Value.ownBlock, ne_eq, Option.some.injEq]
      rintro rfl
      rw [h3] at h3'
      simp at h3'
      exact hne h3'.2
theorem own_form {w : World} {B : Nat} {e : TypeId} {size : Nat} {v : Value} {n : Nat} {xs : List Value} (h : w.ownsRow B e size v n xs) (hn : 0 < n) : ∃ g c, v = .slice (some ⟨g, 0, none⟩) n c ∧ n ≤ c ∧ B ≤ g ∧ g < w.heap.size := by
  rcases h.2 with ⟨_, h0⟩ | ⟨g, cap, cur, h1, h2, h3, h4, _⟩
  · omega
  · exact ⟨g, cap, h1, h4, h2, (Array.getElem?_eq_some_iff.1 h3).1⟩
theorem hideP {p : Prop} (h : p) : Hid p := h
theorem ownMono {w : World} {B B' : Nat} {e : TypeId} {size : Nat} {v : Value} {n : Nat} {xs : List Value} (h : w.ownsRow B e size v n xs) (hb : B' ≤ B) : w.ownsRow B' e size v n xs := by
  refine ⟨h.1, ?_⟩
  rcases h.2 with h0 | ⟨g, cap, cur, h1, h2, h3⟩
  · exact Or.inl h0
  · exact Or.inr ⟨g, cap, cur, h1, Nat.le_trans hb h2, h3⟩
theorem own_any {w : World} {B : Nat} {e : TypeId} {size : Nat} {v : Value} {n : Nat} {xs : List Value} (h : w.ownsRow B e size v n xs) : ∃ a c, v = .slice a n c := by
  rcases h.2 with ⟨h1, h0⟩ | ⟨g, cap, cur, h1, _⟩
  · exact ⟨none, 0, by rw [h1, h0]⟩
  · exact ⟨_, cap, h1⟩
def v77 : VM.Vl := ⟨1, 77, ⟨#[]⟩⟩
def v78 : VM.Vl := ⟨1, 78, ⟨#[]⟩⟩
/-- a twin of one row -/
structure Tw (w : World) (B G C g c h ch : Nat) (l : List VM.Vl) : Prop where
  all : w.ownsRow B 28 1 (.slice (some ⟨G, 0, none⟩) 2 C) 2 [.slice (some ⟨g, 0, none⟩) l.length c, .slice (some ⟨h, 0, none⟩) 1 ch]
  row : w.ownsRow B 23 3 (.slice (some ⟨g, 0, none⟩) (l.length + 1) c) (l.length + 1) (rowV (l ++ [v77]))
  one : w.ownsRow B 23 3 (.slice (some ⟨h, 0, none⟩) 1 ch) 1 (rowV [v78])
theorem Tw.fr {w w' : World} {B G C g c h ch : Nat} {l : List VM.Vl} (t : Tw w B G C g c h ch l) (f : Fr w w') : Tw w' B G C g c h ch l := ⟨ownFr t.all f, ownFr t.row f, ownFr t.one f⟩

theorem rowOf_id (v : Value) (w : World) : Calls Tryz.prog 54 #[v] w fun e w' => e = .returned v ∧ w' = w := by
  go_enter Tryz.func54, Tryz.ntmps54
  go_wp2_with fail
  go_ret
  exact ⟨rfl, by first | rfl | trivial⟩
theorem rowsOf_id (v : Value) (w : World) : Calls Tryz.prog 27 #[v] w fun e w' => e = .returned v ∧ w' = w := by
  go_enter Tryz.func27, Tryz.ntmps27
  go_wp2_with fail
  go_ret
  exact ⟨rfl, by first | rfl | trivial⟩

set_option maxHeartbeats 4000000 in
theorem twin_one (b : Nat) (a : Option Addr) (cap : Nat) (l : List VM.Vl) (w : World) (hb : w.cell? ⟨b, 0, none⟩ = some (.slice a l.length cap)) (hr : IsRow w (.slice a l.length cap) l) (hn : NilOrRow (.slice a l.length cap)) (hl : l.length * 32 ≤ 140737488351232) :
    Calls Tryz.prog 26 #[.slice (some ⟨b, 0, none⟩) 1 1] w fun e w' => ∃ G C g c h ch, e = .returned (.slice (some ⟨G, 0, none⟩) 1 C) ∧ Fr w w' ∧ Tw w' w.heap.size G C g c h ch l := by
  obtain ⟨i0, hi0, hz0, hz1, hz2⟩ := info_parts Tryz.infoVal
  obtain ⟨i1, hi1, hy0, hy1, hy2⟩ := info_parts Tryz.infoVals
  obtain ⟨mo, hmo⟩ : ∃ mo, madeCells (Value.slice none 0 0).cells 2 = mo := ⟨_, rfl⟩
  have hmos : mo.size = 2 := by rw [← hmo]; exact size_madeCells _ _
  have hmk : ∀ W : World, (Instr.makeSlice 50 (.int .i64 0) (.int .i64 2)).run Tryz.prog W = .ok (.slice (some ⟨W.heap.size, 0, none⟩) 0 2) (W.alloc (.cells mo 28)) := by
    intro W
    have hr := run_make (P := Tryz.prog) W 50 28 i1 _ Tryz.underlying50 hi1 hy0 .i64 .i64 0 2 (by omega) (by omega) (by rw [hy2]; omega) (by omega)
    simp only [hy1] at hr
    rw [show Int.toNat 2 * 1 = 2 from rfl, hmo] at hr
    exact hr
  obtain ⟨mc, hmc⟩ : ∃ mc, madeCells (Value.agg #[.int .i64 0, .int .i64 0, .string ⟨#[]⟩]).cells ((l.length + 1) * 3) = mc := ⟨_, rfl⟩
  have hms : mc.size = (l.length + 1) * 3 := by rw [← hmc]; exact size_madeCells _ _
  have hmk2 : ∀ W : World, (Instr.makeSlice 28 (.int .i64 0) (.int .i64 ((l.length : Int) + 1))).run Tryz.prog W = .ok (.slice (some ⟨W.heap.size, 0, none⟩) 0 (l.length + 1)) (W.alloc (.cells mc 23)) := by
    intro W
    have hr := run_make (P := Tryz.prog) W 28 23 i0 _ Tryz.underlying28 hi0 hz0 .i64 .i64 0 ((l.length : Int) + 1) (by omega) (by omega) (by rw [hz2]; omega) (by omega)
    simp only [hz1] at hr
    rw [show ((l.length : Int) + 1).toNat = l.length + 1 by omega, hmc] at hr
    exact hr
  have wn : IntKind.i64.wrap ((l.length : Int) + 1) = (l.length : Int) + 1 := by simp only [IntKind.wrap]; simp [IntKind.min, IntKind.max, IntKind.signed, IntKind.bits]; omega
  obtain ⟨W1, hW1⟩ : ∃ W1, w.alloc (.cells mo 28) = W1 := ⟨_, rfl⟩
  have f1 : Fr w W1 := by rw [← hW1]; exact (Fr.refl w).alloc _
  have own1 : W1.ownsRow w.heap.size 28 1 (.slice (some ⟨w.heap.size, 0, none⟩) 0 2) 0 [] := by rw [← hW1]; exact World.ownsRow_made w mo 2 (Nat.le_refl _) (by decide) hmos
  have hs1 : W1.heap.size = w.heap.size + 1 := by rw [← hW1]; simp
  have HW1 := hideP (hW1)
  have HR := hideP (hr)
  have HN := hideP (hn)
  have HF1 := hideP (f1)
  have HO1 := hideP (own1)
  have HS1 := hideP (hs1)
  have hbw : b < w.heap.size := World.block_lt_of_cell? _ _ hb
  have HB := hideP (hb)
  have HMS := hideP (hms)
  clear hW1 hr hn f1 own1 hs1 hmc hms hb hmo hmos
  go_enter Tryz.func26, Tryz.ntmps26
  go_wp2_with fail
  rw [HW1.out]
  go_loopw [3, 4] (fun ov iv wr => (iv = .int .i64 0 ∧ ov = .slice (some ⟨w.heap.size, 0, none⟩) 0 2 ∧ wr = W1) ∨ (iv = .int .i64 1 ∧ ∃ g c, l.length + 1 ≤ c ∧ wr.ownsRow w.heap.size 28 1 ov 1 [.slice (some ⟨g, 0, none⟩) l.length c] ∧ wr.ownsRow w.heap.size 23 3 (.slice (some ⟨g, 0, none⟩) (l.length + 1) c) (l.length + 1) (rowV (l ++ [v77])) ∧ Fr w wr)) (fun _ iv _ => 1 - (intOf iv).toNat)
  case atStart => exact Or.inl ⟨rfl, rfl, rfl⟩
  case round =>
    rcases hrel with ⟨rfl, rfl, rfl⟩ | ⟨rfl, g, c, hc, ho, hrow, hfr⟩
    · have hcb : wr.cell? ⟨b, 0, none⟩ = some (.slice a l.length cap) := cellAfter HF1.out HB.out
      have HCB := hideP (hcb)
      clear hbw
      go_wp2_with fail
      go_region_held3 (fun W' => W'.cell? ⟨b, 0, none⟩ = some (.slice a l.length cap)) (first | exact hcb | assumption | exact cellAfter (Fr.alloc (Fr.refl _) _) HCB.out | exact cellAfter (Fr.alloc (Fr.drew (Fr.refl _)) _) HCB.out)
        (first | (refine step_append_row rfl _ _ rfl wr.heap.size (.slice (some ⟨wr.heap.size, 0, none⟩) 0 (l.length + 1)) 0 [] rfl (show (wr.drew.alloc (.cells mc 23)).ownsRow wr.heap.size 23 3 _ 0 (rowV []) from World.ownsRow_made wr.drew mc (l.length + 1) (Nat.le_refl _) (by unfold maxLen; omega) HMS.out) (.slice a l.length cap) l rfl (IsRow.fr (IsRow.fr HR.out HF1.out) (Fr.alloc (Fr.drew (Fr.refl _)) _)) HN.out (by omega) (by simp) ?_; intro v1 wA own1 gr1; have hfA : Fr wr wA := Below.grown (Fr.alloc (Fr.drew (Fr.refl wr)) _) gr1 (by simp) (fun q hq => by simp [Value.ownBlock] at hq; omega); have hSA := cellAfter hfA HCB.out))
      all_goals
        rw [Nat.zero_add, List.nil_append] at own1
        obtain ⟨a1, cp1, rfl⟩ := own_any own1
        have oA := ownFr HO1.out hfA
        have HO1A := hideP (own1)
        have HOA := hideP (oA)
        have HFA := hideP (hfA)
        clear own1 oA hfA gr1 hSA
        go_wp2_with fail
        refine (vInt_any _ _).mono ?_
        rintro _ wB ⟨rfl, fB⟩
        have own1B := ownFr HO1A.out fB
        have oB := ownFr HOA.out fB
        have HFB : Hid (Fr wr wB) := Fr.trans HFA.out fB
        have hszB : wr.heap.size ≤ wB.heap.size := Fr.size HFB.out
        have hap := own_apart (oB.alloc (.cells #[.int .i64 1, .int .i64 77, .string ⟨#[]⟩] 23)) (own1B.alloc (.cells #[.int .i64 1, .int .i64 77, .string ⟨#[]⟩] 23)) (by decide)
        have HOB := hideP (oB)
        have HAP := hideP (hap)
        clear fB HO1A HOA HFA oB hap
        go_wp2_with (at_builtin; refine wpList_append_own _ rfl _ _ 28 rfl wr.heap.size 23 i0 (.agg #[.int .i64 0, .int .i64 0, .string ⟨#[]⟩]) 3 32 Tryz.underlying28 hi0 hz0 hz1 hz2 rfl (by decide) _ _ _ rfl (own1B.alloc _) ⟨wB.heap.size, 0, none⟩ 1 1 [.int .i64 1, .int .i64 77, .string ⟨#[]⟩] rfl rfl ?c1 ?c2 ?c3 ?c4 ?c5 ?_)
        case c1 =>
          intro j u hj
          match j, hj with
          | 0, hj => simp at hj; subst hj; simp [Addr.add]
          | 1, hj => simp at hj; subst hj; simp [Addr.add]
          | 2, hj => simp at hj; subst hj; simp [Addr.add]
        case c2 => intro u hu; simp at hu; rcases hu with rfl | rfl | rfl <;> rfl
        case c3 => unfold maxLen; omega
        case c4 => omega
        case c5 => simp; omega
        intro v2 wC own2 g2 _
        have own2' : wC.ownsRow wr.heap.size 23 3 v2 (l.length + 1) (rowV (l ++ [v77])) := by rw [rowV_snoc]; exact own2
        obtain ⟨g, c, rfl, hc, hg, hgl⟩ := own_form own2' (by omega)
        have oC := (HOB.out.alloc (.cells #[.int .i64 1, .int .i64 77, .string ⟨#[]⟩] 23)).kept g2 HAP.out
        have FC : Hid (Fr wr wC) := Below.grown (Fr.alloc HFB.out _) g2 (by simp; omega) (fun q hq => (own1B.lt q hq).1)
        have HO2 := hideP (own2')
        have q1 : (l.length : Int) ≤ (c : Int) := by omega
        have q2 : ¬ c = 0 := by omega
        have q3 : (0 : Int) ≤ (l.length : Int) := by omega
        have hszC : wr.heap.size ≤ wC.heap.size := Fr.size FC.out
        clear own2 g2 own1B own2' HOB HAP HFB
        go_wp2_with (at_builtin; refine wpList_append_own _ rfl _ _ 50 rfl w.heap.size 28 i1 (.slice none 0 0) 1 24 Tryz.underlying50 hi1 hy0 hy1 hy2 rfl (by decide) _ _ _ rfl (oC.alloc _) ⟨wC.heap.size, 0, none⟩ 1 1 [.slice (some ⟨g, 0, none⟩) l.length c] rfl rfl ?c1 ?c2 ?c3 ?c4 ?c5 ?_)
        case c1 =>
          intro j u hj
          match j, hj with
          | 0, hj => simp at hj; subst hj; simp [Addr.add]
        case c2 => intro u hu; simp at hu; subst hu; rfl
        case c3 => decide
        case c4 => decide
        case c5 => have := HS1.out; simp; omega
        intro v3 wD own3 g3 _
        have own2D := (HO2.out.alloc (.cells #[.slice (some ⟨g, 0, none⟩) l.length c] 28)).kept g3 (own_apart (HO2.out.alloc (.cells #[.slice (some ⟨g, 0, none⟩) l.length c] 28)) (oC.alloc (.cells #[.slice (some ⟨g, 0, none⟩) l.length c] 28)) (by decide))
        have FD : Hid (Fr w wD) := Below.grown (Fr.alloc (Fr.trans HF1.out FC.out) _) g3 (by have := HS1.out; simp; omega) (fun q hq => (oC.lt q hq).1)
        have HO3 := hideP (own3)
        have HO2D := hideP (ownMono own2D (B' := w.heap.size) (by have := HS1.out; omega))
        clear own3 g3 own2D oC HO2 FC
        go_wp2_with fail
        go_roundw
        case rel => exact Or.inr ⟨rfl, g, c, hc, HO3.out, HO2D.out, FD.out⟩
        case measure => simp [intOf]
    · obtain ⟨G, C, rfl, hC, hG, hGl⟩ := own_form ho (by decide)
      have HO := hideP (ho)
      have HRW := hideP (hrow)
      have HF := hideP (hfr)
      clear ho hrow hfr
      go_wp2_with fail
      refine (vInt_any _ _).mono ?_
      rintro _ w2 ⟨rfl, f2⟩
      have o2 := ownFr HO.out f2
      have r2 := ownFr HRW.out f2
      have F2 : Hid (Fr w w2) := Fr.trans HF.out f2
      have hsz : w.heap.size ≤ w2.heap.size := Fr.size F2.out
      have lit : (w2.alloc (.cells #[.int .i64 1, .int .i64 78, .string ⟨#[]⟩] 23)).ownsRow w.heap.size 23 3 (.slice (some ⟨w2.heap.size, 0, none⟩) 1 1) 1 (rowV [v78]) := World.ownsRow_lit (base := w.heap.size) (e := 23) (size := 3) w2 #[.int .i64 1, .int .i64 78, .string ⟨#[]⟩] 1 hsz (by decide) rfl
      have HR2 := hideP (r2)
      have HL := hideP (lit)
      clear f2 HO HRW HF r2 lit
      go_wp2_with fail
      refine (rowOf_id _ _).mono ?_
      rintro _ w3 ⟨rfl, rfl⟩
      go_wp2_with (at_builtin; refine wpList_append_own _ rfl _ _ 50 rfl w.heap.size 28 i1 (.slice none 0 0) 1 24 Tryz.underlying50 hi1 hy0 hy1 hy2 rfl (by decide) _ _ _ rfl ((o2.alloc _).alloc _) ⟨w2.heap.size + 1, 0, none⟩ 1 1 [.slice (some ⟨w2.heap.size, 0, none⟩) 1 1] rfl rfl ?c1 ?c2 ?c3 ?c4 ?c5 ?_)
      case c1 =>
        intro j u hj
        match j, hj with
        | 0, hj => simp at hj; subst hj; simp [Addr.add]
      case c2 => intro u hu; simp at hu; subst hu; rfl
      case c3 => decide
      case c4 => decide
      case c5 => simp; omega
      intro v4 w4 own4 g4 _
      have own4' : w4.ownsRow w.heap.size 28 1 v4 2 [.slice (some ⟨g, 0, none⟩) l.length c, .slice (some ⟨w2.heap.size, 0, none⟩) 1 1] := own4
      obtain ⟨G', C', rfl, hC', hG', hGl'⟩ := own_form own4' (by decide)
      have r4 := ((HR2.out.alloc (.cells #[.int .i64 1, .int .i64 78, .string ⟨#[]⟩] 23)).alloc (.cells #[.slice (some ⟨w2.heap.size, 0, none⟩) 1 1] 28)).kept g4 (own_apart ((HR2.out.alloc (.cells #[.int .i64 1, .int .i64 78, .string ⟨#[]⟩] 23)).alloc (.cells #[.slice (some ⟨w2.heap.size, 0, none⟩) 1 1] 28)) ((o2.alloc (.cells #[.int .i64 1, .int .i64 78, .string ⟨#[]⟩] 23)).alloc (.cells #[.slice (some ⟨w2.heap.size, 0, none⟩) 1 1] 28)) (by decide))
      have l4 := (HL.out.alloc (.cells #[.slice (some ⟨w2.heap.size, 0, none⟩) 1 1] 28)).kept g4 (own_apart (HL.out.alloc (.cells #[.slice (some ⟨w2.heap.size, 0, none⟩) 1 1] 28)) ((o2.alloc (.cells #[.int .i64 1, .int .i64 78, .string ⟨#[]⟩] 23)).alloc (.cells #[.slice (some ⟨w2.heap.size, 0, none⟩) 1 1] 28)) (by decide))
      have F4 : Hid (Fr w w4) := Below.grown (Fr.alloc (Fr.alloc F2.out _) _) g4 (by simp; omega) (fun q hq => (o2.lt q hq).1)
      have HT : Hid (Tw w4 w.heap.size G' C' g c w2.heap.size 1 l) := ⟨own4', r4, l4⟩
      have q1 : (1 : Int) ≤ (C' : Int) := by omega
      have q2 : ¬ C' = 0 := by omega
      clear own4 own4' r4 l4 g4 o2 HR2 HL F2
      go_wp2_with fail
      go_ret
      exact ⟨G', C', g, c, _, 1, rfl, F4.out, HT.out⟩
end Go.Proofs.YtjadmefiilkgmaaGreatDoor
