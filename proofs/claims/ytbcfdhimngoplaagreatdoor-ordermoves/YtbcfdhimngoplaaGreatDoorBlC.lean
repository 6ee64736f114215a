/-
  Are the same rows in two lists as often: what SameBag answers where they are.
-/
import Derived.Test.YtbcfdhimngoplaaGreatDoorGqG
import Derived.Test.YtbcfdhimngoplaaGreatDoorGqB
import Derived.Test.YtbcfdhimngoplaaGreatDoorGqC
namespace Go.Proofs.YtbcfdhimngoplaaGreatDoor
open Go.ChangeShapes Go.WideShapes Go.ChangeAt Go.RowKit
set_option linter.unusedVariables false
set_option linter.unusedSimpArgs false
set_option maxRecDepth 100000
set_option maxHeartbeats 4000000
theorem c1_after' {w w' : World} {a : Addr} {u : Value} (f : Fr w w') (h : w.cell? a = some u) : w'.cell? a = some u := (Below.cell f (World.block_lt_of_cell? _ _ h)).trans h
def sbg_ty : Nat → TypeId
 | _ => 0
def sbg_dp : Nat → List Nat
 | _ => []
def sbg_dv : Nat → List Nat
 | _ => []
def sbg_val (la : List (List VM.Vl)) (b o ca cb i qn qc k : Nat) (ab qa : Option Addr) : Nat → List Nat → List Value → Value
 | 0, gs, vs => .slice (some ⟨b, o, none⟩) (la.length) (ca)
 | 1, gs, vs => .slice (some ⟨b, o, none⟩) (la.length) (ca)
 | 2, gs, vs => .int .i64 ((i : Int))
 | 3, gs, vs => .pointer (some ⟨b, o + i, none⟩)
 | 4, gs, vs => .slice qa qn qc
 | 5, gs, vs => .int .i64 ((k : Int))
 | 6, gs, vs => .slice (ab) (la.length) (cb)
 | 7, gs, vs => .slice (some ⟨b, o, none⟩) (la.length) (ca)
 | 8, gs, vs => .int .i64 ((i : Int))
 | 9, gs, vs => .pointer (some ⟨b, o + i, none⟩)
 | 10, gs, vs => .slice qa qn qc
 | 11, gs, vs => .int .i64 ((k : Int))
 | 12, gs, vs => .bool false
 | _, _, _ => undef
def sbg_cont (la : List (List VM.Vl)) (b o ca cb i qn qc k : Nat) (ab qa : Option Addr) (Gf : Nat → Nat) (v : Nat → Value) (L : Nat → Bool) : Nat → Array Value
 | _ => #[]
def sbg_X (la : List (List VM.Vl)) (b o ca cb i qn qc k : Nat) (ab qa : Option Addr) : Nat → List Nat → List Value → Value → World → Prop
 | _, _, _, _, _ => True
def sbg (la : List (List VM.Vl)) (b o ca cb i qn qc k : Nat) (ab qa : Option Addr) : Sp := { As := [], ty := sbg_ty, deps := sbg_dp, dv := sbg_dv, val := sbg_val la b o ca cb i qn qc k ab qa, cont := sbg_cont la b o ca cb i qn qc k ab qa, Xs := [], cons := fun _ => [], X := sbg_X la b o ca cb i qn qc k ab qa }
theorem sbg_st (la : List (List VM.Vl)) (b o ca cb i qn qc k : Nat) (ab qa : Option Addr) : ∀ j gs vs z9 (w w' : World), (sbg la b o ca cb i qn qc k ab qa).X j gs vs z9 w → Fr w w' → (sbg la b o ca cb i qn qc k ab qa).X j gs vs z9 w' := fun j gs vs z9 w w' h f => by
 show sbg_X la b o ca cb i qn qc k ab qa j gs vs z9 w'
 unfold sbg_X
 exact trivial
theorem sameBag_perm (va vb : Value) (la lb : List (List VM.Vl)) (w : World) (ha : IsRR w va la) (hb : IsRR w vb lb) (hp : ∀ r, BG.oft la r = BG.oft lb r) (he : la.length = lb.length) (hla : la.length ≤ 1000000000) (hra : ∀ r ∈ la, r.length ≤ 9223372036854775806) (hrb : ∀ r ∈ lb, r.length ≤ 9223372036854775806) :
  Calls Tryz.prog 15 #[va, vb] w fun e w' => e = .returned (.bool true) ∧ Fr w w' := by
 have HA := hideP ha
 have HB := hideP hb
 have HP := hideP hp
 have HRa := hideP hra
 have HRb := hideP hrb
 obtain ⟨aa, ca, rfl⟩ := ha.slice
 obtain ⟨ab, cb, rfl⟩ := hb.slice
 obtain ⟨qs, hq, _, hc, hcell, hrow⟩ := ha.at
 have HCe := hideP hcell
 have HRo := hideP hrow
 clear hcell hrow ha hb hp hra hrb
 have HE := hideP he
 rw [← HE.out]
 have hlb : lb.length ≤ 1000000000 := by omega
 have HLb := hideP hlb
 rw [← he] at HB
 clear he hlb
 go_enter Tryz.func15, Tryz.ntmps15
 go_wp2_with fail
 go_loopw [5] (fun iv wr => ∃ i : Nat, iv = .int .i64 i ∧ i ≤ la.length ∧ Fr w wr) (fun iv _ => la.length - (intOf iv).toNat)
 case atStart => exact ⟨0, rfl, Nat.zero_le _, Fr.refl _⟩
 case round =>
  obtain ⟨i, rfl, hi, hfr⟩ := hrel
  by_cases hlt : i < la.length
  ·
   have hlt' : (i : Int) < (la.length : Int) := by omega
   obtain ⟨b, o, rfl, hb, c0⟩ := HCe.out i (by omega)
   have h1 := (HRo.out i (by omega) hlt).1
   have hc1 := fun W (f : Fr w W) => howOften_any _ _ la la[i] W (HA.out.fr f) (h1.fr f) hla HRa.out
   have hc2 := fun W (f : Fr w W) => howOften_any _ _ lb la[i] W (by have := HB.out.fr f; rw [HE.out] at this; exact this) (h1.fr f) HLb.out HRb.out
   rw [← HE.out] at hc2
   have e := HP.out la[i]
   rw [← e] at hc2
   generalize BG.oft la la[i] = k at *
   unfold Sq.v at hc1 hc2
   have HS := hideP (c1_after' hfr c0)
   have HF := hideP hfr
   obtain ⟨q, hqq⟩ : ∃ q, (qs[i]'(by omega)) = q := ⟨_, rfl⟩
   rw [hqq] at HS hc1 hc2
   obtain ⟨qa, qn, qc⟩ := q
   simp only at HS hc1 hc2
   have H1 := hideP hc1
   have H2 := hideP hc2
   clear hfr h1 c0 hc1 hc2 hqq e
   go_upto_region 4 with fail
   refine region_inv2 rfl (fun listed v w9' => ∃ Gf, RZ (sbg la b o ca cb i qn qc k ab qa) wr Gf (fun i => listed.getD i false) v w9') ⟨_, RZ.start (Fr.drew (Fr.refl _)) 13 _⟩ (by decide) ?_ ?_
   ·
    rintro listed v w9' A hs ⟨Gf, J⟩ HA HO i hi
    have hi1 := (ready_spec hi).1
    have hlt : i < listed.size := by rw [hs]; exact hi1
    have hno := not_yet hs hi
    have hiN : i < 13 := hi1
    rcases (show i = 0 ∨ i = 1 ∨ i = 2 ∨ i = 3 ∨ i = 4 ∨ i = 5 ∨ i = 6 ∨ i = 7 ∨ i = 8 ∨ i = 9 ∨ i = 10 ∨ i = 11 ∨ i = 12 by omega) with rfl | rfl | rfl | rfl | rfl | rfl | rfl | rfl | rfl | rfl | rfl | rfl | rfl
    ·
     have t0 : A.eval (.tmp 0) = .slice (some ⟨b, o, none⟩) (la.length) (ca) := HO 0 (by decide)
     exact wpOp_gval rfl (wanted_none rfl) (x := .slice (some ⟨b, o, none⟩) (la.length) (ca)) (w' := w9') (exec_mv t0) ⟨_, rfl, _, by rw [toL hlt]; exact J.pure 0 hno (show 0 ∉ ([] : List Nat) from by decide) (show 0 ∉ ([] : List Nat) from by decide) (by intro d hd; cases hd) (by intro d hd; cases hd) (Fr.refl _) (sbg_st la b o ca cb i qn qc k ab qa) (by intro k hk; cases hk)⟩
    ·
     have t0 : A.eval (.tmp 0) = .slice (some ⟨b, o, none⟩) (la.length) (ca) := HO 0 (by decide)
     exact wpOp_gval rfl (wanted_none rfl) (x := .slice (some ⟨b, o, none⟩) (la.length) (ca)) (w' := w9') (exec_mv t0) ⟨_, rfl, _, by rw [toL hlt]; exact J.pure 1 hno (show 1 ∉ ([] : List Nat) from by decide) (show 1 ∉ ([] : List Nat) from by decide) (by intro d hd; cases hd) (by intro d hd; cases hd) (Fr.refl _) (sbg_st la b o ca cb i qn qc k ab qa) (by intro k hk; cases hk)⟩
    ·
     have t5 : A.eval (.tmp 5) = .int .i64 ((i : Int)) := HO 5 (by decide)
     exact wpOp_gval rfl (wanted_none rfl) (x := .int .i64 ((i : Int))) (w' := w9') (exec_mv t5) ⟨_, rfl, _, by rw [toL hlt]; exact J.pure 2 hno (show 2 ∉ ([] : List Nat) from by decide) (show 2 ∉ ([] : List Nat) from by decide) (by intro d hd; cases hd) (by intro d hd; cases hd) (Fr.refl _) (sbg_st la b o ca cb i qn qc k ab qa) (by intro k hk; cases hk)⟩
    ·
     have h1 := after_one hi rfl 1 (by decide)
     have e1 : A.eval (.tmp 13) = .slice (some ⟨b, o, none⟩) (la.length) (ca) := (HA 1 13 rfl (by show 13 < 30; decide) h1).trans (J.vl 1 (show 1 ∉ ([] : List Nat) from by decide) h1)
     have h2 := after_one hi rfl 2 (by decide)
     have e2 : A.eval (.tmp 14) = .int .i64 ((i : Int)) := (HA 2 14 rfl (by show 14 < 30; decide) h2).trans (J.vl 2 (show 2 ∉ ([] : List Nat) from by decide) h2)
     refine wpOp_gis (Instr.indexAt 22 (A.eval (.tmp 13)) (A.eval (.tmp 14))) rfl (wanted_none rfl) rfl (y := .pointer (some ⟨b, o + i, none⟩)) (w' := w9') ?_ ⟨_, rfl, _, by rw [toL hlt]; exact J.pure 3 hno (show 3 ∉ ([] : List Nat) from by decide) (show 3 ∉ ([] : List Nat) from by decide) (by intro d hd; cases hd) (by intro d hd; cases hd) (Fr.refl _) (sbg_st la b o ca cb i qn qc k ab qa) (by intro k hk; cases hk)⟩
     rw [e1, e2]
     simp [go_sem, hlt', Tryz.underlying22, Tryz.sizeVals]
    ·
     have h3 := after_one hi rfl 3 (by decide)
     have e3 : A.eval (.tmp 15) = .pointer (some ⟨b, o + i, none⟩) := (HA 3 15 rfl (by show 15 < 30; decide) h3).trans (J.vl 3 (show 3 ∉ ([] : List Nat) from by decide) h3)
     refine wpOp_gis (Instr.loadAt 31 (A.eval (.tmp 15))) rfl (wanted_none rfl) rfl (y := .slice qa qn qc) (w' := w9') ?_ ⟨_, rfl, _, by rw [toL hlt]; exact J.pure 4 hno (show 4 ∉ ([] : List Nat) from by decide) (show 4 ∉ ([] : List Nat) from by decide) (by intro d hd; cases hd) (by intro d hd; cases hd) (Fr.refl _) (sbg_st la b o ca cb i qn qc k ab qa) (by intro k hk; cases hk)⟩
     rw [e3]
     have m0 := c1_after' J.fr HS.out
     simp [go_sem, m0]
    ·
     have h0 := after_one hi rfl 0 (by decide)
     have e0 : A.eval (.tmp 12) = .slice (some ⟨b, o, none⟩) (la.length) (ca) := (HA 0 12 rfl (by show 12 < 30; decide) h0).trans (J.vl 0 (show 0 ∉ ([] : List Nat) from by decide) h0)
     have h4 := after_one hi rfl 4 (by decide)
     have e4 : A.eval (.tmp 16) = .slice qa qn qc := (HA 4 16 rfl (by show 16 < 30; decide) h4).trans (J.vl 4 (show 4 ∉ ([] : List Nat) from by decide) h4)
     refine wpOp_gcall rfl (wanted_none rfl) (args := #[.slice (some ⟨b, o, none⟩) (la.length) (ca), .slice qa qn qc]) (by first | rfl | (simp only [List.map_toArray, List.map_cons, List.map_nil, e0, e4]; done) | (simp only [List.map_toArray, List.map_cons, List.map_nil, e0, e4]; rfl)) (by kernel_rfl) (H1.out w9' (HF.out.trans J.fr)) ?_
     rintro e w2 ⟨rfl, f2⟩
     exact ⟨_, rfl, _, rfl, _, by rw [toL hlt]; exact J.pure 5 hno (show 5 ∉ ([] : List Nat) from by decide) (show 5 ∉ ([] : List Nat) from by decide) (by intro d hd; cases hd) (by intro d hd; cases hd) f2 (sbg_st la b o ca cb i qn qc k ab qa) (by intro k hk; cases hk)⟩
    ·
     have t1 : A.eval (.tmp 1) = .slice (ab) (la.length) (cb) := HO 1 (by decide)
     exact wpOp_gval rfl (wanted_none rfl) (x := .slice (ab) (la.length) (cb)) (w' := w9') (exec_mv t1) ⟨_, rfl, _, by rw [toL hlt]; exact J.pure 6 hno (show 6 ∉ ([] : List Nat) from by decide) (show 6 ∉ ([] : List Nat) from by decide) (by intro d hd; cases hd) (by intro d hd; cases hd) (Fr.refl _) (sbg_st la b o ca cb i qn qc k ab qa) (by intro k hk; cases hk)⟩
    ·
     have t0 : A.eval (.tmp 0) = .slice (some ⟨b, o, none⟩) (la.length) (ca) := HO 0 (by decide)
     exact wpOp_gval rfl (wanted_none rfl) (x := .slice (some ⟨b, o, none⟩) (la.length) (ca)) (w' := w9') (exec_mv t0) ⟨_, rfl, _, by rw [toL hlt]; exact J.pure 7 hno (show 7 ∉ ([] : List Nat) from by decide) (show 7 ∉ ([] : List Nat) from by decide) (by intro d hd; cases hd) (by intro d hd; cases hd) (Fr.refl _) (sbg_st la b o ca cb i qn qc k ab qa) (by intro k hk; cases hk)⟩
    ·
     have t5 : A.eval (.tmp 5) = .int .i64 ((i : Int)) := HO 5 (by decide)
     exact wpOp_gval rfl (wanted_none rfl) (x := .int .i64 ((i : Int))) (w' := w9') (exec_mv t5) ⟨_, rfl, _, by rw [toL hlt]; exact J.pure 8 hno (show 8 ∉ ([] : List Nat) from by decide) (show 8 ∉ ([] : List Nat) from by decide) (by intro d hd; cases hd) (by intro d hd; cases hd) (Fr.refl _) (sbg_st la b o ca cb i qn qc k ab qa) (by intro k hk; cases hk)⟩
    ·
     have h7 := after_one hi rfl 7 (by decide)
     have e7 : A.eval (.tmp 19) = .slice (some ⟨b, o, none⟩) (la.length) (ca) := (HA 7 19 rfl (by show 19 < 30; decide) h7).trans (J.vl 7 (show 7 ∉ ([] : List Nat) from by decide) h7)
     have h8 := after_one hi rfl 8 (by decide)
     have e8 : A.eval (.tmp 20) = .int .i64 ((i : Int)) := (HA 8 20 rfl (by show 20 < 30; decide) h8).trans (J.vl 8 (show 8 ∉ ([] : List Nat) from by decide) h8)
     refine wpOp_gis (Instr.indexAt 22 (A.eval (.tmp 19)) (A.eval (.tmp 20))) rfl (wanted_none rfl) rfl (y := .pointer (some ⟨b, o + i, none⟩)) (w' := w9') ?_ ⟨_, rfl, _, by rw [toL hlt]; exact J.pure 9 hno (show 9 ∉ ([] : List Nat) from by decide) (show 9 ∉ ([] : List Nat) from by decide) (by intro d hd; cases hd) (by intro d hd; cases hd) (Fr.refl _) (sbg_st la b o ca cb i qn qc k ab qa) (by intro k hk; cases hk)⟩
     rw [e7, e8]
     simp [go_sem, hlt', Tryz.underlying22, Tryz.sizeVals]
    ·
     have h9 := after_one hi rfl 9 (by decide)
     have e9 : A.eval (.tmp 21) = .pointer (some ⟨b, o + i, none⟩) := (HA 9 21 rfl (by show 21 < 30; decide) h9).trans (J.vl 9 (show 9 ∉ ([] : List Nat) from by decide) h9)
     refine wpOp_gis (Instr.loadAt 31 (A.eval (.tmp 21))) rfl (wanted_none rfl) rfl (y := .slice qa qn qc) (w' := w9') ?_ ⟨_, rfl, _, by rw [toL hlt]; exact J.pure 10 hno (show 10 ∉ ([] : List Nat) from by decide) (show 10 ∉ ([] : List Nat) from by decide) (by intro d hd; cases hd) (by intro d hd; cases hd) (Fr.refl _) (sbg_st la b o ca cb i qn qc k ab qa) (by intro k hk; cases hk)⟩
     rw [e9]
     have m0 := c1_after' J.fr HS.out
     simp [go_sem, m0]
    ·
     have h6 := after_one hi rfl 6 (by decide)
     have e6 : A.eval (.tmp 18) = .slice (ab) (la.length) (cb) := (HA 6 18 rfl (by show 18 < 30; decide) h6).trans (J.vl 6 (show 6 ∉ ([] : List Nat) from by decide) h6)
     have h10 := after_one hi rfl 10 (by decide)
     have e10 : A.eval (.tmp 22) = .slice qa qn qc := (HA 10 22 rfl (by show 22 < 30; decide) h10).trans (J.vl 10 (show 10 ∉ ([] : List Nat) from by decide) h10)
     refine wpOp_gcall rfl (wanted_none rfl) (args := #[.slice (ab) (la.length) (cb), .slice qa qn qc]) (by first | rfl | (simp only [List.map_toArray, List.map_cons, List.map_nil, e6, e10]; done) | (simp only [List.map_toArray, List.map_cons, List.map_nil, e6, e10]; rfl)) (by kernel_rfl) (H2.out w9' (HF.out.trans J.fr)) ?_
     rintro e w2 ⟨rfl, f2⟩
     exact ⟨_, rfl, _, rfl, _, by rw [toL hlt]; exact J.pure 11 hno (show 11 ∉ ([] : List Nat) from by decide) (show 11 ∉ ([] : List Nat) from by decide) (by intro d hd; cases hd) (by intro d hd; cases hd) f2 (sbg_st la b o ca cb i qn qc k ab qa) (by intro k hk; cases hk)⟩
    ·
     have h5 := after_one hi rfl 5 (by decide)
     have e5 : A.eval (.tmp 17) = .int .i64 ((k : Int)) := (HA 5 17 rfl (by show 17 < 30; decide) h5).trans (J.vl 5 (show 5 ∉ ([] : List Nat) from by decide) h5)
     have h11 := after_one hi rfl 11 (by decide)
     have e11 : A.eval (.tmp 23) = .int .i64 ((k : Int)) := (HA 11 23 rfl (by show 23 < 30; decide) h11).trans (J.vl 11 (show 11 ∉ ([] : List Nat) from by decide) h11)
     refine wpOp_gis (do eqGuard .neq 3 (.tmp 17) (.tmp 23) (A.eval (.tmp 17)) (A.eval (.tmp 23)); binOp .neq 3 (A.eval (.tmp 17)) (A.eval (.tmp 23))) rfl (wanted_none rfl) rfl (y := .bool false) (w' := w9') ?_ ⟨_, rfl, _, by rw [toL hlt]; exact J.pure 12 hno (show 12 ∉ ([] : List Nat) from by decide) (show 12 ∉ ([] : List Nat) from by decide) (by intro d hd; cases hd) (by intro d hd; cases hd) (Fr.refl _) (sbg_st la b o ca cb i qn qc k ab qa) (by intro k hk; cases hk)⟩
     rw [e5, e11]
     simp [go_sem, eqGuard]
   ·
    rintro listed v w9' hs ⟨Gf, J⟩ hr
    have al := all_done hs hr (by decide)
    have l0 := al 0 (by decide)
    have l1 := al 1 (by decide)
    have l2 := al 2 (by decide)
    have l3 := al 3 (by decide)
    have l4 := al 4 (by decide)
    have l5 := al 5 (by decide)
    have l6 := al 6 (by decide)
    have l7 := al 7 (by decide)
    have l8 := al 8 (by decide)
    have l9 := al 9 (by decide)
    have l10 := al 10 (by decide)
    have l11 := al 11 (by decide)
    have l12 := al 12 (by decide)
    change Exit.then _ _ .normal (putL _ listed v [0, 1, 2, 3, 4, 5, 6, 7, 8, 9, 10, 11, 12] _) w9'
    simp only [putL, l0, l1, l2, l3, l4, l5, l6, l7, l8, l9, l10, l11, l12, if_true]
    change Exit.then _ _ .normal (Act.put (Act.put (Act.put (Act.put (Act.put (Act.put (Act.put (Act.put (Act.put (Act.put (Act.put (Act.put (Act.put _ (some 12) (v 0)) (some 13) (v 1)) (some 14) (v 2)) (some 15) (v 3)) (some 16) (v 4)) (some 17) (v 5)) (some 18) (v 6)) (some 19) (v 7)) (some 20) (v 8)) (some 21) (v 9)) (some 22) (v 10)) (some 23) (v 11)) (some 24) (v 12)) w9'
    simp only [Act.put, List.setIfInBounds_toArray, List.set_cons_succ, List.set_cons_zero]
    have hv12 : v 12 = .bool false := J.vl 12 (show 12 ∉ ([] : List Nat) from by decide) l12
    rw [hv12]
    have F9 := hideP (HF.out.trans J.fr)
    clear al l0 l1 l2 l3 l4 l5 l6 l7 l8 l9 l10 l11 l12 J hr hs hv12
    go_wp2_with fail
    go_roundw
    case rel => exact ⟨i + 1, by go_num, by omega, F9.out⟩
    case measure => simp [intOf]; omega
  ·
   obtain rfl : i = la.length := by omega
   have HF := hideP hfr
   clear hfr
   go_wp2_with fail
   go_ret
   exact ⟨rfl, HF.out⟩
theorem oft_perm {a b : List (List VM.Vl)} (h : a.Perm b) (r : List VM.Vl) : BG.oft a r = BG.oft b r := h.countP_eq _
end Go.Proofs.YtbcfdhimngoplaaGreatDoor
