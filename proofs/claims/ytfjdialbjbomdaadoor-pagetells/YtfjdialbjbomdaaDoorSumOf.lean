/-
  What the document's own SumOf comes to: the same sum as the program's, for every sum to begin with and every text that is not too great.
-/
import Derived.Test.YtfjdialbjbomdaaDoorBitsOf
namespace Go.Proofs.YtfjdialbjbomdaaDoor
open Go.ChangeShapes Go.WideShapes Go.ChangeAt Go.RowKit
set_option linter.unusedVariables false

/-- block g holds n truth values, and they may be written -/
def HeldF (w : World) (g n : Nat) (f : Nat → Bool) : Prop :=
  ∀ j, j < n → w.cell? ⟨g, j, none⟩ = some (.bool (f j)) ∧ w.frozen? ⟨g, j, none⟩ = false
theorem HeldF.drew {w : World} {g n : Nat} {f : Nat → Bool} (h : HeldF w g n f) : HeldF w.drew g n f := h
theorem HeldF.set {w : World} {g n : Nat} {f : Nat → Bool} (h : HeldF w g n f) (i : Nat) (v : Bool) : HeldF (w.setCell ⟨g, i, none⟩ (.bool v)) g n (fun j => if j = i then v else f j) := by
  intro j hj
  refine ⟨?_, by rw [World.frozen?_setCell]; exact (h j hj).2⟩
  by_cases e : j = i
  · subst e
    rw [World.cell?_setCell_same _ _ _ (h j hj).1]
    simp
  · rw [World.cell?_setCell_other _ _ _ _ (by intro c; exact e (congrArg Addr.off c).symm), (h j hj).1]
    simp [e]
theorem HeldF.other {w : World} {g n g' : Nat} {f : Nat → Bool} (h : HeldF w g n f) (hg : g' ≠ g) (i : Nat) (v : Value) : HeldF (w.setCell ⟨g', i, none⟩ v) g n f := by
  intro j hj
  refine ⟨?_, by rw [World.frozen?_setCell]; exact (h j hj).2⟩
  rw [World.cell?_setCell_other _ _ _ _ (by intro c; exact hg (congrArg Addr.block c)), (h j hj).1]
theorem HeldF.congr {w : World} {g n : Nat} {f f' : Nat → Bool} (h : HeldF w g n f) (e : ∀ j, j < n → f j = f' j) : HeldF w g n f' := by
  intro j hj; rw [← e j hj]; exact h j hj
theorem HeldF.fr {w w' : World} {g n : Nat} {f : Nat → Bool} (h : HeldF w g n f) (hf : Fr w w') : HeldF w' g n f := by
  intro j hj
  have hb := World.block_lt_of_cell? w _ (h j hj).1
  exact ⟨by rw [← (h j hj).1]; exact Below.cell hf hb, by rw [← (h j hj).2]; exact Below.frozen hf hb⟩
theorem HeldF.of_owns {w : World} {base n : Nat} {v : Value} {f : Nat → Bool} (h : w.ownsRow base 4 1 v n (boolV f n)) (hn : 0 < n) :
    ∃ g cap, v = .slice (some ⟨g, 0, none⟩) n cap ∧ base ≤ g ∧ g < w.heap.size ∧ n ≤ cap ∧ HeldF w g n f := by
  rcases h.2 with ⟨_, h0⟩ | ⟨g, cap, cur, rfl, hb, hg, hnc, _, hsz, htk⟩
  · omega
  · refine ⟨g, cap, rfl, hb, (Array.getElem?_eq_some_iff.1 hg).1, hnc, ?_⟩
    intro j hj
    refine ⟨?_, ?_⟩
    · have := h.cells (g := g) rfl j (.bool (f j)) (by simp [boolV, hj])
      rwa [show (⟨g, 0, none⟩ : Addr).add j = ⟨g, j, none⟩ by unfold Addr.add; split <;> simp_all] at this
    · unfold World.frozen?
      rw [hg]
      simp

theorem low_test (c k : Nat) (hc : c < 4294967296) : (bits .and .u32 ((c : Int) / 2 ^ k) 1 == 0) = !c.testBit k := by
  have h1 := u32_and_nat (c / 2 ^ k) 1 (Nat.lt_of_le_of_lt (Nat.div_le_self _ _) hc) (by decide)
  rw [cast_div_pow c k] at h1
  rw [show bits .and .u32 ((c : Int) / 2 ^ k) 1 = ((c / 2 ^ k &&& 1 : Nat) : Int) from h1, nat_mask1, Nat.testBit_eq_decide_div_mod_eq]
  by_cases d : c / 2 ^ k % 2 = 1
  · rw [decide_eq_true d, d]; rfl
  · have : c / 2 ^ k % 2 = 0 := by omega
    rw [decide_eq_false d, this]; rfl

theorem add_step (g : Nat → Bool) (q : Nat) (hq : q < 32) (h : g q = true) :
    (((SM.addUp g q : Nat) : Int) + 2 ^ q % 4294967296) % 4294967296 = ((SM.addUp g (q + 1) : Nat) : Int) := by
  have h1 := SM.addUp_lt g q
  have h2 : 2 ^ q ≤ 2147483648 := Nat.le_trans (Nat.pow_le_pow_right (by decide) (show q ≤ 31 by omega)) (by decide)
  rw [SM.addUp, if_pos h, show (2 ^ q : Int) = ((2 ^ q : Nat) : Int) by push_cast; rfl]
  generalize 2 ^ q = x at *
  omega

set_option maxRecDepth 100000 in
set_option maxHeartbeats 4000000 in
theorem sumOf_any (c : Nat) (s : ByteArray) (w : World) (hc : c < 4294967296) (hs : s.size ≤ 1048576) :
    Calls Tryd.prog 34 #[.int .u32 (c : Int), .string s] w fun e w' => e = .returned (.int .u32 ((SM.more c s.data.toList : Nat) : Int)) ∧ Fr w w' := by
  obtain ⟨i0, hi, hz0, hz1, hz2⟩ := info_parts Tryd.infoBool
  have HM : Hid _ := SM.more_fbn c s.data.toList
  have HR : Hid _ := fun i => SM.fbn_lt (SM.nt_lt hc) (SM.msg s.data.toList) i
  have hl8 : 8 * s.data.toList.length = 8 * s.size := by simp
  have HL : Hid _ := hl8
  clear hl8
  go_enter Tryd.func34, Tryd.ntmps34
  go_wp2_with fail
  refine (bitsOf_any s _ hs).mono ?_
  rintro e w1 ⟨v, rfl, hown, hfr⟩
  have hown1 : w1.ownsRow w.heap.size 4 1 v (8 * s.size) (boolV (SM.msg s.data.toList) (8 * s.size)) := by
    rw [boolV_congr (g := SM.bitOf s.data.toList) (fun j hj => by unfold SM.msg; rw [HL.out, decide_eq_true hj, Bool.true_and])]; exact hown
  have HO1 : Hid _ := hown1
  clear hown hown1
  go_wp2
  go_loopw [5, 6] (fun v k wr => ∃ q : Nat, q ≤ 32 ∧ k = .int .i64 q ∧ wr.ownsRow w.heap.size 4 1 v (8 * s.size + q) (boolV (SM.msg s.data.toList) (8 * s.size + q)) ∧ Fr w wr) (fun _ k _ => 32 - (intOf k).toNat)
  case atStart => exact ⟨0, by omega, rfl, HO1.out, hfr⟩
  case round =>
    obtain ⟨q, hq, rfl, hown, hfr2⟩ := hrel
    have hle := hfr2.size
    clear HO1
    by_cases hlt : q < 32
    · have HS : Hid (boolV (SM.msg s.data.toList) (8 * s.size + (q + 1)) = boolV (SM.msg s.data.toList) (8 * s.size + q) ++ [.bool false]) := by
        unfold Hid
        rw [← Nat.add_assoc, boolV_succ]
        congr 3
        unfold SM.msg
        rw [HL.out, decide_eq_false (by omega), Bool.false_and]
      go_wp2_with (at_builtin; refine wpList_append_own _ rfl _ _ 66 rfl w.heap.size 4 i0 (.bool false) 1 1 Tryd.underlying66 hi hz0 hz1 hz2 rfl (by decide) _ _ _ rfl (hown.alloc _) ⟨wr.heap.size, 0, none⟩ 1 1 [.bool false] rfl rfl ?c1 ?c2 ?c3 ?c4 ?c5 ?_)
      case c1 => exact cell_one_new _ _ _
      case c2 => intro u hu; simp at hu; subst hu; rfl
      case c3 => unfold maxLen; omega
      case c4 => omega
      case c5 => simp; omega
      intro v' w2 hown' hgrow _
      have ho : w2.ownsRow w.heap.size 4 1 v' (8 * s.size + (q + 1)) (boolV (SM.msg s.data.toList) (8 * s.size + (q + 1))) := by
        rw [HS.out]; exact hown'
      have hf : Fr w w2 := Below.grown (Below.alloc hfr2 hle _) hgrow (Nat.le_trans hle (by simp)) (fun k hk => (hown.lt k hk).1)
      have HO2 : Hid _ := ho
      clear ho hown' hgrow hown
      go_wp2
      go_roundw
      case rel => exact ⟨q + 1, by omega, by go_num, HO2.out, hf⟩
      case measure => simp [intOf]; omega
    · have q32 : q = 32 := by omega
      subst q32
      clear hlt hq hle
      obtain ⟨g, cap, rfl, hgb, hgl, hcap, hh⟩ := HeldF.of_owns hown (by omega)
      clear hown
      obtain ⟨N, hN⟩ : ∃ N, N = 8 * s.size := ⟨_, rfl⟩
      rw [← hN] at hh hcap HL ⊢
      have HN : Hid _ := hN
      have hNb : N ≤ 8388608 := by omega
      have hNi : (N : Int) ≤ 8388608 := by omega
      have HH : Hid _ := hh
      clear hh hN
      obtain ⟨wo, rfl⟩ : ∃ wo : World, wo = wr := ⟨_, rfl⟩
      go_wp2
      go_loopw [7] (fun k wr => ∃ q : Nat, q ≤ 32 ∧ k = .int .i64 q ∧ HeldF wr g (N + 32) (fun j => if j < q then ((SM.nt c).testBit j ^^ SM.msg s.data.toList j) else SM.msg s.data.toList j) ∧ Fr w wr ∧ g < wr.heap.size) (fun k _ => 32 - (intOf k).toNat)
      case atStart => exact ⟨0, by omega, rfl, HeldF.congr HH.out (fun j _ => by simp), hfr2, hgl⟩
      case round =>
        obtain ⟨q, hq, rfl, hh, hfr3, hgl3⟩ := hrel
        clear HH
        have HH : Hid _ := hh
        by_cases hlt : q < 32
        · have hcl := (hh q (by omega)).1
          have hfz := (hh q (by omega)).2
          simp only [Nat.lt_irrefl, if_false] at hcl
          clear hh
          have ht := low_test c q hc
          have HNT : Hid _ := SM.nt_testBit (c := c) q hlt
          have hqN : (q : Int) < (N : Int) + 32 := by omega
          cases hbit : c.testBit q
          · rw [hbit] at ht HNT
            clear hbit
            go_wp2
            go_roundw
            case rel =>
              refine ⟨q + 1, by omega, by go_num, ?_, Below.setCell hfr3 hgb _, by simpa using hgl3⟩
              refine HeldF.congr (HeldF.set HH.out q _) (fun j hj => ?_)
              by_cases e : j = q
              · subst e; simp [HNT.out]
              · by_cases d : j < q
                · simp [e, d, show j < q + 1 by omega]
                · simp [e, d, show ¬ j < q + 1 by omega]
            case measure => simp [intOf]; omega
          · rw [hbit] at ht HNT
            clear hbit
            go_wp2
            go_roundw
            case rel =>
              refine ⟨q + 1, by omega, by go_num, ?_, hfr3, hgl3⟩
              refine HeldF.congr HH.out (fun j hj => ?_)
              by_cases e : j = q
              · subst e; simp [HNT.out]
              · by_cases d : j < q
                · simp [d, show j < q + 1 by omega]
                · simp [d, show ¬ j < q + 1 by omega]
            case measure => simp [intOf]; omega
        · have q32 : q = 32 := by omega
          subst q32
          have HD : Hid (SM.Div s.data.toList 0 (SM.nt c) (fun j => if j < 32 then ((SM.nt c).testBit j ^^ SM.msg s.data.toList j) else SM.msg s.data.toList j)) :=
            SM.Div.start _ _ _ (fun k hk => by simp [hk]) (fun j hj => by simp [show ¬ j < 32 by omega])
          generalize (fun j => if j < 32 then ((SM.nt c).testBit j ^^ SM.msg s.data.toList j) else SM.msg s.data.toList j) = f0 at *
          clear hlt hq hh
          obtain ⟨wp, rfl⟩ : ∃ wp : World, wp = wr := ⟨_, rfl⟩
          go_wp2_with fail
          refine (divisor_any _).mono ?_
          rintro e w3 ⟨vd, rfl, hownd, hfr4⟩
          obtain ⟨gd, capd, rfl, hgdb, hgdl, hcapd, hhd⟩ := HeldF.of_owns hownd (by omega)
          have HH3 : Hid _ := HeldF.fr HH.out hfr4
          have HHD : Hid _ := hhd
          have hne : g ≠ gd := by omega
          have hfr5 : Fr w w3 := Fr.trans hfr3 hfr4
          have hgl5 : g < w3.heap.size := by have := hfr4.size; omega
          have hgdb5 : w.heap.size ≤ gd := by have := hfr3.size; omega
          clear hownd hhd HH hfr4 hgdb hgl3 hfr3 hgl hfr2 hfr
          go_wp2
          go_loopw [9] (fun k wr => ∃ (i : Nat) (f : Nat → Bool), i ≤ N ∧ k = .int .i64 i ∧ HeldF wr g (N + 32) f ∧ HeldF wr gd 33 SM.dvs ∧ SM.Div s.data.toList i (SM.fbn (SM.nt c) (SM.msg s.data.toList) i) f ∧ Fr w wr) (fun k _ => N - (intOf k).toNat)
          case atStart => exact ⟨0, f0, by omega, rfl, HH3.out, HHD.out, HD.out, hfr5⟩
          case round =>
            obtain ⟨i, f, hi', rfl, hh, hhd, hdiv, hfr6⟩ := hrel
            clear HH3 HHD HD hfr5 hgl5
            have HH : Hid _ := hh
            have HHD : Hid _ := hhd
            have HDV : Hid _ := hdiv
            have HRI : Hid _ := HR.out i
            by_cases hlt : i < N
            · have hcl := (hh i (by omega)).1
              have hcond : (i : Int) + 32 < (N : Int) + 32 := by omega
              have hiN : (i : Int) < (N : Int) + 32 := by omega
              clear hh hhd hdiv
              cases hbit : f i
              · rw [hbit] at hcl
                have HDN : Hid _ := SM.Div.skip HDV.out HRI.out hbit
                clear hbit
                go_wp2
                go_roundw
                case rel => exact ⟨i + 1, f, by omega, by go_num, HH.out, HHD.out, HDN.out, hfr6⟩
                case measure => simp [intOf]; omega
              · rw [hbit] at hcl
                have HDN : Hid _ := SM.Div.take HDV.out HRI.out hbit
                clear hbit
                obtain ⟨wq, rfl⟩ : ∃ wq : World, wq = wr := ⟨_, rfl⟩
                go_wp2
                go_loopw [10] (fun k wr => ∃ q : Nat, q ≤ 33 ∧ k = .int .i64 q ∧ HeldF wr g (N + 32) (fun j => if i ≤ j ∧ j < i + q then (f j != SM.dvs (j - i)) else f j) ∧ HeldF wr gd 33 SM.dvs ∧ Fr w wr) (fun k _ => 33 - (intOf k).toNat)
                case atStart => exact ⟨0, by omega, rfl, HeldF.congr HH.out (fun j _ => by rw [if_neg (by omega)]), HHD.out, hfr6⟩
                case round =>
                  obtain ⟨q, hq, rfl, hh2, hhd2, hfr7⟩ := hrel
                  have K1 : Hid _ := hh2
                  have K2 : Hid _ := hhd2
                  by_cases hq33 : q < 33
                  · have e1 := (hh2 (i + q) (by omega)).1
                    have e2 := (hh2 (i + q) (by omega)).2
                    have e3 := (hhd2 q hq33).1
                    simp only [show ¬ (i ≤ i + q ∧ i + q < i + q) by omega, if_false] at e1
                    clear hh2 hhd2 hcl hfr6
                    have b1 : (i : Int) + (q : Int) < (N : Int) + 32 := by omega
                    have b2 : (q : Int) < 33 := by omega
                    have b3 : (q : Int) ≤ 32 := by omega
                    go_wp2
                    go_region
                    go_wp2
                    go_roundw
                    case rel =>
                      refine ⟨q + 1, by omega, by go_num, HeldF.drew (HeldF.congr (HeldF.set K1.out (i + q) _) (fun j hj => ?_)), HeldF.drew (HeldF.other K2.out hne _ _), Fr.drew (Below.setCell hfr7 hgb _)⟩
                      by_cases e : j = i + q
                      · subst e
                        rw [if_pos rfl, if_pos (by omega), show i + q - i = q by omega]
                        rfl
                      · rw [if_neg e]
                        by_cases d : i ≤ j ∧ j < i + q
                        · rw [if_pos d, if_pos (by omega)]
                        · rw [if_neg d, if_neg (by omega)]
                    case measure => simp [intOf]; omega
                  · have q33 : q = 33 := by omega
                    subst q33
                    clear hh2 hhd2 hcl
                    go_wp2
                    go_roundw
                    case rel => exact ⟨i + 1, _, by omega, by go_num, K1.out, K2.out, HDN.out, hfr7⟩
                    case measure => simp [intOf]; omega
            · have e : i = N := by omega
              subst e
              have HL2 : Hid (∀ k, k < 32 → f (i + k) = (SM.fbn (SM.nt c) (SM.msg s.data.toList) i).testBit k) := by
                intro k hk
                have h1 := HL.out
                rw [← h1] at hdiv ⊢
                exact SM.Div.last hdiv k hk
              have HA : Hid (SM.addUp (fun k => !f (i + k)) 32 = SM.more c s.data.toList) := by
                unfold Hid
                rw [HM.out, HL.out]
                exact SM.addUp_nt HRI.out _ (fun k hk => by rw [HL2.out k hk])
              clear hh hhd hdiv HHD HDV HRI HL2
              go_wp2
              go_loop [11, 12] (fun o k => ∃ q : Nat, q ≤ 32 ∧ k = .int .i64 q ∧ o = .int .u32 ((SM.addUp (fun k => !f (i + k)) q : Nat) : Int)) (fun _ k => 32 - (intOf k).toNat)
              case atStart => exact ⟨0, by omega, rfl, rfl⟩
              case round =>
                obtain ⟨q, hq, rfl, rfl⟩ := hrel
                by_cases hq32 : q < 32
                · have e1 := (HH.out (i + q) (by omega)).1
                  have b1 : (i : Int) + (q : Int) < (i : Int) + 32 := by omega
                  have b2 : (q : Int) < 32 := by omega
                  cases hbit : f (i + q)
                  · rw [hbit] at e1
                    have HU : Hid _ := add_step (fun k => !f (i + k)) q hq32 (by simp [hbit])
                    clear hbit
                    go_wp2
                    go_round
                    case rel => exact ⟨q + 1, by omega, by go_num, by rw [HU.out]⟩
                    case measure => simp [intOf]; omega
                  · rw [hbit] at e1
                    have HU : Hid (SM.addUp (fun k => !f (i + k)) (q + 1) = SM.addUp (fun k => !f (i + k)) q) := by unfold Hid; rw [SM.addUp]; simp [hbit]
                    clear hbit
                    go_wp2
                    go_round
                    case rel => exact ⟨q + 1, by omega, by go_num, by rw [HU.out]⟩
                    case measure => simp [intOf]; omega
                · have q32 : q = 32 := by omega
                  subst q32
                  go_wp2
                  go_ret
                  exact ⟨ret_int (by rw [HA.out]), hfr6⟩
end Go.Proofs.YtfjdialbjbomdaaDoor
