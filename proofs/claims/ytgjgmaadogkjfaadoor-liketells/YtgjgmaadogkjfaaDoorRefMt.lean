/-
  The document's answer whether a pattern stands for a text.
-/
import Derived.Test.YtgjgmaadogkjfaaDoorRefEsc
import Derived.Test.YtgjgmaadogkjfaaDoorLkDp
namespace Go.Proofs.YtgjgmaadogkjfaaDoor
open Go.ChangeShapes Go.WideShapes Go.ChangeAt Go.RowKit Go.Shelf
set_option linter.unusedVariables false

theorem Tryd.infoBool : (Tryd.prog.info? 4).map (fun i => (i.zero, i.size, i.bytes)) = some (some (.bool false), 1, 1) := by kernel_rfl
/-- a slice value stands for a list of truths, one at least -/
def IsBl (w : World) (v : Value) (l : List Bool) : Prop :=
  ∃ (b cap : Nat), v = .slice (some ⟨b, 0, none⟩) l.length cap ∧ b < w.heap.size ∧ ∀ i x, l[i]? = some x → w.cell? ⟨b, i, none⟩ = some (.bool x)
theorem bl_of_own {w : World} {base n : Nat} {v : Value} {l : List Bool} (hn : l.length = n + 1) (h : w.ownsRow base 4 1 v (n + 1) (l.map Value.bool)) : IsBl w v l := by
  rcases h.2 with ⟨_, h0⟩ | ⟨g, cap, cur, rfl, hb, hg, h3, h4, h5, h6⟩
  · omega
  · refine ⟨g, cap, by rw [hn], (Array.getElem?_eq_some_iff.1 hg).1, fun i x hi => ?_⟩
    have hil := (List.getElem?_eq_some_iff.1 hi).1
    have : (l.map Value.bool)[i]? = some (.bool x) := by rw [List.getElem?_map, hi]; rfl
    rw [← h6, List.getElem?_take, if_pos (by omega), Array.getElem?_toList] at this
    simp [World.cell?, hg, this]
theorem bl_len {w : World} {base n : Nat} {v : Value} {l : List Bool} (h : w.ownsRow base 4 1 v n (l.map Value.bool)) : l.length = n := by
  have := h.1
  simpa using this
theorem below_drewN {B : Nat} {a b : World} (h : Below B a b) (n : Nat) : Below B a (b.drewN n) := h.trans ⟨rfl, rfl, rfl, Nat.le_refl _, fun _ _ => rfl⟩
/-- one truth more -/
theorem bl_more {w w1 w2 : World} {base k : Nat} {v v' : Value} {l : List Bool} {x : Bool} {tmp : Obj} {m : Nat} (hm : m = k + 1) (h : w2.ownsRow base 4 1 v' m (l.map Value.bool ++ [.bool x])) : w2.ownsRow base 4 1 v' (k + 1) ((l ++ [x]).map Value.bool) := by
  subst hm
  rw [List.map_append]
  exact h

set_option maxRecDepth 100000 in
set_option maxHeartbeats 8000000 in
theorem matchOf_any (S s : ByteArray) (w : World) (h0 : perr S = 0) (hs : s.size ≤ 16) :
    Calls Tryd.prog 13 #[.string S, .string s] w fun e w' => e = .returned (.bool (mtc S s)) ∧ Fr w w' := by
  have hsz : S.size ≤ 32 := by
    unfold perr at h0
    split at h0
    · cases h0
    · omega
  have hpo := piecesOf_any S w (by omega)
  have hrun : LK.run (LK.pc S.data.toList) = (false, prts S) := by
    have h1 : (LK.run (LK.pc S.data.toList)).1 = false := by
      unfold perr at h0
      split at h0
      · cases h0
      · cases hr : (LK.run (LK.pc S.data.toList)).1 with
        | false => rfl
        | true => rw [if_pos hr] at h0; cases h0
    exact Prod.ext h1 rfl
  rw [LK.run_eq] at hrun
  have hone : ∀ x ∈ LK.pc S.data.toList, LK.pc x = [x] := fun x hx => (LK.pc_one hx).1
  have hlen : (LK.pc S.data.toList).length ≤ 32 := by
    have h1 := LK.pc_len S.data.toList
    have h2 : S.data.toList.length = S.size := by rw [Array.length_toList]; rfl
    omega
  have htl : (LK.pc s.data.toList).length ≤ 16 := by
    have h1 := LK.pc_len s.data.toList
    have h2 : s.data.toList.length = s.size := by rw [Array.length_toList]; rfl
    omega
  have hmt : mtc S s = LK.mt (prts S) (LK.pc s.data.toList) := rfl
  have hps := fun w1 => piecesOf_any s w1 (by omega)
  obtain ⟨L, hL⟩ : ∃ L, LK.pc S.data.toList = L := ⟨_, rfl⟩
  obtain ⟨T, hTT⟩ : ∃ T, LK.pc s.data.toList = T := ⟨_, rfl⟩
  obtain ⟨PR, hPR⟩ : ∃ PR, prts S = PR := ⟨_, rfl⟩
  rw [hL] at hpo hrun hone hlen
  rw [hTT] at hps htl hmt
  rw [hPR] at hrun hmt
  rw [hmt]
  have HR : Hid _ := hrun
  have HO : Hid _ := hone
  have HPS : Hid _ := hps
  clear hrun hone hL hPR h0 hps hTT hmt
  obtain ⟨i0, hi0, hz0, hz1, hz2⟩ := info_parts Tryd.infoBool
  go_enter Tryd.func13, Tryd.ntmps13
  go_wp2_with fail
  refine hpo.mono ?_
  rintro _ w1 ⟨v1, rfl, htx1, f1⟩
  have HX1 : Hid (IsTx w1 v1 L) := htx1
  clear hpo htx1
  go_wp2_with fail
  refine (HPS.out w1).mono ?_
  rintro _ w2 ⟨v2, rfl, htx2, f2⟩
  have htx1 : IsTx w2 v1 L := IsTx.fr HX1.out f2
  obtain ⟨a1, cap1, rfl, hcap1, hc1⟩ := htx1
  obtain ⟨a2, cap2, rfl, hcap2, hc2⟩ := htx2
  have HC1 : Hid _ := hc1
  have HC2 : Hid _ := hc2
  clear hc1 hc2 HX1 HPS
  go_wp2
  go_loopw [7, 8] (fun av0 kv wr => ∃ (k : Nat) (av : Value), kv = .int .i64 k ∧ av = av0 ∧ k ≤ T.length + 1 ∧ wr.ownsRow w2.heap.size 4 1 av k ((LK.rowL [] T k).map Value.bool) ∧ Below w2.heap.size w2 wr) (fun _ kv _ => T.length + 1 - (intOf kv).toNat)
  case atStart => exact ⟨0, _, rfl, rfl, Nat.zero_le _, World.ownsRow_nil _ _ _ _, Below.refl _ _⟩
  case round =>
    obtain ⟨k, av, rfl, rfl, hk, hrow, hB⟩ := hrel
    have hkl := bl_len hrow
    by_cases hlt : k ≤ T.length
    · have hltZ : (k : Int) ≤ (T.length : Int) := by omega
      have hrs := LK.rowL_succ [] T k
      rw [LK.row_nil T k hlt] at hrs
      obtain ⟨R, hR⟩ : ∃ R, LK.rowL [] T k = R := ⟨_, rfl⟩
      rw [hR] at hrow hrs hkl
      have HRS : Hid _ := hrs
      clear hrs hR
      have hkk : ((k : Int) == 0) = (k == 0) := by
        cases k with
        | zero => rfl
        | succ k => simp; omega
      have HKK : Hid _ := hkk
      clear hkk
      go_wp2_with (at_builtin; refine wpList_append_own _ rfl _ _ 48 rfl w2.heap.size 4 i0 (.bool false) 1 1 Tryd.underlying48 hi0 hz0 hz1 hz2 rfl (by decide) _ _ _ rfl (hrow.alloc _) ⟨wr.heap.size, 0, none⟩ 1 1 [.bool ((k : Int) == 0)] rfl rfl ?c1 ?c2 ?c3 ?c4 ?c5 ?_)
      case c1 => exact cell_one_new _ _ _
      case c2 => intro u hu; simp at hu; subst hu; rfl
      case c3 => unfold maxLen; omega
      case c4 => omega
      case c5 => have := hB.size; simp; omega
      intro v' w3 hown' hgrow _
      have hB2 : Below w2.heap.size w2 w3 := (hB.alloc hB.size _).grown hgrow (by have := hB.size; simp; omega) (fun j ej => (hrow.lt j ej).1)
      have HO2 : Hid (w3.ownsRow w2.heap.size 4 1 v' (k + 1) ((LK.rowL [] T (k + 1)).map Value.bool)) := by
        unfold Hid
        rw [HRS.out, ← HKK.out, List.map_append]
        exact hown'
      obtain ⟨g', cap', rfl⟩ := ownsRow_succ hown'
      clear hown' hgrow hrow
      go_wp2
      go_roundw
      case rel => exact ⟨k + 1, _, by simp, rfl, by omega, HO2.out, hB2⟩
      case measure => simp [intOf] <;> omega
    · have hltZ : ¬ (k : Int) ≤ (T.length : Int) := by omega
      obtain rfl : k = T.length + 1 := by omega
      have hbl0 : IsBl wr av (LK.rowL [] T (T.length + 1)) := bl_of_own hkl hrow
      have HBL0 : Hid (IsBl wr av (LK.rowL [] T (T.length + 1))) := hbl0
      obtain ⟨b0, cb0, rfl, _, _⟩ := hbl0
      have HB0 : Hid _ := hB
      clear hrow hkl hB
      rw [LK.rowL_len] at HBL0 ⊢
      go_wp2
      go_loopw [7, 9] (fun av iv wq => ∃ (i : Nat) (D ps : List LK.Part), iv = .int .i64 i ∧ i ≤ L.length ∧ LK.prs false (L.drop i) = (false, ps) ∧ PR = D ++ ps ∧ IsBl wq av (LK.rowL D T (T.length + 1)) ∧ Below w2.heap.size w2 wq) (fun _ iv _ => L.length - (intOf iv).toNat)
      case atStart => exact ⟨0, [], PR, rfl, Nat.zero_le _, HR.out, rfl, HBL0.out, HB0.out⟩
      case round =>
        rename World => wq
        obtain ⟨i, D, ps, rfl, hi, hprs, hpr, hbl, hB⟩ := hrel
        obtain ⟨bt, cbt, rfl, hbt, hct⟩ := hbl
        rw [LK.rowL_len]
        by_cases hlt2 : i < L.length
        · have hlt2Z : (i : Int) < (L.length : Int) := by omega
          obtain ⟨x, hx⟩ : ∃ x, L[i]? = some x := ⟨L[i], List.getElem?_eq_getElem hlt2⟩
          obtain ⟨b1, rfl, hb1, hcl⟩ : ∃ b, a1 = some ⟨b, 0, none⟩ ∧ b < w2.heap.size ∧ ∀ i x, L[i]? = some x → w2.cell? ⟨b, i, none⟩ = some (sv x) := by
            rcases HC1.out with h | h
            · rw [h] at hlt2; simp at hlt2
            · exact h
          have c0 := (Below.cell hB (p := ⟨b1, i, none⟩) hb1).trans (hcl i x hx)
          have o1 := HO.out x (List.mem_of_getElem? hx)
          have e37 : ((⟨x.toArray⟩ : ByteArray).toList == [37]) = decide (LK.kd x = 37) := lit_eq x 37 37 o1 rfl (by decide) rfl (by decide)
          have e95 : ((⟨x.toArray⟩ : ByteArray).toList == [95]) = decide (LK.kd x = 95) := lit_eq x 95 95 o1 rfl (by decide) rfl (by decide)
          have e92 : ((⟨x.toArray⟩ : ByteArray).toList == [92]) = decide (LK.kd x = 92) := lit_eq x 92 92 o1 rfl (by decide) rfl (by decide)
          have hd := LK.drop_at hx
          rw [hd] at hprs
          unfold sv at c0
          have HCT : Hid _ := hct
          have HB : Hid _ := hB
          have hkd : LK.kd x = 37 ∨ LK.kd x = 95 ∨ LK.kd x = 92 ∨ LK.kd x = 97 := by
            unfold LK.kd
            split
            · exact Or.inr (Or.inr (Or.inr rfl))
            · split
              · exact Or.inl rfl
              · split
                · exact Or.inr (Or.inl rfl)
                · split
                  · exact Or.inr (Or.inr (Or.inl rfl))
                  · exact Or.inr (Or.inr (Or.inr rfl))
          rcases hkd with k | k | k | k
          · have d1 : ((⟨x.toArray⟩ : ByteArray).toList == [37]) = true := by rw [e37, k]; rfl
            have d2 : ((⟨x.toArray⟩ : ByteArray).toList == [95]) = false := by rw [e95, k]; rfl
            have d3 : ((⟨x.toArray⟩ : ByteArray).toList == [92]) = false := by rw [e92, k]; rfl
            have hps : ps = (((37 : Int), x) : LK.Part) :: (LK.prs false (L.drop (i + 1))).2 ∧ (LK.prs false (L.drop (i + 1))).1 = false := by
              have e : LK.kdE false x = 37 := k
              have e2 : LK.prs false (x :: L.drop (i + 1)) = ((LK.prs false (L.drop (i + 1))).1, (((37 : Int), x) : LK.Part) :: (LK.prs false (L.drop (i + 1))).2) := by
                conv => lhs; unfold LK.prs
                rw [e, if_neg (by decide)]
              rw [e2] at hprs
              exact ⟨(congrArg Prod.snd hprs).symm, congrArg Prod.fst hprs⟩
            have H0 : Hid (LK.prs false (L.drop (i + 1)) = (false, (LK.prs false (L.drop (i + 1))).2)) := Prod.ext hps.2 rfl
            have H1 : Hid (PR = (D ++ [(((37 : Int), x) : LK.Part)]) ++ (LK.prs false (L.drop (i + 1))).2) := by unfold Hid; rw [hpr, hps.1]; simp
            clear hprs hps hpr k hx hcl o1 hd e37 e95 e92 hct hB
            obtain ⟨sx, hsx⟩ : ∃ sx : ByteArray, sx = ⟨x.toArray⟩ := ⟨_, rfl⟩
            rw [← hsx] at c0 d1 d2 d3
            have g1 : sx.toList = [37] := eq_of_beq d1
            have g2 : ¬ sx.toList = [95] := ne_of_beq_false d2
            have g3 : ¬ sx.toList = [92] := ne_of_beq_false d3
            clear hsx
            go_wp2
            go_quiet (fail)
            go_wp2
            go_loopw [13, 14] (fun nv0 kv wk => ∃ (k : Nat) (nv : Value), kv = .int .i64 k ∧ nv = nv0 ∧ k ≤ T.length + 1 ∧ wk.ownsRow wq.heap.size 4 1 nv k ((LK.rowL (D ++ [((37 : Int), x)]) T k).map Value.bool) ∧ Below wq.heap.size wq wk) (fun _ kv _ => T.length + 1 - (intOf kv).toNat)
            case atStart => exact ⟨0, _, rfl, rfl, Nat.zero_le _, World.ownsRow_nil _ _ _ _, below_drewN (Below.refl _ _) _⟩
            case round =>
              rename World => wk
              obtain ⟨k, nv, rfl, rfl, hk, hrow, hBk⟩ := hrel
              have hkl := bl_len hrow
              by_cases hkt : k ≤ T.length
              · have hktZ : (k : Int) ≤ (T.length : Int) := by omega
                have hrs := LK.rowL_succ (D ++ [((37 : Int), x)]) T k
                have ca := (hBk.cell (p := ⟨bt, k, none⟩) hbt).trans (HCT.out k _ (LK.rowL_at D T (T.length + 1) k (by omega)))
                cases k with
                | zero =>
                  rw [LK.row_star_zero] at hrs
                  obtain ⟨R, hR⟩ : ∃ R, LK.rowL (D ++ [((37 : Int), x)]) T 0 = R := ⟨_, rfl⟩
                  rw [hR] at hrow hrs hkl
                  have HRS : Hid _ := hrs
                  clear hrs hR
                  cases hA : LK.row D T 0 with
                  | true =>
                    rw [hA] at ca HRS
                    clear hA
                    go_wp2_with (at_builtin; refine wpList_append_own _ rfl _ _ 48 rfl wq.heap.size 4 i0 (.bool false) 1 1 Tryd.underlying48 hi0 hz0 hz1 hz2 rfl (by decide) _ _ _ rfl (hrow.alloc _) ⟨wk.heap.size, 0, none⟩ 1 1 [.bool true] rfl rfl ?c1 ?c2 ?c3 ?c4 ?c5 ?_)
                    case c1 => exact cell_one_new _ _ _
                    case c2 => intro u hu; simp at hu; subst hu; rfl
                    case c3 => unfold maxLen; omega
                    case c4 => omega
                    case c5 => have := hBk.size; simp; omega
                    intro v' w3 hown' hgrow _
                    have hB2 : Below wq.heap.size wq w3 := (hBk.alloc hBk.size _).grown hgrow (by have := hBk.size; simp; omega) (fun j ej => (hrow.lt j ej).1)
                    have HO2 : Hid (w3.ownsRow wq.heap.size 4 1 v' (0 + 1) ((LK.rowL (D ++ [((37 : Int), x)]) T (0 + 1)).map Value.bool)) := by
                      unfold Hid
                      rw [HRS.out, List.map_append]
                      exact hown'
                    obtain ⟨g', cap', rfl⟩ := ownsRow_succ hown'
                    clear hown' hgrow hrow
                    go_wp2
                    go_roundw
                    case rel => exact ⟨0 + 1, _, by simp, rfl, by omega, HO2.out, hB2⟩
                    case measure => simp [intOf] <;> omega
                  | false =>
                    rw [hA] at ca HRS
                    clear hA
                    go_wp2_with (at_builtin; refine wpList_append_own _ rfl _ _ 48 rfl wq.heap.size 4 i0 (.bool false) 1 1 Tryd.underlying48 hi0 hz0 hz1 hz2 rfl (by decide) _ _ _ rfl (hrow.alloc _) ⟨wk.heap.size, 0, none⟩ 1 1 [.bool false] rfl rfl ?c1 ?c2 ?c3 ?c4 ?c5 ?_)
                    case c1 => exact cell_one_new _ _ _
                    case c2 => intro u hu; simp at hu; subst hu; rfl
                    case c3 => unfold maxLen; omega
                    case c4 => omega
                    case c5 => have := hBk.size; simp; omega
                    intro v' w3 hown' hgrow _
                    have hB2 : Below wq.heap.size wq w3 := (hBk.alloc hBk.size _).grown hgrow (by have := hBk.size; simp; omega) (fun j ej => (hrow.lt j ej).1)
                    have HO2 : Hid (w3.ownsRow wq.heap.size 4 1 v' (0 + 1) ((LK.rowL (D ++ [((37 : Int), x)]) T (0 + 1)).map Value.bool)) := by
                      unfold Hid
                      rw [HRS.out, List.map_append]
                      exact hown'
                    obtain ⟨g', cap', rfl⟩ := ownsRow_succ hown'
                    clear hown' hgrow hrow
                    go_wp2
                    go_roundw
                    case rel => exact ⟨0 + 1, _, by simp, rfl, by omega, HO2.out, hB2⟩
                    case measure => simp [intOf] <;> omega
                | succ k =>
                  rw [LK.row_star_succ D _ T k (by omega)] at hrs
                  obtain ⟨bn, cbn, rfl, hbn, hcn⟩ := bl_of_own hkl hrow
                  have cn := hcn k _ (LK.rowL_at (D ++ [((37 : Int), x)]) T (k + 1) k (by omega))
                  rw [LK.rowL_len] at hrow ⊢
                  obtain ⟨R, hR⟩ : ∃ R, LK.rowL (D ++ [((37 : Int), x)]) T (k + 1) = R := ⟨_, rfl⟩
                  rw [hR] at hrow hrs hkl
                  have HRS : Hid _ := hrs
                  have kz : (0 : Int) < (k : Int) + 1 := by omega
                  clear hrs hcn
                  have HR2 : Hid _ := hR
                  clear hR
                  cases hA : LK.row D T (k + 1) with
                  | true =>
                    rw [hA] at ca HRS
                    clear hA
                    go_wp2_with (at_builtin; refine wpList_append_own _ rfl _ _ 48 rfl wq.heap.size 4 i0 (.bool false) 1 1 Tryd.underlying48 hi0 hz0 hz1 hz2 rfl (by decide) _ _ _ rfl (hrow.alloc _) ⟨wk.heap.size, 0, none⟩ 1 1 [.bool true] rfl rfl ?c1 ?c2 ?c3 ?c4 ?c5 ?_)
                    case c1 => exact cell_one_new _ _ _
                    case c2 => intro u hu; simp at hu; subst hu; rfl
                    case c3 => unfold maxLen; omega
                    case c4 => omega
                    case c5 => have := hBk.size; simp; omega
                    intro v' w3 hown' hgrow _
                    have hB2 : Below wq.heap.size wq w3 := (hBk.alloc hBk.size _).grown hgrow (by have := hBk.size; simp; omega) (fun j ej => (hrow.lt j ej).1)
                    have HO2 : Hid (w3.ownsRow wq.heap.size 4 1 v' ((k + 1) + 1) ((LK.rowL (D ++ [((37 : Int), x)]) T ((k + 1) + 1)).map Value.bool)) := by
                      unfold Hid
                      rw [HRS.out, List.map_append]
                      exact hown'
                    obtain ⟨g', cap', rfl⟩ := ownsRow_succ hown'
                    clear hown' hgrow hrow
                    go_wp2
                    go_roundw
                    case rel => exact ⟨(k + 1) + 1, _, by simp, rfl, by omega, HO2.out, hB2⟩
                    case measure => simp [intOf] <;> omega
                  | false =>
                    rw [hA] at ca HRS
                    clear hA
                    cases hBb : LK.row (D ++ [((37 : Int), x)]) T k with
                    | true =>
                      rw [hBb] at cn HRS
                      clear hBb
                      go_wp2_with (at_builtin; refine wpList_append_own _ rfl _ _ 48 rfl wq.heap.size 4 i0 (.bool false) 1 1 Tryd.underlying48 hi0 hz0 hz1 hz2 rfl (by decide) _ _ _ rfl (hrow.alloc _) ⟨wk.heap.size, 0, none⟩ 1 1 [.bool true] rfl rfl ?c1 ?c2 ?c3 ?c4 ?c5 ?_)
                      case c1 => exact cell_one_new _ _ _
                      case c2 => intro u hu; simp at hu; subst hu; rfl
                      case c3 => unfold maxLen; omega
                      case c4 => omega
                      case c5 => have := hBk.size; simp; omega
                      intro v' w3 hown' hgrow _
                      have hB2 : Below wq.heap.size wq w3 := (hBk.alloc hBk.size _).grown hgrow (by have := hBk.size; simp; omega) (fun j ej => (hrow.lt j ej).1)
                      have HO2 : Hid (w3.ownsRow wq.heap.size 4 1 v' ((k + 1) + 1) ((LK.rowL (D ++ [((37 : Int), x)]) T ((k + 1) + 1)).map Value.bool)) := by
                        unfold Hid
                        rw [HRS.out, List.map_append]
                        exact hown'
                      obtain ⟨g', cap', rfl⟩ := ownsRow_succ hown'
                      clear hown' hgrow hrow
                      go_wp2
                      go_roundw
                      case rel => exact ⟨(k + 1) + 1, _, by simp, rfl, by omega, HO2.out, hB2⟩
                      case measure => simp [intOf] <;> omega
                    | false =>
                      rw [hBb] at cn HRS
                      clear hBb
                      go_wp2_with (at_builtin; refine wpList_append_own _ rfl _ _ 48 rfl wq.heap.size 4 i0 (.bool false) 1 1 Tryd.underlying48 hi0 hz0 hz1 hz2 rfl (by decide) _ _ _ rfl (hrow.alloc _) ⟨wk.heap.size, 0, none⟩ 1 1 [.bool false] rfl rfl ?c1 ?c2 ?c3 ?c4 ?c5 ?_)
                      case c1 => exact cell_one_new _ _ _
                      case c2 => intro u hu; simp at hu; subst hu; rfl
                      case c3 => unfold maxLen; omega
                      case c4 => omega
                      case c5 => have := hBk.size; simp; omega
                      intro v' w3 hown' hgrow _
                      have hB2 : Below wq.heap.size wq w3 := (hBk.alloc hBk.size _).grown hgrow (by have := hBk.size; simp; omega) (fun j ej => (hrow.lt j ej).1)
                      have HO2 : Hid (w3.ownsRow wq.heap.size 4 1 v' ((k + 1) + 1) ((LK.rowL (D ++ [((37 : Int), x)]) T ((k + 1) + 1)).map Value.bool)) := by
                        unfold Hid
                        rw [HRS.out, List.map_append]
                        exact hown'
                      obtain ⟨g', cap', rfl⟩ := ownsRow_succ hown'
                      clear hown' hgrow hrow
                      go_wp2
                      go_roundw
                      case rel => exact ⟨(k + 1) + 1, _, by simp, rfl, by omega, HO2.out, hB2⟩
                      case measure => simp [intOf] <;> omega
              · have hktZ : ¬ (k : Int) ≤ (T.length : Int) := by omega
                obtain rfl : k = T.length + 1 := by omega
                have hbl2 : IsBl wk nv (LK.rowL (D ++ [((37 : Int), x)]) T (T.length + 1)) := bl_of_own hkl hrow
                have HBL2 : Hid (IsBl wk nv (LK.rowL (D ++ [((37 : Int), x)]) T (T.length + 1))) := hbl2
                obtain ⟨b3, cb3, rfl, _, _⟩ := hbl2
                have HB3 : Hid (Below w2.heap.size w2 wk) := Fr.trans HB.out hBk
                clear hrow hkl hBk
                rw [LK.rowL_len] at HBL2 ⊢
                go_wp2
                go_roundw
                case rel => exact ⟨i + 1, D ++ [((37 : Int), x)], _, by simp, by omega, H0.out, H1.out, HBL2.out, HB3.out⟩
                case measure => simp [intOf] <;> omega
          · have d1 : ((⟨x.toArray⟩ : ByteArray).toList == [37]) = false := by rw [e37, k]; rfl
            have d2 : ((⟨x.toArray⟩ : ByteArray).toList == [95]) = true := by rw [e95, k]; rfl
            have d3 : ((⟨x.toArray⟩ : ByteArray).toList == [92]) = false := by rw [e92, k]; rfl
            have hps : ps = (((95 : Int), x) : LK.Part) :: (LK.prs false (L.drop (i + 1))).2 ∧ (LK.prs false (L.drop (i + 1))).1 = false := by
              have e : LK.kdE false x = 95 := k
              have e2 : LK.prs false (x :: L.drop (i + 1)) = ((LK.prs false (L.drop (i + 1))).1, (((95 : Int), x) : LK.Part) :: (LK.prs false (L.drop (i + 1))).2) := by
                conv => lhs; unfold LK.prs
                rw [e, if_neg (by decide)]
              rw [e2] at hprs
              exact ⟨(congrArg Prod.snd hprs).symm, congrArg Prod.fst hprs⟩
            have H0 : Hid (LK.prs false (L.drop (i + 1)) = (false, (LK.prs false (L.drop (i + 1))).2)) := Prod.ext hps.2 rfl
            have H1 : Hid (PR = (D ++ [(((95 : Int), x) : LK.Part)]) ++ (LK.prs false (L.drop (i + 1))).2) := by unfold Hid; rw [hpr, hps.1]; simp
            have hq37 : ((((95 : Int), x) : LK.Part)).1 ≠ 37 := by show (95 : Int) ≠ 37; decide
            clear hprs hps hpr k hx hcl o1 hd e37 e95 e92 hct hB
            obtain ⟨sx, hsx⟩ : ∃ sx : ByteArray, sx = ⟨x.toArray⟩ := ⟨_, rfl⟩
            rw [← hsx] at c0 d1 d2 d3
            have g1 : ¬ sx.toList = [37] := ne_of_beq_false d1
            have g2 : sx.toList = [95] := eq_of_beq d2
            have g3 : ¬ sx.toList = [92] := ne_of_beq_false d3
            clear hsx
            go_wp2
            go_quiet (fail)
            go_wp2
            go_loopw [13, 14] (fun nv0 kv wk => ∃ (k : Nat) (nv : Value), kv = .int .i64 k ∧ nv = nv0 ∧ k ≤ T.length + 1 ∧ wk.ownsRow wq.heap.size 4 1 nv k ((LK.rowL (D ++ [((95 : Int), x)]) T k).map Value.bool) ∧ Below wq.heap.size wq wk) (fun _ kv _ => T.length + 1 - (intOf kv).toNat)
            case atStart => exact ⟨0, _, rfl, rfl, Nat.zero_le _, World.ownsRow_nil _ _ _ _, below_drewN (Below.refl _ _) _⟩
            case round =>
              rename World => wk
              obtain ⟨k, nv, rfl, rfl, hk, hrow, hBk⟩ := hrel
              have hkl := bl_len hrow
              by_cases hkt : k ≤ T.length
              · have hktZ : (k : Int) ≤ (T.length : Int) := by omega
                have hrs := LK.rowL_succ (D ++ [((95 : Int), x)]) T k
                cases k with
                | zero =>
                  rw [LK.row_one_zero D hq37] at hrs
                  obtain ⟨R, hR⟩ : ∃ R, LK.rowL (D ++ [((95 : Int), x)]) T 0 = R := ⟨_, rfl⟩
                  rw [hR] at hrow hrs hkl
                  have HRS : Hid _ := hrs
                  clear hrs hR
                  go_wp2_with (at_builtin; refine wpList_append_own _ rfl _ _ 48 rfl wq.heap.size 4 i0 (.bool false) 1 1 Tryd.underlying48 hi0 hz0 hz1 hz2 rfl (by decide) _ _ _ rfl (hrow.alloc _) ⟨wk.heap.size, 0, none⟩ 1 1 [.bool false] rfl rfl ?c1 ?c2 ?c3 ?c4 ?c5 ?_)
                  case c1 => exact cell_one_new _ _ _
                  case c2 => intro u hu; simp at hu; subst hu; rfl
                  case c3 => unfold maxLen; omega
                  case c4 => omega
                  case c5 => have := hBk.size; simp; omega
                  intro v' w3 hown' hgrow _
                  have hB2 : Below wq.heap.size wq w3 := (hBk.alloc hBk.size _).grown hgrow (by have := hBk.size; simp; omega) (fun j ej => (hrow.lt j ej).1)
                  have HO2 : Hid (w3.ownsRow wq.heap.size 4 1 v' (0 + 1) ((LK.rowL (D ++ [((95 : Int), x)]) T (0 + 1)).map Value.bool)) := by
                    unfold Hid
                    rw [HRS.out, List.map_append]
                    exact hown'
                  obtain ⟨g', cap', rfl⟩ := ownsRow_succ hown'
                  clear hown' hgrow hrow
                  go_wp2
                  go_roundw
                  case rel => exact ⟨0 + 1, _, by simp, rfl, by omega, HO2.out, hB2⟩
                  case measure => simp [intOf] <;> omega
                | succ k =>
                  obtain ⟨z, hz⟩ : ∃ z, T[k]? = some z := ⟨T[k]'(by omega), List.getElem?_eq_getElem (by omega)⟩
                  rw [LK.row_one D hq37 T k z hz] at hrs
                  have ca := (hBk.cell (p := ⟨bt, k, none⟩) hbt).trans (HCT.out k _ (LK.rowL_at D T (T.length + 1) k (by omega)))
                  obtain ⟨b2, rfl, hb2, hcc⟩ : ∃ b, a2 = some ⟨b, 0, none⟩ ∧ b < w2.heap.size ∧ ∀ i x, T[i]? = some x → w2.cell? ⟨b, i, none⟩ = some (sv x) := by
                    rcases HC2.out with h | h
                    · rw [h] at hz; simp at hz
                    · exact h
                  have fr2 : Fr w2 wk := Fr.trans HB.out hBk
                  have ct := (Below.cell fr2 (p := ⟨b2, k, none⟩) hb2).trans (hcc k z hz)
                  unfold sv at ct
                  obtain ⟨R, hR⟩ : ∃ R, LK.rowL (D ++ [((95 : Int), x)]) T (k + 1) = R := ⟨_, rfl⟩
                  rw [hR] at hrow hrs hkl
                  have HRS : Hid _ := hrs
                  have kz : (0 : Int) < (k : Int) + 1 := by omega
                  have kt : (k : Int) < (T.length : Int) := by omega
                  clear hrs hR hcc hz
                  cases hA : LK.row D T k with
                  | false =>
                    rw [hA] at ca HRS
                    clear hA
                    go_wp2_with (at_builtin; refine wpList_append_own _ rfl _ _ 48 rfl wq.heap.size 4 i0 (.bool false) 1 1 Tryd.underlying48 hi0 hz0 hz1 hz2 rfl (by decide) _ _ _ rfl (hrow.alloc _) ⟨wk.heap.size, 0, none⟩ 1 1 [.bool false] rfl rfl ?c1 ?c2 ?c3 ?c4 ?c5 ?_)
                    case c1 => exact cell_one_new _ _ _
                    case c2 => intro u hu; simp at hu; subst hu; rfl
                    case c3 => unfold maxLen; omega
                    case c4 => omega
                    case c5 => have := hBk.size; simp; omega
                    intro v' w3 hown' hgrow _
                    have hB2 : Below wq.heap.size wq w3 := (hBk.alloc hBk.size _).grown hgrow (by have := hBk.size; simp; omega) (fun j ej => (hrow.lt j ej).1)
                    have HO2 : Hid (w3.ownsRow wq.heap.size 4 1 v' ((k + 1) + 1) ((LK.rowL (D ++ [((95 : Int), x)]) T ((k + 1) + 1)).map Value.bool)) := by
                      unfold Hid
                      rw [HRS.out, List.map_append]
                      exact hown'
                    obtain ⟨g', cap', rfl⟩ := ownsRow_succ hown'
                    clear hown' hgrow hrow
                    go_wp2
                    go_roundw
                    case rel => exact ⟨(k + 1) + 1, _, by simp, rfl, by omega, HO2.out, hB2⟩
                    case measure => simp [intOf] <;> omega
                  | true =>
                    rw [hA] at ca HRS
                    clear hA
                    have e1 : LK.one ((95 : Int), x) z = true := by simp [LK.one]
                    rw [e1] at HRS
                    clear e1
                    go_wp2_with (at_builtin; refine wpList_append_own _ rfl _ _ 48 rfl wq.heap.size 4 i0 (.bool false) 1 1 Tryd.underlying48 hi0 hz0 hz1 hz2 rfl (by decide) _ _ _ rfl (hrow.alloc _) ⟨wk.heap.size, 0, none⟩ 1 1 [.bool true] rfl rfl ?c1 ?c2 ?c3 ?c4 ?c5 ?_)
                    case c1 => exact cell_one_new _ _ _
                    case c2 => intro u hu; simp at hu; subst hu; rfl
                    case c3 => unfold maxLen; omega
                    case c4 => omega
                    case c5 => have := hBk.size; simp; omega
                    intro v' w3 hown' hgrow _
                    have hB2 : Below wq.heap.size wq w3 := (hBk.alloc hBk.size _).grown hgrow (by have := hBk.size; simp; omega) (fun j ej => (hrow.lt j ej).1)
                    have HO2 : Hid (w3.ownsRow wq.heap.size 4 1 v' ((k + 1) + 1) ((LK.rowL (D ++ [((95 : Int), x)]) T ((k + 1) + 1)).map Value.bool)) := by
                      unfold Hid
                      rw [HRS.out, List.map_append]
                      exact hown'
                    obtain ⟨g', cap', rfl⟩ := ownsRow_succ hown'
                    clear hown' hgrow hrow
                    go_wp2
                    go_roundw
                    case rel => exact ⟨(k + 1) + 1, _, by simp, rfl, by omega, HO2.out, hB2⟩
                    case measure => simp [intOf] <;> omega
              · have hktZ : ¬ (k : Int) ≤ (T.length : Int) := by omega
                obtain rfl : k = T.length + 1 := by omega
                have hbl2 : IsBl wk nv (LK.rowL (D ++ [((95 : Int), x)]) T (T.length + 1)) := bl_of_own hkl hrow
                have HBL2 : Hid (IsBl wk nv (LK.rowL (D ++ [((95 : Int), x)]) T (T.length + 1))) := hbl2
                obtain ⟨b3, cb3, rfl, _, _⟩ := hbl2
                have HB3 : Hid (Below w2.heap.size w2 wk) := Fr.trans HB.out hBk
                clear hrow hkl hBk
                rw [LK.rowL_len] at HBL2 ⊢
                go_wp2
                go_roundw
                case rel => exact ⟨i + 1, D ++ [((95 : Int), x)], _, by simp, by omega, H0.out, H1.out, HBL2.out, HB3.out⟩
                case measure => simp [intOf] <;> omega
          · have d1 : ((⟨x.toArray⟩ : ByteArray).toList == [37]) = false := by rw [e37, k]; rfl
            have d2 : ((⟨x.toArray⟩ : ByteArray).toList == [95]) = false := by rw [e95, k]; rfl
            have d3 : ((⟨x.toArray⟩ : ByteArray).toList == [92]) = true := by rw [e92, k]; rfl
            have hp2 : LK.prs true (L.drop (i + 1)) = (false, ps) := by
              rw [← hprs]
              conv => rhs; unfold LK.prs
              have e : LK.kdE false x = 92 := k
              rw [if_pos e]
            have hlt3 : i + 1 < L.length := by
              refine Nat.lt_of_not_le fun h => ?_
              rw [List.drop_eq_nil_of_le h] at hp2
              cases congrArg Prod.fst hp2
            have hlt3Z : (i : Int) + 1 < (L.length : Int) := by omega
            obtain ⟨yy, hy⟩ : ∃ y, L[i + 1]? = some y := ⟨L[i + 1], List.getElem?_eq_getElem hlt3⟩
            have c1 := (Below.cell HB.out (p := ⟨b1, i + 1, none⟩) hb1).trans (hcl (i + 1) yy hy)
            rw [LK.drop_at hy] at hp2
            have hps : ps = ((97 : Int), yy) :: (LK.prs false (L.drop (i + 1 + 1))).2 ∧ (LK.prs false (L.drop (i + 1 + 1))).1 = false := by
              have e : LK.kdE true yy = 97 := rfl
              have e2 : LK.prs true (yy :: L.drop (i + 1 + 1)) = ((LK.prs false (L.drop (i + 1 + 1))).1, ((97 : Int), yy) :: (LK.prs false (L.drop (i + 1 + 1))).2) := by
                conv => lhs; unfold LK.prs
                rw [e, if_neg (by decide)]
              rw [e2] at hp2
              exact ⟨(congrArg Prod.snd hp2).symm, congrArg Prod.fst hp2⟩
            have H0 : Hid (LK.prs false (L.drop (i + 1 + 1)) = (false, (LK.prs false (L.drop (i + 1 + 1))).2)) := Prod.ext hps.2 rfl
            have H1 : Hid (PR = (D ++ [((97 : Int), yy)]) ++ (LK.prs false (L.drop (i + 1 + 1))).2) := by unfold Hid; rw [hpr, hps.1]; simp
            have hq37 : (((97 : Int), yy) : LK.Part).1 ≠ 37 := by show (97 : Int) ≠ 37; decide
            unfold sv at c1
            clear hprs hps hpr k hx hcl o1 hd e37 e95 e92 hct hB hp2 hy
            obtain ⟨sy, hsy⟩ : ∃ sy : ByteArray, sy = ⟨yy.toArray⟩ := ⟨_, rfl⟩
            rw [← hsy] at c1
            have HSY : Hid (sy = ⟨yy.toArray⟩) := hsy
            clear hsy
            generalize (⟨x.toArray⟩ : ByteArray) = sx at c0 d1 d2 d3
            have g1 : ¬ sx.toList = [37] := ne_of_beq_false d1
            have g2 : ¬ sx.toList = [95] := ne_of_beq_false d2
            have g3 : sx.toList = [92] := eq_of_beq d3
            go_wp2
            go_quiet (fail)
            go_wp2
            go_loopw [13, 14] (fun nv0 kv wk => ∃ (k : Nat) (nv : Value), kv = .int .i64 k ∧ nv = nv0 ∧ k ≤ T.length + 1 ∧ wk.ownsRow wq.heap.size 4 1 nv k ((LK.rowL (D ++ [((97 : Int), yy)]) T k).map Value.bool) ∧ Below wq.heap.size wq wk) (fun _ kv _ => T.length + 1 - (intOf kv).toNat)
            case atStart => exact ⟨0, _, rfl, rfl, Nat.zero_le _, World.ownsRow_nil _ _ _ _, below_drewN (Below.refl _ _) _⟩
            case round =>
              rename World => wk
              obtain ⟨k, nv, rfl, rfl, hk, hrow, hBk⟩ := hrel
              have hkl := bl_len hrow
              by_cases hkt : k ≤ T.length
              · have hktZ : (k : Int) ≤ (T.length : Int) := by omega
                have hrs := LK.rowL_succ (D ++ [((97 : Int), yy)]) T k
                cases k with
                | zero =>
                  rw [LK.row_one_zero D hq37] at hrs
                  obtain ⟨R, hR⟩ : ∃ R, LK.rowL (D ++ [((97 : Int), yy)]) T 0 = R := ⟨_, rfl⟩
                  rw [hR] at hrow hrs hkl
                  have HRS : Hid _ := hrs
                  clear hrs hR
                  go_wp2_with (at_builtin; refine wpList_append_own _ rfl _ _ 48 rfl wq.heap.size 4 i0 (.bool false) 1 1 Tryd.underlying48 hi0 hz0 hz1 hz2 rfl (by decide) _ _ _ rfl (hrow.alloc _) ⟨wk.heap.size, 0, none⟩ 1 1 [.bool false] rfl rfl ?c1 ?c2 ?c3 ?c4 ?c5 ?_)
                  case c1 => exact cell_one_new _ _ _
                  case c2 => intro u hu; simp at hu; subst hu; rfl
                  case c3 => unfold maxLen; omega
                  case c4 => omega
                  case c5 => have := hBk.size; simp; omega
                  intro v' w3 hown' hgrow _
                  have hB2 : Below wq.heap.size wq w3 := (hBk.alloc hBk.size _).grown hgrow (by have := hBk.size; simp; omega) (fun j ej => (hrow.lt j ej).1)
                  have HO2 : Hid (w3.ownsRow wq.heap.size 4 1 v' (0 + 1) ((LK.rowL (D ++ [((97 : Int), yy)]) T (0 + 1)).map Value.bool)) := by
                    unfold Hid
                    rw [HRS.out, List.map_append]
                    exact hown'
                  obtain ⟨g', cap', rfl⟩ := ownsRow_succ hown'
                  clear hown' hgrow hrow
                  go_wp2
                  go_roundw
                  case rel => exact ⟨0 + 1, _, by simp, rfl, by omega, HO2.out, hB2⟩
                  case measure => simp [intOf] <;> omega
                | succ k =>
                  obtain ⟨z, hz⟩ : ∃ z, T[k]? = some z := ⟨T[k]'(by omega), List.getElem?_eq_getElem (by omega)⟩
                  rw [LK.row_one D hq37 T k z hz] at hrs
                  have ca := (hBk.cell (p := ⟨bt, k, none⟩) hbt).trans (HCT.out k _ (LK.rowL_at D T (T.length + 1) k (by omega)))
                  obtain ⟨b2, rfl, hb2, hcc⟩ : ∃ b, a2 = some ⟨b, 0, none⟩ ∧ b < w2.heap.size ∧ ∀ i x, T[i]? = some x → w2.cell? ⟨b, i, none⟩ = some (sv x) := by
                    rcases HC2.out with h | h
                    · rw [h] at hz; simp at hz
                    · exact h
                  have fr2 : Fr w2 wk := Fr.trans HB.out hBk
                  have ct := (Below.cell fr2 (p := ⟨b2, k, none⟩) hb2).trans (hcc k z hz)
                  unfold sv at ct
                  obtain ⟨R, hR⟩ : ∃ R, LK.rowL (D ++ [((97 : Int), yy)]) T (k + 1) = R := ⟨_, rfl⟩
                  rw [hR] at hrow hrs hkl
                  have HRS : Hid _ := hrs
                  have kz : (0 : Int) < (k : Int) + 1 := by omega
                  have kt : (k : Int) < (T.length : Int) := by omega
                  clear hrs hR hcc hz
                  cases hA : LK.row D T k with
                  | false =>
                    rw [hA] at ca HRS
                    clear hA
                    go_wp2_with (at_builtin; refine wpList_append_own _ rfl _ _ 48 rfl wq.heap.size 4 i0 (.bool false) 1 1 Tryd.underlying48 hi0 hz0 hz1 hz2 rfl (by decide) _ _ _ rfl (hrow.alloc _) ⟨wk.heap.size, 0, none⟩ 1 1 [.bool false] rfl rfl ?c1 ?c2 ?c3 ?c4 ?c5 ?_)
                    case c1 => exact cell_one_new _ _ _
                    case c2 => intro u hu; simp at hu; subst hu; rfl
                    case c3 => unfold maxLen; omega
                    case c4 => omega
                    case c5 => have := hBk.size; simp; omega
                    intro v' w3 hown' hgrow _
                    have hB2 : Below wq.heap.size wq w3 := (hBk.alloc hBk.size _).grown hgrow (by have := hBk.size; simp; omega) (fun j ej => (hrow.lt j ej).1)
                    have HO2 : Hid (w3.ownsRow wq.heap.size 4 1 v' ((k + 1) + 1) ((LK.rowL (D ++ [((97 : Int), yy)]) T ((k + 1) + 1)).map Value.bool)) := by
                      unfold Hid
                      rw [HRS.out, List.map_append]
                      exact hown'
                    obtain ⟨g', cap', rfl⟩ := ownsRow_succ hown'
                    clear hown' hgrow hrow
                    go_wp2
                    go_roundw
                    case rel => exact ⟨(k + 1) + 1, _, by simp, rfl, by omega, HO2.out, hB2⟩
                    case measure => simp [intOf] <;> omega
                  | true =>
                    rw [hA] at ca HRS
                    clear hA
                    by_cases hzy : z = yy
                    · have e1 : LK.one ((97 : Int), yy) z = true := by rw [hzy]; simp [LK.one]
                      have e2 : ((⟨z.toArray⟩ : ByteArray).toList == sy.toList) = true := by rw [hzy, ← HSY.out]; simp
                      have e3 : (⟨z.toArray⟩ : ByteArray).toList = sy.toList := eq_of_beq e2
                      rw [e1] at HRS
                      clear e1 hzy
                      generalize (⟨z.toArray⟩ : ByteArray) = sz at ct e2 e3
                      go_wp2_with (at_builtin; refine wpList_append_own _ rfl _ _ 48 rfl wq.heap.size 4 i0 (.bool false) 1 1 Tryd.underlying48 hi0 hz0 hz1 hz2 rfl (by decide) _ _ _ rfl (hrow.alloc _) ⟨wk.heap.size, 0, none⟩ 1 1 [.bool true] rfl rfl ?c1 ?c2 ?c3 ?c4 ?c5 ?_)
                      case c1 => exact cell_one_new _ _ _
                      case c2 => intro u hu; simp at hu; subst hu; rfl
                      case c3 => unfold maxLen; omega
                      case c4 => omega
                      case c5 => have := hBk.size; simp; omega
                      intro v' w3 hown' hgrow _
                      have hB2 : Below wq.heap.size wq w3 := (hBk.alloc hBk.size _).grown hgrow (by have := hBk.size; simp; omega) (fun j ej => (hrow.lt j ej).1)
                      have HO2 : Hid (w3.ownsRow wq.heap.size 4 1 v' ((k + 1) + 1) ((LK.rowL (D ++ [((97 : Int), yy)]) T ((k + 1) + 1)).map Value.bool)) := by
                        unfold Hid
                        rw [HRS.out, List.map_append]
                        exact hown'
                      obtain ⟨g', cap', rfl⟩ := ownsRow_succ hown'
                      clear hown' hgrow hrow
                      go_wp2
                      go_roundw
                      case rel => exact ⟨(k + 1) + 1, _, by simp, rfl, by omega, HO2.out, hB2⟩
                      case measure => simp [intOf] <;> omega
                    · have e1 : LK.one ((97 : Int), yy) z = false := by
                        have : (yy == z) = false := beq_false_of_ne fun e => hzy e.symm
                        simp [LK.one, this]
                      have e2 : ((⟨z.toArray⟩ : ByteArray).toList == sy.toList) = false := by rw [HSY.out]; exact sv_ne hzy
                      have e3 : ¬ (⟨z.toArray⟩ : ByteArray).toList = sy.toList := ne_of_beq_false e2
                      rw [e1] at HRS
                      clear e1 hzy
                      generalize (⟨z.toArray⟩ : ByteArray) = sz at ct e2 e3
                      go_wp2_with (at_builtin; refine wpList_append_own _ rfl _ _ 48 rfl wq.heap.size 4 i0 (.bool false) 1 1 Tryd.underlying48 hi0 hz0 hz1 hz2 rfl (by decide) _ _ _ rfl (hrow.alloc _) ⟨wk.heap.size, 0, none⟩ 1 1 [.bool false] rfl rfl ?c1 ?c2 ?c3 ?c4 ?c5 ?_)
                      case c1 => exact cell_one_new _ _ _
                      case c2 => intro u hu; simp at hu; subst hu; rfl
                      case c3 => unfold maxLen; omega
                      case c4 => omega
                      case c5 => have := hBk.size; simp; omega
                      intro v' w3 hown' hgrow _
                      have hB2 : Below wq.heap.size wq w3 := (hBk.alloc hBk.size _).grown hgrow (by have := hBk.size; simp; omega) (fun j ej => (hrow.lt j ej).1)
                      have HO2 : Hid (w3.ownsRow wq.heap.size 4 1 v' ((k + 1) + 1) ((LK.rowL (D ++ [((97 : Int), yy)]) T ((k + 1) + 1)).map Value.bool)) := by
                        unfold Hid
                        rw [HRS.out, List.map_append]
                        exact hown'
                      obtain ⟨g', cap', rfl⟩ := ownsRow_succ hown'
                      clear hown' hgrow hrow
                      go_wp2
                      go_roundw
                      case rel => exact ⟨(k + 1) + 1, _, by simp, rfl, by omega, HO2.out, hB2⟩
                      case measure => simp [intOf] <;> omega
              · have hktZ : ¬ (k : Int) ≤ (T.length : Int) := by omega
                obtain rfl : k = T.length + 1 := by omega
                have hbl2 : IsBl wk nv (LK.rowL (D ++ [((97 : Int), yy)]) T (T.length + 1)) := bl_of_own hkl hrow
                have HBL2 : Hid (IsBl wk nv (LK.rowL (D ++ [((97 : Int), yy)]) T (T.length + 1))) := hbl2
                obtain ⟨b3, cb3, rfl, _, _⟩ := hbl2
                have HB3 : Hid (Below w2.heap.size w2 wk) := Fr.trans HB.out hBk
                clear hrow hkl hBk
                rw [LK.rowL_len] at HBL2 ⊢
                go_wp2
                go_roundw
                case rel => exact ⟨i + 1 + 1, D ++ [((97 : Int), yy)], _, by simp, by omega, H0.out, H1.out, HBL2.out, HB3.out⟩
                case measure => simp [intOf] <;> omega
          · have d1 : ((⟨x.toArray⟩ : ByteArray).toList == [37]) = false := by rw [e37, k]; rfl
            have d2 : ((⟨x.toArray⟩ : ByteArray).toList == [95]) = false := by rw [e95, k]; rfl
            have d3 : ((⟨x.toArray⟩ : ByteArray).toList == [92]) = false := by rw [e92, k]; rfl
            have hps : ps = (((97 : Int), x) : LK.Part) :: (LK.prs false (L.drop (i + 1))).2 ∧ (LK.prs false (L.drop (i + 1))).1 = false := by
              have e : LK.kdE false x = 97 := k
              have e2 : LK.prs false (x :: L.drop (i + 1)) = ((LK.prs false (L.drop (i + 1))).1, (((97 : Int), x) : LK.Part) :: (LK.prs false (L.drop (i + 1))).2) := by
                conv => lhs; unfold LK.prs
                rw [e, if_neg (by decide)]
              rw [e2] at hprs
              exact ⟨(congrArg Prod.snd hprs).symm, congrArg Prod.fst hprs⟩
            have H0 : Hid (LK.prs false (L.drop (i + 1)) = (false, (LK.prs false (L.drop (i + 1))).2)) := Prod.ext hps.2 rfl
            have H1 : Hid (PR = (D ++ [(((97 : Int), x) : LK.Part)]) ++ (LK.prs false (L.drop (i + 1))).2) := by unfold Hid; rw [hpr, hps.1]; simp
            have hq37 : ((((97 : Int), x) : LK.Part)).1 ≠ 37 := by show (97 : Int) ≠ 37; decide
            clear hprs hps hpr k hx hcl o1 hd e37 e95 e92 hct hB
            obtain ⟨sx, hsx⟩ : ∃ sx : ByteArray, sx = ⟨x.toArray⟩ := ⟨_, rfl⟩
            rw [← hsx] at c0 d1 d2 d3
            have g1 : ¬ sx.toList = [37] := ne_of_beq_false d1
            have g2 : ¬ sx.toList = [95] := ne_of_beq_false d2
            have g3 : ¬ sx.toList = [92] := ne_of_beq_false d3
            obtain ⟨yy, hyy⟩ : ∃ yy, yy = x := ⟨_, rfl⟩
            obtain ⟨sy, hsy⟩ : ∃ sy : ByteArray, sy = sx := ⟨_, rfl⟩
            have HSY : Hid (sy = ⟨yy.toArray⟩) := by unfold Hid; rw [hsy, hyy]; exact hsx
            subst hyy
            subst hsy
            clear hsx
            go_wp2
            go_quiet (fail)
            go_wp2
            go_loopw [13, 14] (fun nv0 kv wk => ∃ (k : Nat) (nv : Value), kv = .int .i64 k ∧ nv = nv0 ∧ k ≤ T.length + 1 ∧ wk.ownsRow wq.heap.size 4 1 nv k ((LK.rowL (D ++ [((97 : Int), yy)]) T k).map Value.bool) ∧ Below wq.heap.size wq wk) (fun _ kv _ => T.length + 1 - (intOf kv).toNat)
            case atStart => exact ⟨0, _, rfl, rfl, Nat.zero_le _, World.ownsRow_nil _ _ _ _, below_drewN (Below.refl _ _) _⟩
            case round =>
              rename World => wk
              obtain ⟨k, nv, rfl, rfl, hk, hrow, hBk⟩ := hrel
              have hkl := bl_len hrow
              by_cases hkt : k ≤ T.length
              · have hktZ : (k : Int) ≤ (T.length : Int) := by omega
                have hrs := LK.rowL_succ (D ++ [((97 : Int), yy)]) T k
                cases k with
                | zero =>
                  rw [LK.row_one_zero D hq37] at hrs
                  obtain ⟨R, hR⟩ : ∃ R, LK.rowL (D ++ [((97 : Int), yy)]) T 0 = R := ⟨_, rfl⟩
                  rw [hR] at hrow hrs hkl
                  have HRS : Hid _ := hrs
                  clear hrs hR
                  go_wp2_with (at_builtin; refine wpList_append_own _ rfl _ _ 48 rfl wq.heap.size 4 i0 (.bool false) 1 1 Tryd.underlying48 hi0 hz0 hz1 hz2 rfl (by decide) _ _ _ rfl (hrow.alloc _) ⟨wk.heap.size, 0, none⟩ 1 1 [.bool false] rfl rfl ?c1 ?c2 ?c3 ?c4 ?c5 ?_)
                  case c1 => exact cell_one_new _ _ _
                  case c2 => intro u hu; simp at hu; subst hu; rfl
                  case c3 => unfold maxLen; omega
                  case c4 => omega
                  case c5 => have := hBk.size; simp; omega
                  intro v' w3 hown' hgrow _
                  have hB2 : Below wq.heap.size wq w3 := (hBk.alloc hBk.size _).grown hgrow (by have := hBk.size; simp; omega) (fun j ej => (hrow.lt j ej).1)
                  have HO2 : Hid (w3.ownsRow wq.heap.size 4 1 v' (0 + 1) ((LK.rowL (D ++ [((97 : Int), yy)]) T (0 + 1)).map Value.bool)) := by
                    unfold Hid
                    rw [HRS.out, List.map_append]
                    exact hown'
                  obtain ⟨g', cap', rfl⟩ := ownsRow_succ hown'
                  clear hown' hgrow hrow
                  go_wp2
                  go_roundw
                  case rel => exact ⟨0 + 1, _, by simp, rfl, by omega, HO2.out, hB2⟩
                  case measure => simp [intOf] <;> omega
                | succ k =>
                  obtain ⟨z, hz⟩ : ∃ z, T[k]? = some z := ⟨T[k]'(by omega), List.getElem?_eq_getElem (by omega)⟩
                  rw [LK.row_one D hq37 T k z hz] at hrs
                  have ca := (hBk.cell (p := ⟨bt, k, none⟩) hbt).trans (HCT.out k _ (LK.rowL_at D T (T.length + 1) k (by omega)))
                  obtain ⟨b2, rfl, hb2, hcc⟩ : ∃ b, a2 = some ⟨b, 0, none⟩ ∧ b < w2.heap.size ∧ ∀ i x, T[i]? = some x → w2.cell? ⟨b, i, none⟩ = some (sv x) := by
                    rcases HC2.out with h | h
                    · rw [h] at hz; simp at hz
                    · exact h
                  have fr2 : Fr w2 wk := Fr.trans HB.out hBk
                  have ct := (Below.cell fr2 (p := ⟨b2, k, none⟩) hb2).trans (hcc k z hz)
                  unfold sv at ct
                  obtain ⟨R, hR⟩ : ∃ R, LK.rowL (D ++ [((97 : Int), yy)]) T (k + 1) = R := ⟨_, rfl⟩
                  rw [hR] at hrow hrs hkl
                  have HRS : Hid _ := hrs
                  have kz : (0 : Int) < (k : Int) + 1 := by omega
                  have kt : (k : Int) < (T.length : Int) := by omega
                  clear hrs hR hcc hz
                  cases hA : LK.row D T k with
                  | false =>
                    rw [hA] at ca HRS
                    clear hA
                    go_wp2_with (at_builtin; refine wpList_append_own _ rfl _ _ 48 rfl wq.heap.size 4 i0 (.bool false) 1 1 Tryd.underlying48 hi0 hz0 hz1 hz2 rfl (by decide) _ _ _ rfl (hrow.alloc _) ⟨wk.heap.size, 0, none⟩ 1 1 [.bool false] rfl rfl ?c1 ?c2 ?c3 ?c4 ?c5 ?_)
                    case c1 => exact cell_one_new _ _ _
                    case c2 => intro u hu; simp at hu; subst hu; rfl
                    case c3 => unfold maxLen; omega
                    case c4 => omega
                    case c5 => have := hBk.size; simp; omega
                    intro v' w3 hown' hgrow _
                    have hB2 : Below wq.heap.size wq w3 := (hBk.alloc hBk.size _).grown hgrow (by have := hBk.size; simp; omega) (fun j ej => (hrow.lt j ej).1)
                    have HO2 : Hid (w3.ownsRow wq.heap.size 4 1 v' ((k + 1) + 1) ((LK.rowL (D ++ [((97 : Int), yy)]) T ((k + 1) + 1)).map Value.bool)) := by
                      unfold Hid
                      rw [HRS.out, List.map_append]
                      exact hown'
                    obtain ⟨g', cap', rfl⟩ := ownsRow_succ hown'
                    clear hown' hgrow hrow
                    go_wp2
                    go_roundw
                    case rel => exact ⟨(k + 1) + 1, _, by simp, rfl, by omega, HO2.out, hB2⟩
                    case measure => simp [intOf] <;> omega
                  | true =>
                    rw [hA] at ca HRS
                    clear hA
                    by_cases hzy : z = yy
                    · have e1 : LK.one ((97 : Int), yy) z = true := by rw [hzy]; simp [LK.one]
                      have e2 : ((⟨z.toArray⟩ : ByteArray).toList == sy.toList) = true := by rw [hzy, ← HSY.out]; simp
                      have e3 : (⟨z.toArray⟩ : ByteArray).toList = sy.toList := eq_of_beq e2
                      rw [e1] at HRS
                      clear e1 hzy
                      generalize (⟨z.toArray⟩ : ByteArray) = sz at ct e2 e3
                      go_wp2_with (at_builtin; refine wpList_append_own _ rfl _ _ 48 rfl wq.heap.size 4 i0 (.bool false) 1 1 Tryd.underlying48 hi0 hz0 hz1 hz2 rfl (by decide) _ _ _ rfl (hrow.alloc _) ⟨wk.heap.size, 0, none⟩ 1 1 [.bool true] rfl rfl ?c1 ?c2 ?c3 ?c4 ?c5 ?_)
                      case c1 => exact cell_one_new _ _ _
                      case c2 => intro u hu; simp at hu; subst hu; rfl
                      case c3 => unfold maxLen; omega
                      case c4 => omega
                      case c5 => have := hBk.size; simp; omega
                      intro v' w3 hown' hgrow _
                      have hB2 : Below wq.heap.size wq w3 := (hBk.alloc hBk.size _).grown hgrow (by have := hBk.size; simp; omega) (fun j ej => (hrow.lt j ej).1)
                      have HO2 : Hid (w3.ownsRow wq.heap.size 4 1 v' ((k + 1) + 1) ((LK.rowL (D ++ [((97 : Int), yy)]) T ((k + 1) + 1)).map Value.bool)) := by
                        unfold Hid
                        rw [HRS.out, List.map_append]
                        exact hown'
                      obtain ⟨g', cap', rfl⟩ := ownsRow_succ hown'
                      clear hown' hgrow hrow
                      go_wp2
                      go_roundw
                      case rel => exact ⟨(k + 1) + 1, _, by simp, rfl, by omega, HO2.out, hB2⟩
                      case measure => simp [intOf] <;> omega
                    · have e1 : LK.one ((97 : Int), yy) z = false := by
                        have : (yy == z) = false := beq_false_of_ne fun e => hzy e.symm
                        simp [LK.one, this]
                      have e2 : ((⟨z.toArray⟩ : ByteArray).toList == sy.toList) = false := by rw [HSY.out]; exact sv_ne hzy
                      have e3 : ¬ (⟨z.toArray⟩ : ByteArray).toList = sy.toList := ne_of_beq_false e2
                      rw [e1] at HRS
                      clear e1 hzy
                      generalize (⟨z.toArray⟩ : ByteArray) = sz at ct e2 e3
                      go_wp2_with (at_builtin; refine wpList_append_own _ rfl _ _ 48 rfl wq.heap.size 4 i0 (.bool false) 1 1 Tryd.underlying48 hi0 hz0 hz1 hz2 rfl (by decide) _ _ _ rfl (hrow.alloc _) ⟨wk.heap.size, 0, none⟩ 1 1 [.bool false] rfl rfl ?c1 ?c2 ?c3 ?c4 ?c5 ?_)
                      case c1 => exact cell_one_new _ _ _
                      case c2 => intro u hu; simp at hu; subst hu; rfl
                      case c3 => unfold maxLen; omega
                      case c4 => omega
                      case c5 => have := hBk.size; simp; omega
                      intro v' w3 hown' hgrow _
                      have hB2 : Below wq.heap.size wq w3 := (hBk.alloc hBk.size _).grown hgrow (by have := hBk.size; simp; omega) (fun j ej => (hrow.lt j ej).1)
                      have HO2 : Hid (w3.ownsRow wq.heap.size 4 1 v' ((k + 1) + 1) ((LK.rowL (D ++ [((97 : Int), yy)]) T ((k + 1) + 1)).map Value.bool)) := by
                        unfold Hid
                        rw [HRS.out, List.map_append]
                        exact hown'
                      obtain ⟨g', cap', rfl⟩ := ownsRow_succ hown'
                      clear hown' hgrow hrow
                      go_wp2
                      go_roundw
                      case rel => exact ⟨(k + 1) + 1, _, by simp, rfl, by omega, HO2.out, hB2⟩
                      case measure => simp [intOf] <;> omega
              · have hktZ : ¬ (k : Int) ≤ (T.length : Int) := by omega
                obtain rfl : k = T.length + 1 := by omega
                have hbl2 : IsBl wk nv (LK.rowL (D ++ [((97 : Int), yy)]) T (T.length + 1)) := bl_of_own hkl hrow
                have HBL2 : Hid (IsBl wk nv (LK.rowL (D ++ [((97 : Int), yy)]) T (T.length + 1))) := hbl2
                obtain ⟨b3, cb3, rfl, _, _⟩ := hbl2
                have HB3 : Hid (Below w2.heap.size w2 wk) := Fr.trans HB.out hBk
                clear hrow hkl hBk
                rw [LK.rowL_len] at HBL2 ⊢
                go_wp2
                go_roundw
                case rel => exact ⟨i + 1, D ++ [((97 : Int), yy)], _, by simp, by omega, H0.out, H1.out, HBL2.out, HB3.out⟩
                case measure => simp [intOf] <;> omega
        · have hlt2Z : ¬ (i : Int) < (L.length : Int) := by omega
          rw [List.drop_eq_nil_of_le (by omega)] at hprs
          have hps : ps = [] := (congrArg Prod.snd hprs).symm
          subst hps
          have HD : Hid (LK.row D T T.length = LK.mt PR T) := by unfold Hid; rw [LK.row_end, hpr, List.append_nil]
          have ct := hct T.length _ (LK.rowL_at D T (T.length + 1) T.length (by omega))
          rw [HD.out] at ct
          have ffr : Fr w wq := (f1.trans f2).trans hB
          clear hct hprs hpr HD
          go_wp2
          go_ret
          exact ⟨rfl, ffr⟩
end Go.Proofs.YtgjgmaadogkjfaaDoor
