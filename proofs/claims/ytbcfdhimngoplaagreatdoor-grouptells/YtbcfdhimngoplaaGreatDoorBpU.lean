/-
  What the document's Some and GroupCheck answer.
-/
import Derived.Test.YtbcfdhimngoplaaGreatDoorBpH
import Derived.Test.YtbcfdhimngoplaaGreatDoorGqE
namespace Go.Proofs.YtbcfdhimngoplaaGreatDoor
open Go.ChangeShapes Go.WideShapes Go.ChangeAt Go.RowKit
set_option linter.unusedVariables false
set_option linter.unusedSimpArgs false
set_option maxRecDepth 100000
set_option maxHeartbeats 2000000
theorem someOf_any (v u : Value) (r : List VM.Vl) (cs : List Int) (w : World) (hr : IsL cdV w v r) (hc : IsL cdZ w u cs) (hin : ∀ c ∈ cs, 0 ≤ c ∧ c < (r.length : Int)) (hl : cs.length ≤ 1000) :
  Calls Tryz.prog 56 #[v, u] w fun e w' => ∃ x, e = .returned x ∧ w'.ownsRow w.heap.size 56 3 x cs.length (flat cdV (BG.pck r cs)) ∧ Fr w w' := by
 obtain ⟨j0, hj0, jz0, jz1, jz2⟩ := info_parts Tryz.infoV9
 obtain ⟨ra, rc, rfl, hrc, hrs⟩ := hr
 obtain ⟨ca, cc, rfl, hcc, hcs⟩ := hc
 have HRs := hideP hrs
 have HCs := hideP hcs
 have HIn := hideP hin
 clear hrs hcs hin
 go_enter Tryz.func56, Tryz.ntmps56
 go_wp2_with fail
 go_loopw [5, 6] (fun kv iv wr => ∃ i : Nat, iv = .int .i64 i ∧ i ≤ cs.length ∧ wr.ownsRow w.heap.size 56 3 kv i (flat cdV (BG.pck r (cs.take i))) ∧ Fr w wr) (fun _ iv _ => cs.length - (intOf iv).toNat)
 case atStart => exact ⟨0, rfl, Nat.zero_le _, World.ownsRow_nil _ _ _ _, Fr.refl _⟩
 case round =>
  obtain ⟨i, rfl, hi, hown, hfr⟩ := hrel
  obtain ⟨fa, fc, rfl⟩ := own_slice hown
  by_cases hlt : i < cs.length
  ·
   have hlt' : (i : Int) < (cs.length : Int) := by omega
   obtain ⟨b, o, rfl, hb, hat⟩ : ∃ b o, ca = some ⟨b, o, none⟩ ∧ b < w.heap.size ∧ At cdZ w b o cs := by
    rcases HCs.out with h | h
    · rw [h] at hlt; simp at hlt
    · exact h
   have c0 := (hat.fr hb hfr).zz i hlt
   have hci := HIn.out cs[i] (List.getElem_mem hlt)
   have hst : BG.pck r (cs.take (i + 1)) = BG.pck r (cs.take i) ++ [r.getD cs[i].toNat BG.nulV] := by
    unfold BG.pck
    rw [List.take_succ_eq_append_getElem hlt, List.map_append]
    rfl
   generalize cs[i] = col at *
   obtain ⟨C, rfl⟩ : ∃ C : Nat, col = (C : Int) := ⟨col.toNat, by omega⟩
   have hCr : C < r.length := by omega
   obtain ⟨rb, ro, rfl, hrb, hrat⟩ : ∃ b o, ra = some ⟨b, o, none⟩ ∧ b < w.heap.size ∧ At cdV w b o r := by
    rcases HRs.out with h | h
    · rw [h] at hCr; simp at hCr
    · exact h
   obtain ⟨d0, d1, d2⟩ := (hrat.fr hrb hfr).v3 C hCr
   have hgd : r.getD ((C : Int)).toNat BG.nulV = r[C] := by rw [Int.toNat_natCast, List.getD_eq_getElem?_getD, List.getElem?_eq_getElem hCr]; rfl
   rw [hgd] at hst
   generalize r[C] = y at *
   obtain ⟨yk, yn, ys⟩ := y
   simp only at d0 d1 d2
   have hC' : (C : Int) < (r.length : Int) := by omega
   have HSt := hideP hst
   have HO := hideP (own_fr hown ((Fr.refl wr).alloc (.cells #[.int .i64 yk, .int .i64 yn, .string ys] 56)))
   have HF := hideP hfr
   have HLit := hideP (lit_one cdV wr ⟨yk, yn, ys⟩ 56)
   have hsz := hfr.size
   clear hst hown hfr hat hrat hgd hci
   go_wp2_with (at_builtin; refine wpList_append_L cdV rfl _ _ 31 56 j0 _ 32 rfl Tryz.underlying31 hj0 jz0 jz1 jz2 rfl w.heap.size _ i _ rfl HO.out (.slice (some ⟨wr.heap.size, 0, none⟩) 1 1) [⟨yk, yn, ys⟩] rfl HLit.out ?c3 ?c4 ?c5 ?_)
   case c3 => unfold maxLen; simp <;> omega
   case c4 => simp <;> omega
   case c5 => simp <;> omega
   intro v2 wB own2 gr2
   have HN2 := hideP own2
   have FB := hideP (show Fr w wB from Below.grown (HF.out.alloc _) gr2 (by simp <;> omega) (own_base HO.out))
   clear own2 gr2
   go_wp2_with fail
   go_roundw
   case rel => exact ⟨i + 1, by go_num, by omega, by rw [HSt.out]; exact HN2.out, FB.out⟩
   case measure => simp [intOf]; omega
  ·
   obtain rfl : i = cs.length := by omega
   rw [List.take_length] at hown
   have HO := hideP hown
   have HF := hideP hfr
   clear hown hfr
   go_wp2_with fail
   go_ret
   exact ⟨_, rfl, HO.out, HF.out⟩
namespace BG
def grpE (ls : List (List VM.Vl)) (cs : List Int) (gs : List Ag) : Nat := if chk ls ≠ 0 then chk ls else gE ls cs gs
end BG
theorem groupCheck_any (v cv gv : Value) (ls : List (List VM.Vl)) (cs : List Int) (gs : List BG.Ag) (w : World) (h : IsRR w v ls) (hc : IsL cdZ w cv cs) (hg : IsL cdG w gv gs) (hL : ls.length ≤ 9223372036854775806) (hR : ∀ r ∈ ls, r.length ≤ 9223372036854775806) (hC : cs.length ≤ 4611686018427387900) (hG : gs.length ≤ 4611686018427387900) :
  Calls Tryz.prog 55 #[v, cv, gv] w fun e w' => e = .returned (.int .i64 ((BG.grpE ls cs gs : Nat) : Int)) ∧ Fr w w' := by
 have HK : Hid (BG.grpE ls cs gs = if BG.chk ls ≠ 0 then BG.chk ls else if 8 < cs.length + gs.length then 2 else if gs.all BG.kindOk = false then 7 else if cs.all (BG.hasC ls) = false then 3 else if gs.all (BG.colOk ls) = false then 3 else 0) := rfl
 have HCk := hideP (rowsCheck_any v ls w h hL hR)
 have HW := hideP (fun W (f : Fr w W) => rwidth_any v ls W (h.fr f))
 have HHs := hideP (fun (h0 : 0 < ls.length) c => BG.hasC_some h0 c)
 have HH0 := hideP (fun (h0 : ls.length = 0) => show cs.all (BG.hasC ls) = true ∧ gs.all (BG.colOk ls) = true by
  constructor
  ·
   rw [List.all_eq_true]
   intro k _
   unfold BG.hasC
   simp [h0]
  ·
   rw [List.all_eq_true]
   intro k _
   unfold BG.colOk BG.hasC
   simp [h0])
 obtain ⟨a, c, rfl⟩ := h.slice
 obtain ⟨ca, cc, rfl, hcc, hcs⟩ := hc
 obtain ⟨ga, gc, rfl, hgc, hgs⟩ := hg
 have HCs := hideP hcs
 have HGs := hideP hgs
 clear hcs hgs h hR
 generalize BG.grpE ls cs gs = R at *
 by_cases h0 : BG.chk ls = 0
 case neg =>
  replace HK := hideP (HK.out.trans (if_pos h0))
  generalize BG.chk ls = z at *
  have e1 : ((z : Int) != 0) = true := by simp; omega
  have e2 : ¬ ((z : Int) = 0) := by omega
  clear h0
  go_enter Tryz.func55, Tryz.ntmps55
  go_wp2_with fail
  refine HCk.out.mono ?_
  rintro _ w1 ⟨rfl, f1⟩
  have F1 := hideP f1
  clear f1 HCk
  go_wp2_with fail
  go_ret
  exact ⟨by rw [HK.out]; rfl, F1.out⟩
 replace HK := hideP (HK.out.trans (if_neg (by simpa using h0)))
 rw [h0] at HCk
 clear h0
 by_cases h8 : 8 < cs.length + gs.length
 ·
  have HZ := hideP (HK.out.trans (if_pos h8))
  have h8' : (8 : Int) < (cs.length : Int) + (gs.length : Int) := by omega
  go_enter Tryz.func55, Tryz.ntmps55
  go_wp2_with fail
  refine HCk.out.mono ?_
  rintro _ w1 ⟨rfl, f1⟩
  have F1 := hideP f1
  clear f1 HCk
  go_wp2_with fail
  go_ret
  exact ⟨by rw [HZ.out]; rfl, F1.out⟩
 replace HK := hideP (HK.out.trans (if_neg h8))
 have h8' : ¬ (8 : Int) < (cs.length : Int) + (gs.length : Int) := by omega
 have hc8 : cs.length ≤ 8 := by omega
 have hg8 : gs.length ≤ 8 := by omega
 clear h8
 go_enter Tryz.func55, Tryz.ntmps55
 go_wp2_with fail
 refine HCk.out.mono ?_
 rintro _ w1 ⟨rfl, f1⟩
 have F1 := hideP f1
 clear f1 HCk
 go_wp2_with fail
 clear h8'
 go_loopw [8] (fun iv wr => ∃ i : Nat, iv = .int .i64 i ∧ i ≤ gs.length ∧ gs.all BG.kindOk = (gs.drop i).all BG.kindOk ∧ Fr w wr) (fun iv _ => gs.length - (intOf iv).toNat)
 case atStart => exact ⟨0, rfl, Nat.zero_le _, rfl, F1.out⟩
 case round =>
  obtain ⟨i, rfl, hi, hal, hfr⟩ := hrel
  by_cases hlt : i < gs.length
  ·
   have hlt' : (i : Int) < (gs.length : Int) := by omega
   obtain ⟨b, o, rfl, hb, hat⟩ : ∃ b o, ga = some ⟨b, o, none⟩ ∧ b < w.heap.size ∧ At cdG w b o gs := by
    rcases HGs.out with h | h
    · rw [h] at hlt; simp at hlt
    · exact h
   obtain ⟨d0, d1⟩ := (hat.fr hb hfr).g2 i hlt
   rw [BG.all_drop' hlt] at hal
   generalize gs[i] = g at *
   obtain ⟨kind, col⟩ := g
   simp only at d0 d1
   have HAl := hideP hal
   have HFA := hideP hfr
   clear hal hat hfr d1
   by_cases hk : 1 ≤ kind ∧ kind ≤ 4
   ·
    have HA2 := hideP (show gs.all BG.kindOk = (gs.drop (i + 1)).all BG.kindOk from HAl.out.trans (by simp [BG.kindOk, hk]))
    have k1 : ¬ kind < 1 := by omega
    have k2 : ¬ 4 < kind := by omega
    obtain ⟨hk3, hk4⟩ := hk
    go_wp2_with fail
    go_roundw
    case rel => exact ⟨i + 1, by go_num, by omega, HA2.out, HFA.out⟩
    case measure => simp [intOf]; omega
   ·
    have HZ := hideP (HK.out.trans (if_pos (HAl.out.trans (by simp [BG.kindOk]; omega))))
    by_cases k1 : kind < 1
    ·
     go_wp2_with fail
     go_ret
     exact ⟨by rw [HZ.out]; rfl, HFA.out⟩
    ·
     have k2 : 4 < kind := by omega
     go_wp2_with fail
     go_ret
     exact ⟨by rw [HZ.out]; rfl, HFA.out⟩
  obtain rfl : i = gs.length := by omega
  have hT : gs.all BG.kindOk = true := by rw [hal, List.drop_length]; rfl
  replace HK := hideP (HK.out.trans (if_neg (by rw [hT]; decide)))
  have HF := hideP hfr
  clear hal hT hfr F1
  by_cases hn : 0 < ls.length
  case neg =>
   have hn' : ¬ ((0 : Int) < (ls.length : Int)) := by omega
   have h0 : ls.length = 0 := by omega
   have HZ := hideP (HK.out.trans ((if_neg (by rw [(HH0.out h0).1]; decide)).trans (if_neg (by rw [(HH0.out h0).2]; decide))))
   clear hn HHs HH0 HK
   go_wp2_with fail
   go_loopw [9] (fun iv W => iv = .int .i64 0 ∧ Fr w W) (fun _ _ => 0)
   case atStart => exact ⟨rfl, HF.out⟩
   case round =>
    clear HF
    obtain ⟨rfl, hfr⟩ := hrel
    have HF := hideP hfr
    clear hfr
    rcases (show (0 : Int) < (cs.length : Int) ∨ ¬ (0 : Int) < (cs.length : Int) by omega) with hq | hq
    all_goals (
     go_wp2_with fail
     go_loopw [10] (fun iv W => iv = .int .i64 0 ∧ Fr w W) (fun _ _ => 0)
     case atStart => exact ⟨rfl, HF.out⟩
     case round =>
      clear HF
      obtain ⟨rfl, hfr⟩ := hrel
      have HF := hideP hfr
      clear hfr
      rcases (show (0 : Int) < (gs.length : Int) ∨ ¬ (0 : Int) < (gs.length : Int) by omega) with hp | hp
      all_goals (
       go_wp2_with fail
       go_ret
       exact ⟨by rw [HZ.out]; rfl, HF.out⟩))
  have hn' : (0 : Int) < (ls.length : Int) := by omega
  obtain ⟨W9, hW9⟩ : ∃ x, BG.wd ls = x := ⟨_, rfl⟩
  rw [hW9] at HW
  have HHq := hideP (fun c => HHs.out hn c)
  rw [hW9] at HHq
  clear hn HHs HH0 hW9
  go_wp2_with fail
  obtain ⟨w0, hw0⟩ : ∃ x, x = wr := ⟨_, rfl⟩
  go_loopw [9] (fun iv W => ∃ i : Nat, iv = .int .i64 i ∧ i ≤ cs.length ∧ cs.all (BG.hasC ls) = (cs.drop i).all (BG.hasC ls) ∧ Fr w W) (fun iv _ => cs.length - (intOf iv).toNat)
  case atStart => exact ⟨0, rfl, Nat.zero_le _, rfl, HF.out⟩
  case round =>
   clear hw0 HF
   obtain ⟨i, rfl, hi, hal, hfr⟩ := hrel
   by_cases hlt : i < cs.length
   ·
    have hlt' : (i : Int) < (cs.length : Int) := by omega
    obtain ⟨b, o, rfl, hb, hat⟩ : ∃ b o, ca = some ⟨b, o, none⟩ ∧ b < w.heap.size ∧ At cdZ w b o cs := by
     rcases HCs.out with h | h
     · rw [h] at hlt; simp at hlt
     · exact h
    have d0 := (hat.fr hb hfr).zz i hlt
    rw [BG.all_drop' hlt, HHq.out] at hal
    generalize cs[i] = col at *
    have HAl := hideP hal
    have HF2 := hideP hfr
    have HD0 := hideP d0
    clear hal hat hfr
    have hz := Fr.drew (Fr.refl wr)
    by_cases hc : col < 0
    ·
     have HZ := hideP (HK.out.trans (if_pos (HAl.out.trans (by rw [decide_eq_true hc]; rfl))))
     go_wp2_with fail
     go_region
     all_goals (
      go_wp2_with fail
      go_ret
      exact ⟨by rw [HZ.out]; rfl, Fr.drew HF2.out⟩)
    have hc2 : (col < 0) = False := by simp; omega
    have HCol := hideP hc
    clear hc
    go_wp2_with fail
    clear d0
    go_region_held3 (fun W => W.cell? ⟨b, o + i, none⟩ = some (.int .i64 col)) (first | exact HD0.out | exact (Below.cell hz (World.block_lt_of_cell? _ _ HD0.out)).trans HD0.out | exact (Below.cell hf9 (World.block_lt_of_cell? _ _ HD0.out)).trans HD0.out) (first
     | (go_at_call 51; refine (HW.out _ (HF2.out.trans hz)).mono ?_; rintro _ w3 ⟨rfl, f3⟩; have hf9 := hz.trans f3; clear f3))
    all_goals (
     have F9 := hideP (HF2.out.trans hf9)
     clear hf9 hz hc2
     by_cases hw : (W9 : Int) ≤ col
     ·
      have HZ := hideP (HK.out.trans (if_pos (HAl.out.trans (by have hc := HCol.out; rw [decide_eq_false (show ¬ col < 0 by omega), decide_eq_true hw]; rfl))))
      go_wp2_with fail
      go_ret
      exact ⟨by rw [HZ.out]; rfl, F9.out⟩
     ·
      have HA := hideP (show cs.all (BG.hasC ls) = (cs.drop (i + 1)).all (BG.hasC ls) from HAl.out.trans (by have hc := HCol.out; rw [decide_eq_false (show ¬ col < 0 by omega), decide_eq_false hw]; rfl))
      have hw2 : col < (W9 : Int) := by omega
      go_wp2_with fail
      go_roundw
      case rel => exact ⟨i + 1, by go_num, by omega, HA.out, F9.out⟩
      case measure => simp [intOf]; omega)
   obtain rfl : i = cs.length := by omega
   have hT : cs.all (BG.hasC ls) = true := by rw [hal, List.drop_length]; rfl
   replace HK := hideP (HK.out.trans (if_neg (by rw [hT]; decide)))
   have HF2 := hideP hfr
   clear hal hT hfr
   go_wp2_with fail
   obtain ⟨w1, hw1⟩ : ∃ x, x = wr := ⟨_, rfl⟩
   go_loopw [10] (fun iv W => ∃ i : Nat, iv = .int .i64 i ∧ i ≤ gs.length ∧ gs.all (BG.colOk ls) = (gs.drop i).all (BG.colOk ls) ∧ Fr w W) (fun iv _ => gs.length - (intOf iv).toNat)
   case atStart => exact ⟨0, rfl, Nat.zero_le _, rfl, HF2.out⟩
   case round =>
    clear hw1 HF2
    obtain ⟨i, rfl, hi, hal, hfr⟩ := hrel
    by_cases hlt : i < gs.length
    ·
     have hlt' : (i : Int) < (gs.length : Int) := by omega
     obtain ⟨b, o, rfl, hb, hat⟩ : ∃ b o, ga = some ⟨b, o, none⟩ ∧ b < w.heap.size ∧ At cdG w b o gs := by
      rcases HGs.out with h | h
      · rw [h] at hlt; simp at hlt
      · exact h
     obtain ⟨k0, d0⟩ := (hat.fr hb hfr).g2 i hlt
     rw [BG.all_drop' hlt] at hal
     generalize gs[i] = g at *
     obtain ⟨kind, col⟩ := g
     simp only at d0 k0
     have hco : BG.colOk ls ⟨kind, col⟩ = (BG.hasC ls col || decide (kind = 1 ∧ col = -1)) := rfl
     rw [hco, HHq.out] at hal
     have HAl := hideP hal
     have HF2 := hideP hfr
     have HD0 := hideP d0
     clear hal hat hfr hco
     by_cases hka : kind = 1 ∧ col = -1
     ·
      have HA2 := hideP (show gs.all (BG.colOk ls) = (gs.drop (i + 1)).all (BG.colOk ls) from HAl.out.trans (by simp [hka]))
      obtain ⟨rfl, rfl⟩ := hka
      go_wp2_with fail
      go_roundw
      case rel => exact ⟨i + 1, by go_num, by omega, HA2.out, HF2.out⟩
      case measure => simp [intOf]; omega
     have HNk := hideP hka
     rcases (show (kind = 1 ∧ (col == -1) = false) ∨ (kind == 1) = false by
      by_cases h1 : kind = 1
      · left; exact ⟨h1, by simp; exact fun h2 => hka ⟨h1, h2⟩⟩
      · right; simpa using h1) with ⟨k1, k2⟩ | k1
     all_goals (
      try have k3 : ¬ col = -1 := by simpa using k2
      try have k4 : ¬ kind = 1 := by simpa using k1
      try subst k1
      clear hka
      have hz := Fr.drew (Fr.refl wr)
      by_cases hc : col < 0
      ·
       have HZ := hideP (HK.out.trans (if_pos (HAl.out.trans (by rw [decide_eq_true hc, decide_eq_false HNk.out]; rfl))))
       go_wp2_with fail
       go_region
       all_goals (
        go_wp2_with fail
        go_ret
        exact ⟨by rw [HZ.out]; rfl, Fr.drew HF2.out⟩)
      have hc2 : (col < 0) = False := by simp; omega
      have HCol := hideP hc
      clear hc
      go_wp2_with fail
      clear d0
      go_region_held3 (fun W => W.cell? ⟨b, o + i * 2 + 1, none⟩ = some (.int .i64 col)) (first | exact HD0.out | exact (Below.cell hz (World.block_lt_of_cell? _ _ HD0.out)).trans HD0.out | exact (Below.cell hf9 (World.block_lt_of_cell? _ _ HD0.out)).trans HD0.out) (first
       | (go_at_call 51; refine (HW.out _ (HF2.out.trans hz)).mono ?_; rintro _ w3 ⟨rfl, f3⟩; have hf9 := hz.trans f3; clear f3))
      all_goals (
       have F9 := hideP (HF2.out.trans hf9)
       clear hf9 hz hc2
       by_cases hw : (W9 : Int) ≤ col
       ·
        have HZ := hideP (HK.out.trans (if_pos (HAl.out.trans (by have hc := HCol.out; rw [decide_eq_false (show ¬ col < 0 by omega), decide_eq_true hw, decide_eq_false HNk.out]; rfl))))
        go_wp2_with fail
        go_ret
        exact ⟨by rw [HZ.out]; rfl, F9.out⟩
       ·
        have HA := hideP (show gs.all (BG.colOk ls) = (gs.drop (i + 1)).all (BG.colOk ls) from HAl.out.trans (by have hc := HCol.out; rw [decide_eq_false (show ¬ col < 0 by omega), decide_eq_false hw]; rfl))
        have hw2 : col < (W9 : Int) := by omega
        go_wp2_with fail
        go_roundw
        case rel => exact ⟨i + 1, by go_num, by omega, HA.out, F9.out⟩
        case measure => simp [intOf]; omega))
    obtain rfl : i = gs.length := by omega
    have hT : gs.all (BG.colOk ls) = true := by rw [hal, List.drop_length]; rfl
    have HZ := hideP (HK.out.trans (if_neg (by rw [hT]; decide)))
    have HF3 := hideP hfr
    clear hal hT hfr
    go_wp2_with fail
    go_ret
    exact ⟨by rw [HZ.out]; rfl, HF3.out⟩
end Go.Proofs.YtbcfdhimngoplaaGreatDoor
