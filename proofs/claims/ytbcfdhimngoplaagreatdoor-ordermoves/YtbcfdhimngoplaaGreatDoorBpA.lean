/-
  Rows that came in, in a row of the call's own; what the document's DistinctOf and LimitOf answer.
-/
import Derived.Test.YtbcfdhimngoplaaGreatDoorGqG
import Derived.Test.YtbcfdhimngoplaaGreatDoorGqF
import Derived.Test.YtbcfdhimngoplaaGreatDoorBpO
namespace Go.Proofs.YtbcfdhimngoplaaGreatDoor
open Go.ChangeShapes Go.WideShapes Go.ChangeAt Go.RowKit
set_option linter.unusedVariables false
set_option linter.unusedSimpArgs false
set_option maxRecDepth 100000
set_option maxHeartbeats 2000000
def PR (B : Nat) (w0 w : World) (v : Value) (ks : List (List VM.Vl)) : Prop := ∃ qs : List Sq, w.ownsRow B 31 1 v ks.length (flat cdS qs) ∧ qs.length = ks.length ∧ ∀ i (h1 : i < qs.length) (h2 : i < ks.length), IsL cdV w0 qs[i].v ks[i]
theorem PR.nil (B : Nat) (w0 w : World) : PR B w0 w (.slice none 0 0) [] := ⟨[], World.ownsRow_nil _ _ _ _, rfl, fun i h => by simp at h⟩
theorem PR.fr {B : Nat} {w0 w w' : World} {v : Value} {ks : List (List VM.Vl)} (h : PR B w0 w v ks) (f : Fr w w') : PR B w0 w' v ks := by
 obtain ⟨qs, h1, h2, h3⟩ := h
 exact ⟨qs, own_fr h1 f, h2, h3⟩
theorem PR.slice {B : Nat} {w0 w : World} {v : Value} {ks : List (List VM.Vl)} (h : PR B w0 w v ks) : ∃ a c, v = .slice a ks.length c := by
 obtain ⟨qs, h1, _⟩ := h
 exact own_slice h1
theorem PR.rows {B : Nat} {w0 w : World} {v : Value} {ks : List (List VM.Vl)} (h : PR B w0 w v ks) (f : Fr w0 w) : IsRR w v ks := by
 obtain ⟨qs, h1, h2, h3⟩ := h
 exact ⟨qs, isL_own (E := cdS) (l := qs) (by rw [h2]; exact h1), h2, fun i a b => (h3 i a b).fr f⟩
theorem PR.snoc {B : Nat} {w0 w' : World} {v' : Value} {ks : List (List VM.Vl)} {qs : List Sq} {q : Sq} {l : List VM.Vl} (hlen : qs.length = ks.length) (hall : ∀ i (h1 : i < qs.length) (h2 : i < ks.length), IsL cdV w0 qs[i].v ks[i])
  (hq : IsL cdV w0 q.v l) (ho : w'.ownsRow B 31 1 v' (ks.length + 1) (flat cdS (qs ++ [q]))) : PR B w0 w' v' (ks ++ [l]) := by
 refine ⟨qs ++ [q], by rw [List.length_append]; exact ho, by simp [hlen], ?_⟩
 intro i h1 h2
 by_cases hi : i < qs.length
 ·
  have e1 : (qs ++ [q])[i] = qs[i] := List.getElem_append_left hi
  have e2 : (ks ++ [l])[i] = ks[i] := List.getElem_append_left (by omega)
  rw [e1, e2]
  exact hall i hi (by omega)
 ·
  have hi2 : i = qs.length := by rw [List.length_append] at h1; simp at h1; omega
  have e1 : (qs ++ [q])[i] = q := by simp [hi2]
  have e2 : (ks ++ [l])[i] = l := by rw [hlen] at hi2; simp [hi2]
  rw [e1, e2]
  exact hq
def DA (w0 : World) (x : Except Nat (List (List VM.Vl))) (e : Ending) (w' : World) : Prop := match x with
 | .error c => e = .returned (.tuple #[.slice none 0 0, .int .i64 (c : Int)])
 | .ok ls => ∃ u, e = .returned (.tuple #[u, .int .i64 0]) ∧ PR w0.heap.size w0 w' u ls
theorem da_out {w0 : World} {x : Except Nat (List (List VM.Vl))} {e : Ending} {w' : World} (h : DA w0 x e w') : ∃ a c, e = .returned (.tuple #[.slice a (outR x).length c, .int .i64 ((erR x : Nat) : Int)]) ∧ PR w0.heap.size w0 w' (.slice a (outR x).length c) (outR x) := by
 cases x with
 | error c => exact ⟨none, 0, h, PR.nil _ _ _⟩
 | ok l =>
  obtain ⟨u, h1, h2⟩ := h
  obtain ⟨a, c, rfl⟩ := h2.slice
  exact ⟨a, c, h1, h2⟩
namespace BG
theorem dist_step {ls : List (List VM.Vl)} {i : Nat} (h : i < ls.length) : BM.dist (ls.take (i + 1)) = BM.dist (ls.take i) ++ if oft (ls.take i) ls[i] = 0 then [ls[i]] else [] := by
 rw [List.take_succ_eq_append_getElem h, (BM.dist_parts (ls.take i) [ls[i]]).2]
 congr 1
 simp only [BM.dst]
 by_cases hm : ls[i] ∈ ls.take i
 ·
  have : oft (ls.take i) ls[i] ≠ 0 := by
   intro h0
   unfold oft at h0
   rw [List.countP_eq_zero] at h0
   exact h0 _ hm (by simp)
  rw [if_pos hm, if_neg this]
 ·
  have : oft (ls.take i) ls[i] = 0 := by
   unfold oft
   rw [List.countP_eq_zero]
   intro a ha h0
   simp only [decide_eq_true_eq] at h0
   exact hm (h0 ▸ ha)
  rw [if_neg hm, if_pos this]
theorem lim_step {α : Type} {ls : List α} {i : Nat} (h : i < ls.length) (s m : Nat) : ((ls.take (i + 1)).drop s).take m = ((ls.take i).drop s).take m ++ if s ≤ i ∧ (((ls.take i).drop s).take m).length < m then [ls[i]] else [] := by
 have hl : (ls.take i).length = i := by rw [List.length_take]; omega
 rw [List.take_succ_eq_append_getElem h]
 by_cases hs : s ≤ i
 ·
  rw [List.drop_append_of_le_length (by omega), List.take_append]
  congr 1
  have hd : ((ls.take i).drop s).length = i - s := by rw [List.length_drop, hl]
  rw [List.length_take, hd]
  by_cases hm : i - s < m
  · rw [if_pos ⟨hs, by omega⟩, List.take_of_length_le (by simp; omega)]
  · rw [if_neg (by omega), show m - (i - s) = 0 by omega, List.take_zero]
 ·
  rw [if_neg (fun h => hs h.1), List.drop_of_length_le (by rw [List.length_append, hl]; simp; omega), List.drop_of_length_le (by omega)]
  simp
end BG
theorem distinctOf_any (v : Value) (ls : List (List VM.Vl)) (w : World) (h : IsRR w v ls) (hL : ls.length ≤ 9223372036854775806) (hR : ∀ r ∈ ls, r.length ≤ 9223372036854775806) :
  Calls Tryz.prog 18 #[v] w fun e w' => DA w (BG.dst ls) e w' ∧ Fr w w' := by
 have HK : Hid (BG.dst ls = if BG.chk ls ≠ 0 then .error (BG.chk ls) else .ok (BM.dist ls)) := BG.dst_dist
 have HCk := hideP (rowsCheck_any v ls w h hL hR)
 have HI := hideP h
 have HRr := hideP hR
 have HRl := hideP (fun (h0 : BG.chk ls = 0) => BG.chk_all h0)
 obtain ⟨a, c, rfl⟩ := h.slice
 obtain ⟨qs, hq, _, hc, hcell, hrow⟩ := h.at
 have HCe := hideP hcell
 have HRo := hideP hrow
 clear hcell hrow h hR hL
 obtain ⟨i0, hi0, hz0, hz1, hz2⟩ := info_parts Tryz.infoVs9
 generalize BG.dst ls = R at *
 by_cases h0 : BG.chk ls = 0
 case neg =>
  replace HK := hideP (HK.out.trans (if_pos h0))
  generalize BG.chk ls = z at *
  have e1 : ((z : Int) != 0) = true := by simp; omega
  have e2 : ¬ ((z : Int) = 0) := by omega
  go_enter Tryz.func18, Tryz.ntmps18
  go_wp2_with fail
  refine HCk.out.mono ?_
  rintro _ w1 ⟨rfl, f1⟩
  have F1 := hideP f1
  clear f1 HCk
  go_wp2_with fail
  go_ret2
  exact ⟨by rw [HK.out]; rfl, F1.out⟩
 replace HK := hideP (HK.out.trans (if_neg (by simpa using h0)))
 have h40 := (HRl.out h0).1
 have HCc := hideP (show ls.length ≤ c from hc)
 rw [h0] at HCk
 clear HRl h0 hc
 go_enter Tryz.func18, Tryz.ntmps18
 go_wp2_with fail
 refine HCk.out.mono ?_
 rintro _ w1 ⟨rfl, f1⟩
 have F1 := hideP f1
 clear f1 HCk
 go_wp2_with fail
 go_loopw [5, 6] (fun kv iv wr => ∃ i : Nat, iv = .int .i64 i ∧ i ≤ ls.length ∧ PR w.heap.size w wr kv (BM.dist (ls.take i)) ∧ Fr w wr) (fun _ iv _ => ls.length - (intOf iv).toNat)
 case atStart => exact ⟨0, rfl, Nat.zero_le _, PR.nil _ _ _, F1.out⟩
 case round =>
  obtain ⟨i, rfl, hi, hO, hfr⟩ := hrel
  have hkl : (BM.dist (ls.take i)).length ≤ i := Nat.le_trans (BG.dist_len _) (List.length_take_le _ _)
  by_cases hlt : i < ls.length
  ·
   have hlt' : (i : Int) < (ls.length : Int) := by omega
   have hic : (i : Int) ≤ (c : Int) := by have := HCc.out; omega
   have hst := BG.dist_step hlt
   obtain ⟨b, o, rfl, hbb, c0⟩ := HCe.out i (by omega)
   obtain ⟨h1, h2⟩ := HRo.out i (by omega) hlt
   have hof := fun W (f : Fr w W) => howOften_any _ _ (ls.take i) ls[i] W (isRR_head (HI.out.fr f) i (by omega)) (h1.fr f) (by rw [List.length_take]; omega) (fun r hr => HRr.out r (List.mem_of_mem_take hr))
   have hrw := h1
   have hol := BG.oft_le (ls.take i) ls[i]
   have HOl := hideP hol
   generalize ls[i] = r at *
   generalize BG.oft (ls.take i) r = T at *
   obtain ⟨ks, hks⟩ : ∃ ks, BM.dist (ls.take i) = ks := ⟨_, rfl⟩
   rw [hks] at hO hst hkl
   have HSt := hideP hst
   obtain ⟨q, hqq⟩ : ∃ q, (qs[i]'(by omega)) = q := ⟨_, rfl⟩
   rw [hqq] at c0 hof hrw
   obtain ⟨qa, qn, qc⟩ := q
   simp only [Sq.v] at c0 hof hrw
   have HRw := hideP hrw
   have HOf := hideP hof
   have HO := hideP hO
   have HF := hideP hfr
   have HC0 := hideP c0
   obtain ⟨ka, kc, rfl⟩ := hO.slice
   have d0 := (Below.cell hfr (World.block_lt_of_cell? _ _ c0)).trans c0
   have HD0 := hideP d0
   have hz := Fr.drew (Fr.refl wr)
   clear hst hof hO hfr hrw c0 h1 h2 hqq hks hol
   go_upto_region 8 with fail
   go_region_held3 (fun W => W.cell? ⟨b, o + i, none⟩ = some (.slice qa qn qc)) (first | exact HD0.out | exact (Below.cell hz (World.block_lt_of_cell? _ _ HD0.out)).trans HD0.out | exact (Below.cell hf9 (World.block_lt_of_cell? _ _ HD0.out)).trans HD0.out) (first
    | (go_at_call 42; refine (HOf.out _ (HF.out.trans hz)).mono ?_; rintro _ w3 ⟨rfl, f3⟩; have hf9 := hz.trans f3; clear f3))
   all_goals (
    have F9 := hideP (HF.out.trans hf9)
    have HO9 := hideP (HO.out.fr hf9)
    have d0 := (Below.cell hf9 (World.block_lt_of_cell? _ _ HD0.out)).trans HD0.out
    clear hf9 hz
    by_cases hT : T = 0
    ·
     subst hT
     have HS2 := hideP (show BM.dist (ls.take (i + 1)) = ks ++ [r] by rw [HSt.out, if_pos rfl])
     obtain ⟨w9, hw9⟩ : ∃ x, x = w3 := ⟨_, rfl⟩
     obtain ⟨ps, p1, p2, p3⟩ := HO9.out
     have fA : Fr w9 (w9.alloc (.cells #[.slice qa qn qc] 31)) := (Fr.refl _).alloc _
     rw [hw9] at fA
     have HP1 := hideP (own_fr p1 fA)
     have HP2 := hideP p2
     have HP3 := hideP p3
     have FA := hideP (F9.out.trans fA)
     have HLit := hideP (lit_one cdS w3 ⟨qa, qn, qc⟩ 31)
     have hsz : w.heap.size ≤ w3.heap.size := F9.out.size
     clear p1 p2 p3 fA hw9 w9
     go_wp2_with (at_builtin; refine wpList_append_L cdS rfl _ _ 22 31 i0 _ 24 rfl Tryz.underlying22 hi0 hz0 hz1 hz2 rfl w.heap.size _ ks.length _ rfl HP1.out (.slice (some ⟨w3.heap.size, 0, none⟩) 1 1) [⟨qa, qn, qc⟩] rfl HLit.out ?c3 ?c4 ?c5 ?_)
     case c3 => (unfold maxLen; first | omega | (simp <;> omega))
     case c4 => (first | omega | (simp <;> omega))
     case c5 => (first | omega | (simp <;> omega))
     intro v2 wB own2 gr2
     have HN2 := hideP (PR.snoc (q := ⟨qa, qn, qc⟩) HP2.out HP3.out HRw.out own2)
     have FB := hideP (show Fr w wB from Below.grown FA.out gr2 (by simp <;> omega) (own_base HP1.out))
     clear own2 gr2
     go_wp2_with fail
     go_roundw
     case rel => exact ⟨i + 1, by go_num, by omega, by rw [HS2.out]; exact HN2.out, FB.out⟩
     case measure => simp [intOf]; omega
    ·
     have HS2 := hideP (show BM.dist (ls.take (i + 1)) = ks by rw [HSt.out, if_neg hT, List.append_nil])
     have e1 : ((T : Int) == 0) = false := by simp; omega
     have e2 : ¬ ((T : Int) = 0) := by omega
     go_wp2_with fail
     go_roundw
     case rel => exact ⟨i + 1, by go_num, by omega, by rw [HS2.out]; exact HO9.out, F9.out⟩
     case measure => simp [intOf]; omega)
  ·
   obtain rfl : i = ls.length := by omega
   rw [List.take_length] at hO
   obtain ⟨ka, kc, rfl⟩ := hO.slice
   have HO := hideP hO
   have HF := hideP hfr
   clear hO hfr
   go_wp2_with fail
   go_ret2
   exact ⟨by rw [HK.out]; exact ⟨_, rfl, HO.out⟩, HF.out⟩
theorem limitOf_any (v : Value) (ls : List (List VM.Vl)) (skip most : Int) (w : World) (h : IsRR w v ls) (hL : ls.length ≤ 9223372036854775806) (hR : ∀ r ∈ ls, r.length ≤ 9223372036854775806) :
  Calls Tryz.prog 20 #[v, .int .i64 skip, .int .i64 most] w fun e w' => DA w (BG.lim ls skip most) e w' ∧ Fr w w' := by
 have HK : Hid (BG.lim ls skip most = if BG.chk ls ≠ 0 then .error (BG.chk ls) else if skip < 0 ∨ most < 0 then .error 3 else .ok ((ls.drop skip.toNat).take most.toNat)) := rfl
 have HCk := hideP (rowsCheck_any v ls w h hL hR)
 have HRl := hideP (fun (h0 : BG.chk ls = 0) => BG.chk_all h0)
 obtain ⟨a, c, rfl⟩ := h.slice
 obtain ⟨qs, hq, _, hc, hcell, hrow⟩ := h.at
 have HCe := hideP hcell
 have HRo := hideP hrow
 clear hcell hrow h hR hL
 obtain ⟨i0, hi0, hz0, hz1, hz2⟩ := info_parts Tryz.infoVs9
 generalize BG.lim ls skip most = R at *
 by_cases h0 : BG.chk ls = 0
 case neg =>
  replace HK := hideP (HK.out.trans (if_pos h0))
  generalize BG.chk ls = z at *
  have e1 : ((z : Int) != 0) = true := by simp; omega
  have e3 : ((z : Int) == 0) = false := by simp; omega
  have e2 : ¬ ((z : Int) = 0) := by omega
  go_enter Tryz.func20, Tryz.ntmps20
  go_wp2_with fail
  refine HCk.out.mono ?_
  rintro _ w1 ⟨rfl, f1⟩
  have F1 := hideP f1
  clear f1 HCk
  go_wp2_with fail
  go_ret2
  exact ⟨by rw [HK.out]; rfl, F1.out⟩
 replace HK := hideP (HK.out.trans (if_neg (by simpa using h0)))
 have h40 := (HRl.out h0).1
 rw [h0] at HCk
 clear HRl h0 hc
 by_cases hneg : skip < 0 ∨ most < 0
 ·
  replace HK := hideP (HK.out.trans (if_pos hneg))
  by_cases hs : skip < 0
  ·
   go_enter Tryz.func20, Tryz.ntmps20
   go_wp2_with fail
   refine HCk.out.mono ?_
   rintro _ w1 ⟨rfl, f1⟩
   have F1 := hideP f1
   clear f1 HCk
   go_wp2_with fail
   go_ret2
   exact ⟨by rw [HK.out]; rfl, F1.out⟩
  ·
   have hm : most < 0 := by omega
   clear hneg
   go_enter Tryz.func20, Tryz.ntmps20
   go_wp2_with fail
   refine HCk.out.mono ?_
   rintro _ w1 ⟨rfl, f1⟩
   have F1 := hideP f1
   clear f1 HCk
   go_wp2_with fail
   go_ret2
   exact ⟨by rw [HK.out]; rfl, F1.out⟩
 replace HK := hideP (HK.out.trans (if_neg hneg))
 obtain ⟨s, rfl⟩ : ∃ s : Nat, skip = (s : Int) := ⟨skip.toNat, by omega⟩
 obtain ⟨m, rfl⟩ : ∃ m : Nat, most = (m : Int) := ⟨most.toNat, by omega⟩
 simp only [Int.toNat_natCast] at HK
 have hs0 : ¬ ((s : Int) < 0) := by omega
 have hm0 : ¬ ((m : Int) < 0) := by omega
 clear hneg
 go_enter Tryz.func20, Tryz.ntmps20
 go_wp2_with fail
 refine HCk.out.mono ?_
 rintro _ w1 ⟨rfl, f1⟩
 have F1 := hideP f1
 clear f1 HCk
 go_wp2_with fail
 clear hs0 hm0
 go_loopw [9, 10] (fun kv iv wr => ∃ i : Nat, iv = .int .i64 i ∧ i ≤ ls.length ∧ PR w.heap.size w wr kv (((ls.take i).drop s).take m) ∧ Fr w wr) (fun _ iv _ => ls.length - (intOf iv).toNat)
 case atStart => exact ⟨0, rfl, Nat.zero_le _, by simpa using PR.nil _ _ _, F1.out⟩
 case round =>
  obtain ⟨i, rfl, hi, hO, hfr⟩ := hrel
  have hkl : (((ls.take i).drop s).take m).length ≤ i := by rw [List.length_take, List.length_drop, List.length_take]; omega
  by_cases hlt : i < ls.length
  ·
   have hlt' : (i : Int) < (ls.length : Int) := by omega
   have hst := BG.lim_step hlt s m
   obtain ⟨b, o, rfl, hbb, c0⟩ := HCe.out i (by omega)
   obtain ⟨h1, h2⟩ := HRo.out i (by omega) hlt
   have hrw := h1
   generalize ls[i] = r at *
   obtain ⟨ks, hks⟩ : ∃ ks, ((ls.take i).drop s).take m = ks := ⟨_, rfl⟩
   rw [hks] at hO hst hkl
   have HSt := hideP hst
   obtain ⟨q, hqq⟩ : ∃ q, (qs[i]'(by omega)) = q := ⟨_, rfl⟩
   rw [hqq] at c0 hrw
   obtain ⟨qa, qn, qc⟩ := q
   simp only [Sq.v] at c0 hrw
   have HRw := hideP hrw
   have HO := hideP hO
   have HF := hideP hfr
   obtain ⟨ka, kc, rfl⟩ := hO.slice
   have d0 := (Below.cell hfr (World.block_lt_of_cell? _ _ c0)).trans c0
   clear hst hO hfr hrw c0 h1 h2 hqq hks
   by_cases hs : s ≤ i
   case neg =>
    have HS2 := hideP (show ((ls.take (i + 1)).drop s).take m = ks by rw [HSt.out, if_neg (fun h => hs h.1), List.append_nil])
    have e1 : ¬ ((s : Int) ≤ (i : Int)) := by omega
    go_wp2_with fail
    go_roundw
    case rel => exact ⟨i + 1, by go_num, by omega, by rw [HS2.out]; exact HO.out, HF.out⟩
    case measure => simp [intOf]; omega
   have e1 : (s : Int) ≤ (i : Int) := by omega
   by_cases hm : ks.length < m
   case neg =>
    have HS2 := hideP (show ((ls.take (i + 1)).drop s).take m = ks by rw [HSt.out, if_neg (fun h => hm h.2), List.append_nil])
    have e2 : ¬ ((ks.length : Int) < (m : Int)) := by omega
    go_wp2_with fail
    go_roundw
    case rel => exact ⟨i + 1, by go_num, by omega, by rw [HS2.out]; exact HO.out, HF.out⟩
    case measure => simp [intOf]; omega
   have e2 : (ks.length : Int) < (m : Int) := by omega
   have HS2 := hideP (show ((ls.take (i + 1)).drop s).take m = ks ++ [r] by rw [HSt.out, if_pos ⟨hs, hm⟩])
   obtain ⟨ps, p1, p2, p3⟩ := HO.out
   have fA : Fr wr (wr.alloc (.cells #[.slice qa qn qc] 31)) := (Fr.refl _).alloc _
   have HP1 := hideP (own_fr p1 fA)
   have HP2 := hideP p2
   have HP3 := hideP p3
   have FA := hideP (HF.out.trans fA)
   have HLit := hideP (lit_one cdS wr ⟨qa, qn, qc⟩ 31)
   have hsz : w.heap.size ≤ wr.heap.size := HF.out.size
   clear p1 p2 p3 fA
   go_wp2_with (at_builtin; refine wpList_append_L cdS rfl _ _ 22 31 i0 _ 24 rfl Tryz.underlying22 hi0 hz0 hz1 hz2 rfl w.heap.size _ ks.length _ rfl HP1.out (.slice (some ⟨wr.heap.size, 0, none⟩) 1 1) [⟨qa, qn, qc⟩] rfl HLit.out ?c3 ?c4 ?c5 ?_)
   case c3 => (unfold maxLen; first | omega | (simp <;> omega))
   case c4 => (first | omega | (simp <;> omega))
   case c5 => (first | omega | (simp <;> omega))
   intro v2 wB own2 gr2
   have HN2 := hideP (PR.snoc (q := ⟨qa, qn, qc⟩) HP2.out HP3.out HRw.out own2)
   have FB := hideP (show Fr w wB from Below.grown FA.out gr2 (by simp <;> omega) (own_base HP1.out))
   clear own2 gr2
   go_wp2_with fail
   go_roundw
   case rel => exact ⟨i + 1, by go_num, by omega, by rw [HS2.out]; exact HN2.out, FB.out⟩
   case measure => simp [intOf]; omega
  ·
   obtain rfl : i = ls.length := by omega
   rw [List.take_length] at hO
   obtain ⟨n, hn⟩ : ∃ n, ((ls.drop s).take m).length = n := ⟨_, rfl⟩
   obtain ⟨ka, kc, rfl⟩ := hO.slice
   have HO := hideP hO
   have HF := hideP hfr
   clear hO hfr
   generalize (ls.drop s).take m = ks at *
   go_wp2_with fail
   go_ret2
   exact ⟨by rw [HK.out]; exact ⟨_, rfl, HO.out⟩, HF.out⟩
end Go.Proofs.YtbcfdhimngoplaaGreatDoor
