/-
  What belongs together: BgH, BgI, BgJ, BgL.
-/
import Derived.Test.YtbcfdhimngoplaaGreatDoorGqJ
import Derived.Test.YtbcfdhimngoplaaGreatDoorEvN
import Derived.Lib.AppendZeros
namespace Go.Proofs.YtbcfdhimngoplaaGreatDoor
open Go.ChangeShapes Go.WideShapes Go.ChangeAt Go.RowKit
set_option linter.unusedVariables false
set_option linter.unusedSimpArgs false
set_option maxRecDepth 100000
set_option maxHeartbeats 2000000
namespace BG
open VM
def flt (f : List Vl → Except Nat Int) : List (List Vl) → Except Nat (List (List Vl))
 | [] => .ok []
 | r :: t => match f r with
  | .error c => .error c
  | .ok x => match flt f t with
   | .error c => .error c
   | .ok k => .ok (if x = 2 then r :: k else k)
def pre {α : Type} (k : List α) : Except Nat (List α) → Except Nat (List α)
 | .error c => .error c
 | .ok l => .ok (k ++ l)
theorem pre_nil {α : Type} (x : Except Nat (List α)) : pre [] x = x := by cases x <;> rfl
theorem pre_pre {α : Type} (a b : List α) (x : Except Nat (List α)) : pre a (pre b x) = pre (a ++ b) x := by cases x <;> simp [pre]
theorem flt_err {f : List Vl → Except Nat Int} {r : List Vl} {t : List (List Vl)} {c : Nat} (h : f r = .error c) : flt f (r :: t) = .error c := by rw [flt, h]
theorem flt_ok {f : List Vl → Except Nat Int} {r : List Vl} {t : List (List Vl)} {x : Int} (h : f r = .ok x) : flt f (r :: t) = pre (if x = 2 then [r] else []) (flt f t) := by
 rw [flt, h]
 cases flt f t with
 | error c => rfl
 | ok k => by_cases h2 : x = 2 <;> simp [h2, pre]
def fil (ls : List (List Vl)) (cs : List ByteArray) (e : List EX.Nd) : Except Nat (List (List Vl)) := if chk ls ≠ 0 then .error (chk ls) else if EX.ck e ≠ 0 then .error (EX.ck e) else flt (EV.tru e cs) ls
def mp {α β : Type} (f : α → Except Nat β) : List α → Except Nat (List β)
 | [] => .ok []
 | a :: t => match f a with
  | .error c => .error c
  | .ok x => pre [x] (mp f t)
theorem mp_err {α β : Type} {f : α → Except Nat β} {a : α} {t : List α} {c : Nat} (h : f a = .error c) : mp f (a :: t) = .error c := by rw [mp, h]
theorem mp_ok {α β : Type} {f : α → Except Nat β} {a : α} {t : List α} {x : β} (h : f a = .ok x) : mp f (a :: t) = pre [x] (mp f t) := by rw [mp, h]
def eE : List (List EX.Nd) → Nat
 | [] => 0
 | e :: t => if EX.ck e = 0 then eE t else EX.ck e
def prj (ls : List (List Vl)) (cs : List ByteArray) (es : List (List EX.Nd)) : Except Nat (List (List Vl)) := if chk ls ≠ 0 then .error (chk ls) else if 8 < es.length then .error 2 else if eE es ≠ 0 then .error (eE es) else mp (fun r => mp (fun e => EV.ev e cs r) es) ls
end BG
def ORR (B : Nat) (w : World) (v : Value) (ls : List (List VM.Vl)) : Prop :=
 ∃ qs : List Sq, w.ownsRow B 31 1 v ls.length (flat cdS qs) ∧ qs.length = ls.length ∧ ∀ i (h1 : i < qs.length) (h2 : i < ls.length), w.ownsRow B 56 3 qs[i].v ls[i].length (flat cdV ls[i])
theorem ORR.fr {B : Nat} {w w' : World} {v : Value} {ls : List (List VM.Vl)} (h : ORR B w v ls) (f : Fr w w') : ORR B w' v ls := by
 obtain ⟨qs, h1, h2, h3⟩ := h
 exact ⟨qs, own_fr h1 f, h2, fun i a b => own_fr (h3 i a b) f⟩
theorem ORR.rows {B : Nat} {w : World} {v : Value} {ls : List (List VM.Vl)} (h : ORR B w v ls) : IsRR w v ls := by
 obtain ⟨qs, h1, h2, h3⟩ := h
 exact ⟨qs, isL_own (E := cdS) (l := qs) (by rw [h2]; exact h1), h2, fun i a b => isL_own (E := cdV) (h3 i a b)⟩
theorem ORR.low {A B : Nat} {w : World} {v : Value} {ls : List (List VM.Vl)} (h : ORR B w v ls) (hA : A ≤ B) : ORR A w v ls := by
 obtain ⟨qs, h1, h2, h3⟩ := h
 exact ⟨qs, own_low h1 hA, h2, fun i a b => own_low (h3 i a b) hA⟩
theorem ORR.nil (B : Nat) (w : World) : ORR B w (.slice none 0 0) [] := ⟨[], World.ownsRow_nil _ _ _ _, rfl, fun i h => by simp at h⟩
theorem ORR.slice {B : Nat} {w : World} {v : Value} {ls : List (List VM.Vl)} (h : ORR B w v ls) : ∃ a c, v = .slice a ls.length c := by
 obtain ⟨qs, h1, _⟩ := h
 exact own_slice h1
theorem OwnRR.orr {B : Nat} {w : World} {v : Value} {ls : List (List VM.Vl)} (h : OwnRR B w v ls) (hl : ls.length ≤ maxLen) : ORR B w v ls := by
 obtain ⟨G, arr, qs, rfl, hG, hb, ⟨hq, hs⟩, hc, ho⟩ := h
 have hfl : (flat cdS qs).length = ls.length * 1 := by rw [flat_len, hq]; rfl
 refine ⟨qs, ⟨hfl, .inr ⟨G, ls.length, arr, rfl, hG, hb, Nat.le_refl _, hl, by omega, ?_⟩⟩, hq, ho⟩
 refine List.ext_getElem? fun j => ?_
 by_cases hj : j < ls.length
 ·
  have hjq : j < qs.length := by omega
  have h2 := flat_get cdS qs j 0 hjq (by decide)
  have e : j * cdS.k + 0 = j := by show j * 1 + 0 = j; omega
  rw [e] at h2
  rw [h2, List.getElem?_take_of_lt (by omega), Array.getElem?_toList, hc j hjq]
  rfl
 · rw [List.getElem?_eq_none (Nat.le_trans (List.length_take_le _ _) (by omega)), List.getElem?_eq_none (by rw [hfl]; omega)]
theorem own_grownT {B n sz : Nat} {T T' : TypeId} {v : Value} {xs : List Value} {w w' : World} {r : Option Nat} (h : w.ownsRow B T sz v n xs) (hT : T' ≠ T) (hr : ∀ g, r = some g → ∃ cur, w.heap[g]? = some (.cells cur T' (0, 0))) (hg : w.grownBy w' r) : w'.ownsRow B T sz v n xs := by
 refine own_keep h fun k cur hk hc => hg.block k (Array.getElem?_eq_some_iff.1 hc).1 ?_
 intro e
 obtain ⟨cur', h'⟩ := hr k e.symm
 rw [hc] at h'
 injection h' with h'
 injection h' with _ h' _
 exact hT h'.symm
theorem ORR.snoc {B : Nat} {w w' : World} {v v' : Value} {ls : List (List VM.Vl)} {qs : List Sq} {q : Sq} {l : List VM.Vl} (hown : w.ownsRow B 31 1 v ls.length (flat cdS qs)) (hlen : qs.length = ls.length) (hall : ∀ i (h1 : i < qs.length) (h2 : i < ls.length), w.ownsRow B 56 3 qs[i].v ls[i].length (flat cdV ls[i]))
  (hq : w.ownsRow B 56 3 q.v l.length (flat cdV l)) (ho : w'.ownsRow B 31 1 v' (ls.length + 1) (flat cdS (qs ++ [q]))) (hg : w.grownBy w' v.ownBlock) : ORR B w' v' (ls ++ [l]) := by
 refine ⟨qs ++ [q], by rw [List.length_append]; exact ho, by simp [hlen], ?_⟩
 intro i h1 h2
 have key : ∀ {v n xs}, w.ownsRow B 56 3 v n xs → w'.ownsRow B 56 3 v n xs := fun h => own_grownT h (by decide) (own_block hown) hg
 by_cases hi : i < qs.length
 ·
  have e1 : (qs ++ [q])[i] = qs[i] := List.getElem_append_left hi
  have e2 : (ls ++ [l])[i] = ls[i] := List.getElem_append_left (by omega)
  rw [e1, e2]
  exact key (hall i hi (by omega))
 ·
  have hi2 : i = qs.length := by rw [List.length_append] at h1; simp at h1; omega
  have e1 : (qs ++ [q])[i] = q := by simp [hi2]
  have e2 : (ls ++ [l])[i] = l := by rw [hlen] at hi2; simp [hi2]
  rw [e1, e2]
  exact key hq
def RA (B : Nat) (x : Except Nat (List (List VM.Vl))) (e : Ending) (w' : World) : Prop := match x with
 | .error c => e = .returned (.tuple #[.slice none 0 0, .int .i64 (c : Int)])
 | .ok ls => ∃ u, e = .returned (.tuple #[u, .int .i64 0]) ∧ ORR B w' u ls
end Go.Proofs.YtbcfdhimngoplaaGreatDoor
namespace Go.Proofs.YtbcfdhimngoplaaGreatDoor
open Go.ChangeShapes Go.WideShapes Go.ChangeAt Go.RowKit
set_option linter.unusedVariables false
set_option linter.unusedSimpArgs false
set_option maxRecDepth 100000
set_option maxHeartbeats 2000000
theorem EV.tru_ne {e : List EX.Nd} {cs : List ByteArray} {l : List VM.Vl} {c : Nat} (h : EV.tru e cs l = .error c) : c ≠ 0 := by
 unfold EV.tru at h
 split at h
 ·
  rename_i c' hc
  cases h
  exact EV.ev_ne hc
 · exact EV.tr_ne h
theorem filter_any (v ua va : Value) (ls : List (List VM.Vl)) (cs : List ByteArray) (e : List EX.Nd) (w : World) (h : IsRR w v ls) (hu : IsL cdB w ua cs) (he : IsL cdN w va e) (hn : ∀ n ∈ e, n.nm.size ≤ 140737488355327) (hl : e.length ≤ 9223372036854775806)
  (hs : ∀ c ∈ cs, c.size ≤ 140737488355327) (hTn : Tn w) (hT : Tb w) (hgn : ∀ n ∈ e, EV.gd n.v) (hgl : ∀ r ∈ ls, ∀ x ∈ r, EV.gd x) (hL : ls.length ≤ 9223372036854775806) (hR : ∀ r ∈ ls, r.length ≤ 9223372036854775806) :
  Calls Tryz.prog 16 #[v, ua, va] w fun r w' => RA w.heap.size (BG.fil ls cs e) r w' ∧ Fr w w' := by
 have HK : Hid (BG.fil ls cs e = if BG.chk ls ≠ 0 then .error (BG.chk ls) else if EX.ck e ≠ 0 then .error (EX.ck e) else BG.flt (EV.tru e cs) ls) := rfl
 have HCk := hideP (bagCheck_any v ls w h hL hR)
 have HX := hideP (fun W (f : Fr w W) => xcheck_any va e W (he.fr f) hn hl)
 have HT := hideP (fun (r : List VM.Vl) (hr : r ∈ ls) (q : Value) W (f : Fr w W) (hq : IsL cdV W q r) => truth_any va ua q e cs r W (he.fr f) (hu.fr f) hq hn hl hs (hTn.fr f) (hT.fr f) hgn (hgl r hr))
 have HRl := hideP (fun (h0 : BG.chk ls = 0) => BG.chk_all h0)
 obtain ⟨a, c, rfl⟩ := h.slice
 obtain ⟨qs, hq, _, hc, hcell, hrow⟩ := h.at
 have HCe := hideP hcell
 have HRo := hideP hrow
 obtain ⟨a1, n1, c1, rfl⟩ : ∃ a n c, va = .slice a n c := by obtain ⟨a, c, h, _⟩ := he; exact ⟨a, _, c, h⟩
 obtain ⟨a2, n2, c2, rfl⟩ : ∃ a n c, ua = .slice a n c := by obtain ⟨a, c, h, _⟩ := hu; exact ⟨a, _, c, h⟩
 clear hcell hrow h hu he hn hl hs hTn hT hgn hgl hL hR
 obtain ⟨i0, hi0, hz0, hz1, hz2⟩ := info_parts Tryz.infoVs9
 generalize BG.fil ls cs e = R at *
 by_cases h0 : BG.chk ls = 0
 ·
  replace HK := hideP (HK.out.trans (if_neg (by simpa using h0)))
  obtain ⟨h40, hall⟩ := HRl.out h0
  rw [h0] at HCk
  clear HRl h0
  have HAl := hideP hall
  clear hall
  by_cases h1 : EX.ck e = 0
  ·
   replace HK := hideP (HK.out.trans (if_neg (by simpa using h1)))
   rw [h1] at HX
   clear h1
   go_enter Tryz.func16, Tryz.ntmps16
   go_wp2_with fail
   refine HCk.out.mono ?_
   rintro _ w1 ⟨rfl, f1⟩
   have F1 := hideP f1
   clear f1 HCk
   go_wp2_with fail
   refine (HX.out _ F1.out).mono ?_
   rintro _ w2 ⟨rfl, f2⟩
   have F2 := hideP (F1.out.trans f2)
   clear f2 F1 HX
   go_wp2_with fail
   go_loopw [10, 12, 13, 14, 27] (fun kv _ _ _ iv wr => ∃ (i : Nat) (ks : List (List VM.Vl)), iv = .int .i64 i ∧ i ≤ ls.length ∧ ks.length ≤ i ∧ R = BG.pre ks (BG.flt (EV.tru e cs) (ls.drop i)) ∧ ORR w.heap.size wr kv ks ∧ Fr w wr) (fun _ _ _ _ iv _ => ls.length - (intOf iv).toNat)
   case atStart => exact ⟨0, [], rfl, Nat.zero_le _, Nat.zero_le _, by rw [BG.pre_nil]; exact HK.out, ORR.nil _ _, F2.out⟩
   case round =>
    obtain ⟨i, ks, rfl, hi, hks, hRi, hO, hfr⟩ := hrel
    obtain ⟨ka, kc, rfl⟩ := hO.slice
    by_cases hlt : i < ls.length
    ·
     have hlt' : (i : Int) < (ls.length : Int) := by omega
     obtain ⟨b, o, rfl, hbb, c0⟩ := HCe.out i (by omega)
     obtain ⟨h1, h2⟩ := HRo.out i (by omega) hlt
     have d0 := (Below.cell hfr (World.block_lt_of_cell? _ _ c0)).trans c0
     rw [List.drop_eq_getElem_cons hlt] at hRi
     have ct := HT.out ls[i] (List.getElem_mem hlt) qs[i].v wr hfr (h1.fr hfr)
     have cl := fun W (f : Fr w W) => cloneV_any qs[i].v ls[i] W (h1.fr f) (by have := (HAl.out ls[i] (List.getElem_mem hlt)).1; omega)
     have hne := fun c (h : EV.tru e cs ls[i] = .error c) => EV.tru_ne h
     have s1 := fun c (h : EV.tru e cs ls[i] = .error c) => BG.flt_err (t := ls.drop (i + 1)) h
     have s2 := fun x (h : EV.tru e cs ls[i] = .ok x) => BG.flt_ok (t := ls.drop (i + 1)) h
     have hl8 := (HAl.out ls[i] (List.getElem_mem hlt)).1
     generalize ls[i] = r at *
     generalize BG.flt (EV.tru e cs) (r :: ls.drop (i + 1)) = Z at *
     generalize EV.tru e cs r = D at *
     obtain ⟨q, hqq⟩ : ∃ q, (qs[i]'(by omega)) = q := ⟨_, rfl⟩
     rw [hqq] at ct cl d0
     obtain ⟨qa, qn, qc⟩ := q
     simp only [Sq.v] at ct cl d0
     have HO := hideP hO
     have HF := hideP hfr
     have HRi := hideP hRi
     have HCl := hideP cl
     clear hO hfr hRi h1 h2 c0 hqq cl
     cases D with
     | error c =>
      have HZ := hideP (s1 c rfl)
      have e1 : ((c : Int) != 0) = true := by have := hne c rfl; simp; omega
      have e2 : ¬ ((c : Int) = 0) := by have := hne c rfl; omega
      simp only [exT] at ct
      clear s1 s2 hne
      go_wp2_with fail
      refine ct.mono ?_
      rintro _ w3 ⟨rfl, f3⟩
      go_wp2_with fail
      go_ret2
      exact ⟨by rw [HRi.out, HZ.out]; rfl, HF.out.trans f3⟩
     | ok x =>
      have HZ := hideP (s2 x rfl)
      simp only [exT] at ct
      clear s1 s2 hne
      go_wp2_with fail
      refine ct.mono ?_
      rintro _ w3 ⟨rfl, f3⟩
      have F3 := hideP (HF.out.trans f3)
      have HO3 := hideP (HO.out.fr f3)
      clear f3 HO HF ct
      by_cases hx : x = 2
      ·
       subst hx
       replace HZ := hideP (HZ.out.trans (by rw [if_pos rfl]))
       go_wp2_with fail
       refine (HCl.out _ F3.out).mono ?_
       rintro _ w4 ⟨v4, rfl, own4, f4⟩
       obtain ⟨va4, vc4, rfl⟩ := own_slice own4
       obtain ⟨ps, p1, p2, p3⟩ := HO3.out
       have fA : Fr w3 (w4.alloc (.cells #[.slice va4 r.length vc4] 31)) := f4.alloc _
       have HP1 := hideP (own_fr p1 fA)
       have HP2 := hideP p2
       have HP3 := hideP (fun i a b => own_fr (p3 i a b) fA)
       have HO4 := hideP (own_fr (own_low own4 F3.out.size) ((Fr.refl w4).alloc (.cells #[.slice va4 r.length vc4] 31)))
       have FA := hideP (F3.out.trans fA)
       have HLit := hideP (lit_one cdS w4 ⟨va4, r.length, vc4⟩ 31)
       have hsz : w.heap.size ≤ w4.heap.size := (F3.out.trans f4).size
       clear p1 p2 p3 fA own4 f4 F3 HO3
       go_wp2_with (at_builtin; refine wpList_append_L cdS rfl _ _ 22 31 i0 _ 24 rfl Tryz.underlying22 hi0 hz0 hz1 hz2 rfl w.heap.size _ ks.length _ rfl HP1.out (.slice (some ⟨w4.heap.size, 0, none⟩) 1 1) [⟨va4, r.length, vc4⟩] rfl HLit.out ?c3 ?c4 ?c5 ?_)
       case c3 => unfold maxLen; simp <;> omega
       case c4 => simp <;> omega
       case c5 => simp <;> omega
       intro v2 wB own2 gr2
       have HN2 := hideP (ORR.snoc (q := ⟨va4, r.length, vc4⟩) HP1.out HP2.out HP3.out HO4.out own2 gr2)
       have FB := hideP (show Fr w wB from Below.grown FA.out gr2 (by simp <;> omega) (own_base HP1.out))
       clear own2 gr2
       go_wp2_with fail
       go_roundw
       case rel => exact ⟨i + 1, ks ++ [r], by go_num, by omega, by simp <;> omega, by rw [HRi.out, HZ.out, BG.pre_pre], HN2.out, FB.out⟩
       case measure => simp [intOf]; omega
      ·
       replace HZ := hideP (HZ.out.trans (by rw [if_neg hx, BG.pre_nil]))
       have hx1 : (x == 2) = false := beq_false_of_ne hx
       go_wp2_with fail
       go_roundw
       case rel => exact ⟨i + 1, ks, by go_num, by omega, by omega, by rw [HRi.out, HZ.out], HO3.out, F3.out⟩
       case measure => simp [intOf]; omega
    ·
     obtain rfl : i = ls.length := by omega
     have HRe := hideP (show R = .ok ks by rw [hRi, List.drop_length]; simp [BG.flt, BG.pre])
     have HO := hideP hO
     have HF := hideP hfr
     clear hRi hO hfr
     go_wp2_with fail
     go_ret2
     exact ⟨by rw [HRe.out]; exact ⟨_, rfl, HO.out⟩, HF.out⟩
  ·
   replace HK := hideP (HK.out.trans (if_pos h1))
   generalize EX.ck e = z at *
   have e1 : ((z : Int) != 0) = true := by simp; omega
   have e2 : ¬ ((z : Int) = 0) := by omega
   go_enter Tryz.func16, Tryz.ntmps16
   go_wp2_with fail
   refine HCk.out.mono ?_
   rintro _ w1 ⟨rfl, f1⟩
   have F1 := hideP f1
   clear f1 HCk
   go_wp2_with fail
   refine (HX.out _ F1.out).mono ?_
   rintro _ w2 ⟨rfl, f2⟩
   have F2 := hideP (F1.out.trans f2)
   clear f2
   go_wp2_with fail
   go_ret2
   exact ⟨by rw [HK.out]; rfl, F2.out⟩
 ·
  replace HK := hideP (HK.out.trans (if_pos h0))
  generalize BG.chk ls = z at *
  have e1 : ((z : Int) != 0) = true := by simp; omega
  have e2 : ¬ ((z : Int) = 0) := by omega
  go_enter Tryz.func16, Tryz.ntmps16
  go_wp2_with fail
  refine HCk.out.mono ?_
  rintro _ w1 ⟨rfl, f1⟩
  have F1 := hideP f1
  clear f1 HCk
  go_wp2_with fail
  go_ret2
  exact ⟨by rw [HK.out]; rfl, F1.out⟩
end Go.Proofs.YtbcfdhimngoplaaGreatDoor
namespace Go.Proofs.YtbcfdhimngoplaaGreatDoor
open Go.ChangeShapes Go.WideShapes Go.ChangeAt Go.RowKit
set_option linter.unusedVariables false
set_option linter.unusedSimpArgs false
set_option maxRecDepth 100000
set_option maxHeartbeats 2000000
namespace BG
def lim (ls : List (List VM.Vl)) (skip most : Int) : Except Nat (List (List VM.Vl)) := if chk ls ≠ 0 then .error (chk ls) else if skip < 0 ∨ most < 0 then .error 3 else .ok ((ls.drop skip.toNat).take most.toNat)
theorem lim_part (ls : List (List VM.Vl)) (skip most : Int) (K M : Nat) (hKe : K = min skip.toNat ls.length) (hMe : M = min most.toNat (ls.length - K)) : (ls.drop skip.toNat).take most.toNat = (ls.drop K).take M := by
 rw [hMe, hKe]
 by_cases h1 : skip.toNat ≤ ls.length
 ·
  rw [Nat.min_eq_left h1]
  by_cases h2 : most.toNat ≤ ls.length - skip.toNat
  · rw [Nat.min_eq_left h2]
  · rw [Nat.min_eq_right (by omega), List.take_of_length_le (by simp; omega), List.take_of_length_le (by simp)]
 ·
  have e1 : min skip.toNat ls.length = ls.length := by omega
  rw [e1, List.drop_of_length_le (show ls.length ≤ skip.toNat by omega), List.drop_length]
  simp
end BG
theorem limit_any (v : Value) (ls : List (List VM.Vl)) (skip most : Int) (w : World) (h : IsRR w v ls) (hL : ls.length ≤ 9223372036854775806) (hR : ∀ r ∈ ls, r.length ≤ 9223372036854775806) :
  Calls Tryz.prog 19 #[v, .int .i64 skip, .int .i64 most] w fun e w' => RA w.heap.size (BG.lim ls skip most) e w' ∧ Fr w w' := by
 have HK : Hid (BG.lim ls skip most = if BG.chk ls ≠ 0 then .error (BG.chk ls) else if skip < 0 ∨ most < 0 then .error 3 else .ok ((ls.drop skip.toNat).take most.toNat)) := rfl
 have HCk := hideP (bagCheck_any v ls w h hL hR)
 by_cases hc0 : BG.chk ls = 0
 ·
  replace HK := hideP (HK.out.trans (if_neg (by simpa using hc0)))
  obtain ⟨h40, hall⟩ := BG.chk_all hc0
  rw [hc0] at HCk
  obtain ⟨a, c, rfl⟩ := h.slice
  have hcc : ls.length ≤ c := by obtain ⟨_, _, _, hc, _⟩ := h.at; exact hc
  by_cases hneg : skip < 0 ∨ most < 0
  ·
   replace HK := hideP (HK.out.trans (if_pos hneg))
   generalize BG.lim ls skip most = R at *
   clear hall h hc0 hR hL
   by_cases hs : skip < 0
   ·
    go_enter Tryz.func19, Tryz.ntmps19
    go_wp2_with fail
    refine HCk.out.mono ?_
    rintro _ w1 ⟨rfl, f1⟩
    have F1 := hideP f1
    clear f1 HCk
    go_wp2_with fail
    go_ret2
    exact ⟨by rw [HK.out]; rfl, F1.out⟩
   ·
    have hm : most < 0 := by omega
    go_enter Tryz.func19, Tryz.ntmps19
    go_wp2_with fail
    refine HCk.out.mono ?_
    rintro _ w1 ⟨rfl, f1⟩
    have F1 := hideP f1
    clear f1 HCk
    go_wp2_with fail
    go_ret2
    exact ⟨by rw [HK.out]; rfl, F1.out⟩
  ·
   replace HK := hideP (HK.out.trans (if_neg hneg))
   have hs : 0 ≤ skip := by omega
   have hm : 0 ≤ most := by omega
   obtain ⟨K, hKn, hmin, hKe⟩ := min_k skip ls.length hs
   obtain ⟨M, hMn, hmin2, hMe⟩ := min_k most (ls.length - K) hm
   rw [BG.lim_part ls skip most K M hKe hMe] at HK
   have hkc : K ≤ c := by omega
   have HCp := hideP (fun (W : World) (A : Option Addr) (f : Fr w W) (hA : ∀ b o, a = some ⟨b, o, none⟩ → M = 0 ∨ A = some ⟨b, o + K, none⟩) => copied_any (.slice A M (c - K)) ((ls.drop K).take M) W (isRR_cut (h.fr f) K M (by omega) A hA) (by simp; omega) (fun r hr => by have := (hall r (List.mem_of_mem_drop (List.mem_of_mem_take hr))).1; omega))
   have HPl := hideP (show ((ls.drop K).take M).length ≤ 40 by simp; omega)
   generalize (ls.drop K).take M = part at *
   generalize BG.lim ls skip most = R at *
   have hs' : ¬ skip < 0 := by omega
   have hm' : ¬ most < 0 := by omega
   have hkc' : (K : Int) ≤ (c : Int) := by omega
   have hkn : (K : Int) ≤ (ls.length : Int) := by omega
   have hmm : (M : Int) ≤ (c : Int) - (K : Int) := by omega
   clear hall hKe hMe h hc0 hL hR hneg hs hm
   generalize ls.length = n at *
   go_enter Tryz.func19, Tryz.ntmps19
   go_wp2_with fail
   refine HCk.out.mono ?_
   rintro _ w1 ⟨rfl, f1⟩
   have F1 := hideP f1
   clear f1 HCk
   go_wp2_with fail
   ·
    have hck : c = K := by assumption
    subst hck
    have cc := HCp.out w1 a F1.out (fun b o e => .inl (by omega))
    rw [Nat.sub_self] at cc
    refine cc.mono ?_
    rintro _ w2 ⟨⟨u, rfl, hO⟩, f2⟩
    obtain ⟨ua, un, uc, rfl⟩ : ∃ a n c, u = .slice a n c := by obtain ⟨G, _, _, e, _⟩ := hO; exact ⟨_, _, _, e⟩
    have HO := hideP ((hO.orr (by unfold maxLen; have := HPl.out; omega)).low F1.out.size)
    have F2 := hideP (F1.out.trans f2)
    clear hO f2
    go_wp2_with fail
    go_ret2
    exact ⟨by rw [HK.out]; exact ⟨_, rfl, HO.out⟩, F2.out⟩
   ·
    have cc := HCp.out w1 (Option.map (fun x => x.add K) a) F1.out (fun b o e => .inr (by rw [e]; simp [Addr.add_lit]))
    refine cc.mono ?_
    rintro _ w2 ⟨⟨u, rfl, hO⟩, f2⟩
    obtain ⟨ua, un, uc, rfl⟩ : ∃ a n c, u = .slice a n c := by obtain ⟨G, _, _, e, _⟩ := hO; exact ⟨_, _, _, e⟩
    have HO := hideP ((hO.orr (by unfold maxLen; have := HPl.out; omega)).low F1.out.size)
    have F2 := hideP (F1.out.trans f2)
    clear hO f2
    go_wp2_with fail
    go_ret2
    exact ⟨by rw [HK.out]; exact ⟨_, rfl, HO.out⟩, F2.out⟩
 ·
  replace HK := hideP (HK.out.trans (if_pos hc0))
  obtain ⟨a, c, rfl⟩ := h.slice
  generalize BG.lim ls skip most = R at *
  generalize BG.chk ls = z at *
  have e1 : ((z : Int) != 0) = true := by simp; omega
  have e2 : ¬ ((z : Int) = 0) := by omega
  clear h hL hR
  go_enter Tryz.func19, Tryz.ntmps19
  go_wp2_with fail
  refine HCk.out.mono ?_
  rintro _ w1 ⟨rfl, f1⟩
  have F1 := hideP f1
  clear f1 HCk
  go_wp2_with fail
  go_ret2
  exact ⟨by rw [HK.out]; rfl, F1.out⟩
end Go.Proofs.YtbcfdhimngoplaaGreatDoor
namespace Go.Proofs.YtbcfdhimngoplaaGreatDoor
open Go.ChangeShapes Go.WideShapes Go.ChangeAt Go.RowKit
set_option linter.unusedVariables false
set_option linter.unusedSimpArgs false
set_option maxRecDepth 100000
set_option maxHeartbeats 4000000
theorem growV_any (n : Nat) (w : World) (hn : n ≤ 100000) :
  Calls Tryz.prog 68 #[.slice none 0 0, .int .i64 (n : Int)] w fun e w' => ∃ v', e = .returned v' ∧ w'.ownsRow w.heap.size 56 3 v' 0 [] ∧ Fr w w' := by
 obtain ⟨i0, hi, hz0, hz1, hz2⟩ := info_parts Tryz.infoV9
 by_cases h0 : n = 0
 ·
  subst h0
  go_enter Tryz.func68, Tryz.ntmps68
  go_wp2_with fail
  go_ret
  exact ⟨_, rfl, World.ownsRow_nil _ _ _ _, Fr.refl _⟩
 ·
  have hp : (0 : Int) < (n : Int) := by omega
  have hnn : 0 ≤ (n : Int) := by omega
  have hge := grownCap_ge w n 0 56
  have hle := grownCap_le_maxLen w n 0 56 (by unfold maxLen; omega)
  have hrun := fun ty => Lib.run_append_nil_zeros (P := Tryz.prog) w 31 3 ty 56 i0 (.agg #[.int .i64 0, .int .i64 0, .string ⟨#[]⟩]) .i64 .i64 Tryz.underlying31 (by kernel_rfl) hi hz0 n (by omega) (by rw [hz1]; decide) (by omega) (by rw [hz2]; omega)
  generalize hC : grownCap w n 0 56 = C at *
  have HOw := hideP (show (w.drew.alloc (.cells (Builtin.zeroCells (Value.agg #[.int .i64 0, .int .i64 0, .string ⟨#[]⟩]).cells n ++ Builtin.zeroCells (Value.agg #[.int .i64 0, .int .i64 0, .string ⟨#[]⟩]).cells (C - n)) 56)).ownsRow w.heap.size 56 3 (.slice (some ⟨w.heap.size, 0, none⟩) 0 C) 0 [] from
   World.ownsRow_made w.drew _ C (Nat.le_refl _) hle (by
    rw [Array.size_append, size_zeroCells, size_zeroCells]
    have : (Value.agg #[.int .i64 0, .int .i64 0, .string ⟨#[]⟩]).cells.size = 3 := rfl
    rw [this, ← Nat.add_mul]
    congr 1
    omega))
  have HFr := hideP (Fr.alloc (Fr.drew (Fr.refl w)) (.cells (Builtin.zeroCells (Value.agg #[.int .i64 0, .int .i64 0, .string ⟨#[]⟩]).cells n ++ Builtin.zeroCells (Value.agg #[.int .i64 0, .int .i64 0, .string ⟨#[]⟩]).cells (C - n)) 56))
  generalize w.drew.alloc (.cells (Builtin.zeroCells (Value.agg #[.int .i64 0, .int .i64 0, .string ⟨#[]⟩]).cells n ++ Builtin.zeroCells (Value.agg #[.int .i64 0, .int .i64 0, .string ⟨#[]⟩]).cells (C - n)) 56) = w1 at *
  have HRun := hideP hrun
  clear hrun hC
  go_enter Tryz.func68, Tryz.ntmps68
  go_wp2_with (at_builtin; refine Lib.wpList_append_run _ rfl _ _ _ _ rfl _ _ rfl rfl _ _ (HRun.out _) ?_)
  all_goals (
   go_ret
   exact ⟨_, rfl, HOw.out, HFr.out⟩)
theorem IsL.len_eq {α : Type} {E : Cd α} {w : World} {x : Sq} {l : List α} (h : IsL E w x.v l) : x.n = l.length := by
 obtain ⟨a, c, e, _⟩ := h
 unfold Sq.v at e
 injection e
namespace BG
def sm (l : List Nat) : Nat := l.foldr (· + ·) 0
theorem sm_app (a b : List Nat) : sm (a ++ b) = sm a + sm b := by
 induction a with
 | nil => simp [sm]
 | cons x a ih => simp only [List.cons_append, sm, List.foldr_cons] at *; omega
theorem sm_take (l : List Nat) (i : Nat) : sm (l.take i) ≤ sm l := by
 have := sm_app (l.take i) (l.drop i)
 rw [List.take_append_drop] at this
 omega
def tot (ls : List (List VM.Vl)) : Nat := sm (ls.map List.length)
theorem tot_flat (ls : List (List VM.Vl)) : ls.flatten.length = tot ls := by
 induction ls with
 | nil => rfl
 | cons x r ih => simp only [List.flatten_cons, List.length_append, ih, tot, List.map_cons, sm, List.foldr_cons]
theorem tot_step (ls : List (List VM.Vl)) (i : Nat) (h : i < ls.length) : tot (ls.take (i + 1)) = tot (ls.take i) + ls[i].length := by
 unfold tot
 rw [List.take_succ_eq_append_getElem h, List.map_append, sm_app]
 simp [sm]
theorem tot_take (ls : List (List VM.Vl)) (i : Nat) : tot (ls.take i) ≤ tot ls := by
 unfold tot
 rw [List.map_take]
 exact sm_take _ _
theorem flat_step (ls : List (List VM.Vl)) (i : Nat) (h : i < ls.length) : (ls.take (i + 1)).flatten = (ls.take i).flatten ++ ls[i] := by
 rw [List.take_succ_eq_append_getElem h, List.flatten_append]
 simp
end BG
theorem concatV_any (v : Value) (ls : List (List VM.Vl)) (w : World) (h : IsRR w v ls) (hl : ls.length ≤ 1000) (ht : BG.tot ls ≤ 10000) :
  Calls Tryz.prog 50 #[v] w fun e w' => ∃ v', e = .returned v' ∧ w'.ownsRow w.heap.size 56 3 v' ls.flatten.length (flat cdV ls.flatten) ∧ Fr w w' := by
 obtain ⟨i0, hi0, hz0, hz1, hz2⟩ := info_parts Tryz.infoV9
 obtain ⟨qs, hq, hqn, hqs⟩ := h
 obtain ⟨a, cap, rfl, hcap, hcs⟩ := hq
 have HC := hideP hcs
 have HQ := hideP hqs
 have HQn := hideP hqn
 have HTk := hideP (fun i => BG.tot_take ls i)
 rw [hqn] at hcap ⊢
 clear hcs hqs hqn
 go_enter Tryz.func50, Tryz.ntmps50
 go_wp2_with fail
 go_loopw [3, 5, 11] (fun sv _ iv wr => ∃ i : Nat, iv = .int .i64 i ∧ i ≤ ls.length ∧ sv = .int .i64 ((BG.tot (ls.take i) : Nat) : Int) ∧ wr = w) (fun _ _ iv _ => ls.length - (intOf iv).toNat)
 case atStart => exact ⟨0, rfl, Nat.zero_le _, rfl, rfl⟩
 case round =>
  obtain ⟨i, rfl, hi, rfl, rfl⟩ := hrel
  by_cases hlt : i < ls.length
  ·
   have hlt' : (i : Int) < (ls.length : Int) := by omega
   have hltq : i < qs.length := by rw [HQn.out]; exact hlt
   obtain ⟨b, o, rfl, hb, hc⟩ : ∃ b o, a = some ⟨b, o, none⟩ ∧ b < wr.heap.size ∧ At cdS wr b o qs := by
    rcases HC.out with h | h
    · rw [h] at hltq; simp at hltq
    · exact h
   have c0 := hc.s1 i hltq
   have hlen := (HQ.out i hltq hlt).len_eq
   have hst := BG.tot_step ls i hlt
   have hbd := HTk.out (i + 1)
   rw [← hlen] at hst
   generalize qs[i] = x at *
   obtain ⟨xa, xn, xc⟩ := x
   simp only at c0 hst
   generalize BG.tot (ls.take i) = m at *
   generalize hm' : BG.tot (ls.take (i + 1)) = m' at *
   have HT := hideP hst
   have HT2 := hideP hm'
   have hsum : (m : Int) + (xn : Int) ≤ 10000 := by omega
   have hpos : 0 ≤ (m : Int) + (xn : Int) := by omega
   clear hc hst hm' hlen
   go_wp2_with fail
   go_roundw
   case rel => exact ⟨i + 1, by go_num, by omega, by rw [HT2.out, HT.out]; first | (go_num; done) | (simp; omega), by first | rfl | trivial⟩
   case measure => simp [intOf]; omega
  ·
   obtain rfl : i = ls.length := by omega
   have hlt' : ((ls.length : Int) < (ls.length : Int)) = False := by simp
   rw [List.take_length]
   have HG := hideP (growV_any (BG.tot ls) wr (by omega))
   go_wp2_with fail
   refine HG.out.mono ?_
   rintro _ w1 ⟨v1, rfl, hown1, f1⟩
   have HO1 := hideP hown1
   have F1 := hideP f1
   clear hown1 f1
   go_wp2_with fail
   obtain ⟨w0, rfl⟩ : ∃ x, x = wr := ⟨_, rfl⟩
   go_loopw [6, 8, 27] (fun fv _ iv W => ∃ i : Nat, iv = .int .i64 i ∧ i ≤ ls.length ∧ W.ownsRow w0.heap.size 56 3 fv (ls.take i).flatten.length (flat cdV (ls.take i).flatten) ∧ Fr w0 W) (fun _ _ iv _ => ls.length - (intOf iv).toNat)
   case atStart => exact ⟨0, rfl, Nat.zero_le _, HO1.out, F1.out⟩
   case round =>
    obtain ⟨i, rfl, hi, hown, hfr⟩ := hrel
    obtain ⟨fa, fc, rfl⟩ := own_slice hown
    have HO := hideP hown
    have HF := hideP hfr
    have hsz := hfr.size
    clear hown hfr
    by_cases hlt : i < ls.length
    ·
     have hlt' : (i : Int) < (ls.length : Int) := by omega
     have hltq : i < qs.length := by rw [HQn.out]; exact hlt
     obtain ⟨b, o, rfl, hb, hc⟩ : ∃ b o, a = some ⟨b, o, none⟩ ∧ b < w0.heap.size ∧ At cdS w0 b o qs := by
      rcases HC.out with h | h
      · rw [h] at hltq; simp at hltq
      · exact h
     have c0 := (hc.fr hb HF.out).s1 i hltq
     have hisl := (HQ.out i hltq hlt).fr HF.out
     have hst := BG.flat_step ls i hlt
     have hln : (ls.take i).flatten.length + ls[i].length ≤ 10000 := by
      have h1 := BG.tot_step ls i hlt
      have h2 := HTk.out (i + 1)
      rw [BG.tot_flat]
      omega
     generalize ls[i] = l at *
     generalize qs[i] = x at *
     obtain ⟨xa, xn, xc⟩ := x
     simp only [Sq.v] at c0 hisl
     generalize (ls.take i).flatten = fs at *
     generalize hfs : (ls.take (i + 1)).flatten = fs' at *
     have HIs := hideP hisl
     have HS := hideP hst
     have HFs := hideP hfs
     obtain ⟨m, hm⟩ : ∃ m, fs.length = m := ⟨_, rfl⟩
     have HMm := hideP hm
     rw [hm] at HO hln ⊢
     clear hc hisl hst hfs hm
     go_wp2_with (at_builtin; refine wpList_append_L cdV rfl _ _ 31 56 i0 _ 32 rfl Tryz.underlying31 hi0 hz0 hz1 hz2 rfl w0.heap.size _ m fs rfl HO.out (.slice xa xn xc) l rfl HIs.out ?c3 ?c4 ?c5 ?_)
     case c3 => unfold maxLen; omega
     case c4 => omega
     case c5 => exact hsz
     intro v2 wB own2 gr2
     have HN2 := hideP (show wB.ownsRow w0.heap.size 56 3 v2 fs'.length (flat cdV fs') from by
      rw [HS.out, List.length_append, HMm.out]
      exact own2)
     have FB := hideP (show Fr w0 wB from Below.grown HF.out gr2 hsz (own_base HO.out))
     clear own2 gr2
     go_wp2_with fail
     go_roundw
     case rel => exact ⟨i + 1, by go_num, by omega, by rw [HFs.out]; exact HN2.out, FB.out⟩
     case measure => simp [intOf]; omega
    ·
     obtain rfl : i = ls.length := by omega
     have hlt' : ((ls.length : Int) < (ls.length : Int)) = False := by simp
     rw [List.take_length] at HO ⊢
     go_wp2_with fail
     go_ret
     exact ⟨_, rfl, HO.out, HF.out⟩
end Go.Proofs.YtbcfdhimngoplaaGreatDoor
