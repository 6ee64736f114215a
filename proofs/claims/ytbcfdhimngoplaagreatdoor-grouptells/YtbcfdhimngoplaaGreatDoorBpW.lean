/-
  What the document's GroupOf answers.
-/
import Derived.Test.YtbcfdhimngoplaaGreatDoorBpV
import Derived.Test.YtbcfdhimngoplaaGreatDoorGqF
namespace Go.Proofs.YtbcfdhimngoplaaGreatDoor
open Go.ChangeShapes Go.WideShapes Go.ChangeAt Go.RowKit
set_option linter.unusedVariables false
set_option linter.unusedSimpArgs false
set_option maxRecDepth 100000
set_option maxHeartbeats 2000000
namespace BG
open VM
def gS (cs : List Int) (ls : List (List Vl)) (i : Nat) : List Gp := (BM.dist ((ls.take i).map fun r => pck r cs)).map fun k => (k, ofK cs ls k)
theorem dst_one {α : Type} [DecidableEq α] (b : List α) (x : α) : BM.dst b [x] = if x ∈ b then [] else [x] := by
 simp only [BM.dst]
theorem take_map {cs : List Int} {ls : List (List Vl)} {i : Nat} (h : i < ls.length) : (ls.take (i + 1)).map (fun r => pck r cs) = (ls.take i).map (fun r => pck r cs) ++ [pck ls[i] cs] := by
 rw [List.take_succ_eq_append_getElem h, List.map_append]
 rfl
theorem gS_old {cs : List Int} {ls : List (List Vl)} {i : Nat} (h : i < ls.length) (hm : pck ls[i] cs ∈ (ls.take i).map fun r => pck r cs) : gS cs ls (i + 1) = gS cs ls i := by
 unfold gS
 rw [take_map h, (BM.dist_parts _ _).2, dst_one, if_pos hm, List.append_nil]
theorem gS_new {cs : List Int} {ls : List (List Vl)} {i : Nat} (h : i < ls.length) (hm : ¬ pck ls[i] cs ∈ (ls.take i).map fun r => pck r cs) : gS cs ls (i + 1) = gS cs ls i ++ [(pck ls[i] cs, ofK cs ls (pck ls[i] cs))] := by
 unfold gS
 rw [take_map h, (BM.dist_parts _ _).2, dst_one, if_neg hm, List.map_append]
 rfl
theorem gS_len (cs : List Int) (ls : List (List Vl)) (i : Nat) : (gS cs ls i).length ≤ i := by
 unfold gS
 rw [List.length_map]
 refine Nat.le_trans (BM.dst_len _ _) ?_
 rw [List.length_map]
 exact List.length_take_le _ _
theorem gS_pre (cs : List Int) (ls : List (List Vl)) (i : Nat) : ∃ t, allG cs ls = gS cs ls i ++ t := by
 unfold gS allG
 refine ⟨(BM.dst ((ls.take i).map fun r => pck r cs) ((ls.drop i).map fun r => pck r cs)).map fun k => (k, ofK cs ls k), ?_⟩
 rw [← List.map_append, ← (BM.dist_parts _ _).2, ← List.map_append, List.take_append_drop]
theorem gS_all (cs : List Int) (ls : List (List Vl)) : gS cs ls ls.length = allG cs ls := by
 unfold gS allG
 rw [List.take_length]
theorem grs_all {cs : List Int} {ls : List (List Vl)} (h : ls ≠ []) : grs cs ls = allG cs ls := by
 unfold grs
 split
 ·
  rename_i e
  subst e
  have hd : ∀ l : List (List Vl), (∀ x ∈ l, x = []) → l ≠ [] → BM.dist l = [[]] := by
   intro l hl hn
   have h1 : ∀ x ∈ BM.dist l, x = [] := fun x hx => hl x ((BM.mem_dist _).1 hx)
   have h2 := BM.dist_nodup l
   obtain ⟨a, t, rfl⟩ := List.exists_cons_of_ne_nil hn
   have h3 : [] ∈ BM.dist (a :: t) := (BM.mem_dist _).2 (by rw [hl a (by simp)]; simp)
   generalize BM.dist (a :: t) = d at *
   match d, h1, h2, h3 with
   | [x], h1, _, _ => rw [h1 x (by simp)]
   | x :: y :: t, h1, h2, _ =>
    have e1 := h1 x (by simp)
    have e2 := h1 y (by simp)
    subst e1 e2
    simp at h2
  unfold allG
  rw [hd _ (by intro x hx; obtain ⟨r, _, rfl⟩ := List.mem_map.1 hx; rfl) (by simpa using h)]
  show [([], ls)] = [([], ofK [] ls [])]
  have : ofK [] ls [] = ls := by
   unfold ofK
   rw [List.filter_eq_self]
   intro r _
   simp [pck]
  rw [this]
 · exact grp_all cs ls
theorem ofK_step {cs : List Int} {ls : List (List Vl)} {k : Nat} (h : k < ls.length) (y : List Vl) : ofK cs (ls.take (k + 1)) y = ofK cs (ls.take k) y ++ if pck ls[k] cs = y then [ls[k]] else [] := by
 rw [List.take_succ_eq_append_getElem h, ofK_snoc]
theorem ofK_len (cs : List Int) (ls : List (List Vl)) (k : Nat) (y : List Vl) : (ofK cs (ls.take k) y).length ≤ k := by
 unfold ofK
 exact Nat.le_trans (List.length_filter_le _ _) (List.length_take_le _ _)
theorem ofK_in {cs : List Int} {ls : List (List Vl)} {y r : List Vl} (h : r ∈ ofK cs ls y) : r ∈ ls := by
 unfold ofK at h
 exact (List.mem_filter.1 h).1
theorem mp_more {α β : Type} {f : α → Except Nat β} {b : α} {t : List α} : ∀ {a : List α} {x : List β}, mp f a = .ok x → (∀ c, f b = .error c → mp f (a ++ b :: t) = .error c) ∧ (∀ y, f b = .ok y → mp f (a ++ [b]) = .ok (x ++ [y]))
 | [], x, h => by
  cases h
  refine ⟨fun c e => mp_err e, fun y e => ?_⟩
  show mp f [b] = _
  rw [mp_ok e]
  rfl
 | a :: l, x, h => by
  cases e : f a with
  | error c => rw [mp_err e] at h; cases h
  | ok z =>
   rw [mp_ok e] at h
   cases e2 : mp f l with
   | error c => rw [e2] at h; cases h
   | ok z2 =>
    rw [e2] at h
    have hx : [z] ++ z2 = x := by injection h
    subst hx
    obtain ⟨i1, i2⟩ := mp_more (f := f) (b := b) (t := t) e2
    refine ⟨fun c ec => ?_, fun y ey => ?_⟩
    · rw [List.cons_append, mp_ok e, i1 c ec]; rfl
    · rw [List.cons_append, mp_ok e, i2 y ey]; rfl
theorem old_step {cs : List Int} {ls : List (List Vl)} {k i : Nat} {key : List Vl} (h : k < ls.length) : (key ∈ (ls.take (min (k + 1) i)).map fun r => pck r cs) ↔ (key ∈ (ls.take (min k i)).map fun r => pck r cs) ∨ (k < i ∧ pck ls[k] cs = key) := by
 by_cases hk : k < i
 ·
  rw [Nat.min_eq_left (by omega), Nat.min_eq_left (by omega), take_map h, List.mem_append, List.mem_singleton]
  constructor
  ·
   rintro (h1 | h1)
   · exact .inl h1
   · exact .inr ⟨hk, h1.symm⟩
  ·
   rintro (h1 | h1)
   · exact .inl h1
   · exact .inr h1.2.symm
 ·
  rw [Nat.min_eq_right (by omega), Nat.min_eq_right (by omega)]
  exact ⟨.inl, fun h1 => h1.elim id fun h2 => absurd h2.1 hk⟩
theorem telR_all {gs : List Ag} {key : List Vl} {of : List (List Vl)} {vs : List Vl} (h : mp (tel of) gs = .ok vs) : telR gs (key, of) = .ok (key ++ vs) := by
 show pre key (mp (tel of) gs) = _
 rw [h]
 rfl
theorem telR_err {gs : List Ag} {key : List Vl} {of : List (List Vl)} {vs : List Vl} {j : Nat} {c : Nat} (hj : j < gs.length) (h : mp (tel of) (gs.take j) = .ok vs) (he : tel of gs[j] = .error c) : telR gs (key, of) = .error c := by
 show pre key (mp (tel of) gs) = _
 have e : gs = gs.take j ++ gs[j] :: gs.drop (j + 1) := by rw [← List.drop_eq_getElem_cons hj, List.take_append_drop]
 have h1 := (mp_more (f := tel of) (b := gs[j]) (t := gs.drop (j + 1)) h).1 c he
 rw [← e] at h1
 rw [h1]
 rfl
theorem colOk_in {ls : List (List Vl)} {g : Ag} (h : colOk ls g = true) (hw : ∀ r ∈ ls, r.length = wd ls) : (g.kind = 1 ∧ g.col = -1) ∨ ∀ r ∈ ls, 0 ≤ g.col ∧ g.col < (r.length : Int) := by
 unfold colOk at h
 rw [Bool.or_eq_true, decide_eq_true_eq] at h
 rcases h with h | h
 · exact .inr fun r hr => hasC_in h hr (hw r hr)
 · exact .inl h
end BG
theorem someIs_any (v u : Value) (r : List VM.Vl) (cs : List Int) (w : World) (hr : IsL cdV w v r) (hc : IsL cdZ w u cs) (hin : ∀ c ∈ cs, 0 ≤ c ∧ c < (r.length : Int)) (hl : cs.length ≤ 1000) :
  Calls Tryz.prog 56 #[v, u] w fun e w' => ∃ a c, e = .returned (.slice a cs.length c) ∧ w'.ownsRow w.heap.size 56 3 (.slice a cs.length c) (BG.pck r cs).length (flat cdV (BG.pck r cs)) ∧ Fr w w' :=
 (someOf_any v u r cs w hr hc hin hl).mono fun e w' ⟨x, h1, h2, h3⟩ => by
  obtain ⟨a, c, rfl⟩ := own_slice h2
  exact ⟨a, c, h1, by rw [BG.pck_len]; exact h2, h3⟩
theorem c2_two {w w' : World} {a b : Addr} {u v : Value} (fr : Fr w w') (h : w.cell? a = some u ∧ w.cell? b = some v) : w'.cell? a = some u ∧ w'.cell? b = some v :=
 ⟨(Below.cell fr (World.block_lt_of_cell? _ _ h.1)).trans h.1, (Below.cell fr (World.block_lt_of_cell? _ _ h.2)).trans h.2⟩
set_option maxHeartbeats 16000000 in
theorem groupOf_any (v cv gv : Value) (ls : List (List VM.Vl)) (cs : List Int) (gs : List BG.Ag) (w : World) (h : IsRR w v ls) (hc : IsL cdZ w cv cs) (hg : IsL cdG w gv gs) (hok : ∀ r ∈ ls, ∀ x ∈ r, WH.Ok x.n) (hsz : ∀ r ∈ ls, ∀ x ∈ r, x.s.size ≤ maxLen) (hL : ls.length ≤ 9223372036854775806) (hR : ∀ r ∈ ls, r.length ≤ 9223372036854775806) (hC : cs.length ≤ 4611686018427387900) (hG : gs.length ≤ 4611686018427387900) :
  Calls Tryz.prog 24 #[v, cv, gv] w fun r w' => RA w.heap.size (BG.gpO ls cs gs) r w' ∧ Fr w w' := by
 have HK := hideP (show BG.gpO ls cs gs = if BG.grpE ls cs gs ≠ 0 then .error (BG.grpE ls cs gs) else BG.mp (BG.telR gs) (BG.grs cs ls) by
  unfold BG.gpO BG.grpE
  by_cases h0 : BG.chk ls = 0
  ·
   by_cases h1 : BG.gE ls cs gs = 0
   · simp [h0, h1]
   · simp [h0, h1]
  · simp [h0])
 have HCk := hideP (groupCheck_any v cv gv ls cs gs w h hc hg hL hR hC hG)
 have HFa := hideP (fun (h0 : BG.grpE ls cs gs = 0) => show (BG.chk ls = 0 ∧ BG.gE ls cs gs = 0) by
  unfold BG.grpE at h0
  by_cases h1 : BG.chk ls = 0
  · rw [if_neg (by simp [h1])] at h0; exact ⟨h1, h0⟩
  · rw [if_pos h1] at h0; exact absurd h0 h1)
 have HCs := hideP hc
 have HOk := hideP hok
 have HSz := hideP hsz
 obtain ⟨a, c, rfl⟩ := h.slice
 obtain ⟨qs, hq, _, _, hcell, hrow⟩ := h.at
 have HCe := hideP hcell
 have HRo := hideP hrow
 obtain ⟨ca, cc, rfl⟩ : ∃ ca cc, cv = .slice ca cs.length cc := by obtain ⟨ca, cc, e, _⟩ := hc; exact ⟨ca, cc, e⟩
 obtain ⟨ga, gc, rfl, hgc, hgs⟩ := hg
 have HGs := hideP hgs
 clear hgs h hc hL hR hC hG hok hsz hcell hrow
 obtain ⟨i0, hi0, hz0, hz1, hz2⟩ := info_parts Tryz.infoVs9
 obtain ⟨j0, hj0, jz0, jz1, jz2⟩ := info_parts Tryz.infoV9
 generalize BG.gpO ls cs gs = R at *
 by_cases h0 : BG.grpE ls cs gs = 0
 case neg =>
  replace HK := hideP (HK.out.trans (if_pos h0))
  generalize BG.grpE ls cs gs = z at *
  have e1 : ((z : Int) != 0) = true := by simp; omega
  have e2 : ¬ ((z : Int) = 0) := by omega
  clear HFa h0
  go_enter Tryz.func24, Tryz.ntmps24
  go_wp2_with fail
  refine HCk.out.mono ?_
  rintro _ w1 ⟨rfl, f1⟩
  have F1 := hideP f1
  clear f1 HCk
  go_wp2_with fail
  go_ret2
  exact ⟨by rw [HK.out]; rfl, F1.out⟩
 replace HK := hideP (HK.out.trans (if_neg (by simpa using h0)))
 obtain ⟨g1, g2⟩ := HFa.out h0
 obtain ⟨h40, hall⟩ := BG.chk_all g1
 obtain ⟨g8, gk, gcs, ggs⟩ := BG.gE_ok g2
 rw [h0] at HCk
 have HIn := hideP (show ∀ r ∈ ls, ∀ c ∈ cs, 0 ≤ c ∧ c < (r.length : Int) from fun r hr c hcm => BG.hasC_in (gcs c hcm) hr (hall r hr).2.2)
 have HLn := hideP (show ∀ r ∈ ls, r.length ≤ 8 from fun r hr => (hall r hr).1)
 have HTl := hideP (fun (x : Value) (l : List (List VM.Vl)) (hl : ∀ r ∈ l, r ∈ ls) (hn : l.length ≤ 40) W (hx : IsRR W x l) (g : BG.Ag) (hgm : g ∈ gs) => toldOf_any x l g W hx (gk g hgm) (by
  rcases BG.colOk_in (ggs g hgm) (fun r hr => (hall r hr).2.2) with h | h
  · exact .inl h
  · exact .inr fun r hr => h r (hl r hr)) (fun r hr x hx => chk_at (hall r (hl r hr)).2.1 x hx) (fun r hr => HOk.out r (hl r hr)) (fun r hr => HSz.out r (hl r hr)) hn)
 clear HFa h0 g1 g2 hall gk gcs ggs HOk HSz
 by_cases hn0 : ls = []
 case pos =>
  subst hn0
  by_cases hc0 : cs = []
  case neg =>
   have hcl : 0 < cs.length := List.length_pos_iff.2 hc0
   have e1 : ¬ ((cs.length : Int) = 0) := by omega
   have e2 : ((cs.length : Int) == 0) = false := beq_false_of_ne e1
   have HZ := hideP (show R = .ok [] by rw [HK.out]; unfold BG.grs; rw [if_neg hc0]; rfl)
   simp only [List.length_nil] at HCk ⊢
   clear HTl HIn
   go_enter Tryz.func24, Tryz.ntmps24
   go_wp2_with fail
   refine HCk.out.mono ?_
   rintro _ w1 ⟨rfl, f1⟩
   have F1 := hideP f1
   clear f1 HCk
   go_wp2_with fail
   go_loopw [9, 10, 11, 12, 13, 14, 15, 16, 17] (fun ov iv _ _ _ _ _ _ _ wr => iv = .int .i64 0 ∧ ov = .slice none 0 0 ∧ Fr w wr) (fun _ _ _ _ _ _ _ _ _ _ => 0)
   case atStart => exact ⟨rfl, rfl, F1.out⟩
   case round =>
    clear F1
    obtain ⟨rfl, rfl, hfr⟩ := hrel
    have HF := hideP hfr
    clear hfr
    go_wp2_with fail
    go_ret2
    exact ⟨by rw [HZ.out]; exact ⟨_, rfl, ORR.nil _ _⟩, HF.out⟩
  subst hc0
  have hg0 : BG.grs ([] : List Int) ([] : List (List VM.Vl)) = [([], [])] := rfl
  rw [hg0] at HK
  simp only [List.length_nil] at HCk ⊢
  clear HIn hg0
  go_enter Tryz.func24, Tryz.ntmps24
  go_wp2_with fail
  refine HCk.out.mono ?_
  rintro _ w1 ⟨rfl, f1⟩
  have F1 := hideP f1
  clear f1 HCk
  go_wp2_with fail
  go_loopw [9, 10, 11, 12, 13, 14, 15, 16, 17] (fun ov iv _ _ _ _ _ _ _ wr => ∃ (i : Nat) (outs : List (List VM.Vl)), iv = .int .i64 i ∧ i ≤ 1 ∧ ORR w.heap.size wr ov outs ∧ BG.mp (BG.telR gs) (([([], [])] : List (List VM.Vl × List (List VM.Vl))).take i) = .ok outs ∧ Fr w wr) (fun _ iv _ _ _ _ _ _ _ _ => 1 - (intOf iv).toNat)
  case atStart => exact ⟨0, [], rfl, Nat.zero_le _, ORR.nil _ _, rfl, F1.out⟩
  case round =>
   clear F1
   obtain ⟨i, outs, rfl, hi, hO, hmp, hfr⟩ := hrel
   obtain ⟨oa, oc, rfl⟩ := hO.slice
   by_cases hlt : i < 1
   case neg =>
    obtain rfl : i = 1 := by omega
    have HZ := hideP (show R = .ok outs by rw [HK.out]; exact hmp)
    have HO := hideP hO
    have HF := hideP hfr
    clear hO hfr hmp
    go_wp2_with fail
    go_ret2
    exact ⟨by rw [HZ.out]; exact ⟨_, rfl, HO.out⟩, HF.out⟩
   obtain rfl : i = 0 := by omega
   rw [show (((0 : Nat) : Int)) = (0 : Int) from rfl]
   have hol : outs.length = 0 := BG.mp_len hmp
   have hou : outs = [] := List.length_eq_zero_iff.1 hol
   have hon : outs.length ≤ 40 := by omega
   have HNx := hideP (fun (y : List VM.Vl) (hy : BG.telR gs ([], []) = .ok y) => show BG.mp (BG.telR gs) (([([], [])] : List (List VM.Vl × List (List VM.Vl))).take (0 + 1)) = .ok (outs ++ [y]) by
    rw [hou]
    show BG.mp (BG.telR gs) [([], [])] = _
    rw [BG.mp_ok hy]
    rfl)
   have HErr := hideP (fun c (hy : BG.telR gs ([], []) = .error c) => show R = .error c by rw [HK.out]; exact BG.mp_err hy)
   have Fw3 := hideP hfr
   have HO0 := hideP hO
   clear hO hfr hmp hol hou
   go_wp2_with fail
   go_loopw [11, 12, 13] (fun fv bv kv W => fv = .slice none 0 0 ∧ bv = .bool false ∧ kv = .int .i64 0 ∧ Fr w W ∧ ORR w.heap.size W (.slice oa outs.length oc) outs) (fun _ _ _ _ => 0)
   case atStart => exact ⟨rfl, rfl, rfl, Fw3.out, HO0.out⟩
   case round =>
    clear Fw3 HO0
    obtain ⟨rfl, rfl, rfl, hf, hO⟩ := hrel
    have Fw3 := hideP hf
    obtain ⟨w3, hw3⟩ : ∃ x, x = wr := ⟨_, rfl⟩
    rw [← hw3] at Fw3 hO
    have F3 := hideP (show Fr w3 wr by rw [hw3]; exact Fr.refl _)
    have HRow : Hid (wr.ownsRow w3.heap.size 56 3 (.slice none 0 0) ([] : List VM.Vl).length (flat cdV [])) := World.ownsRow_nil _ _ _ _
    have HTd := hideP (fun (g : BG.Ag) (hgm : g ∈ gs) W (f : Fr w3 W) => HTl.out (.slice none 0 0) [] (fun r hr => by cases hr) (Nat.zero_le _) W (((PR.nil 0 w3 w3).rows (Fr.refl w3)).fr f) g hgm)
    obtain ⟨key, hkey⟩ : ∃ k : List VM.Vl, [] = k := ⟨_, rfl⟩
    obtain ⟨ofl, hof⟩ : ∃ k : List (List VM.Vl), [] = k := ⟨_, rfl⟩
    have hkl : key.length ≤ 8 := by rw [← hkey]; exact Nat.zero_le _
    have HO := hideP hO
    obtain ⟨i, hie⟩ : ∃ i : Nat, 0 = i := ⟨_, rfl⟩
    have hil : i < 1 := by omega
    have HIe := hideP hie
    replace HNx := hideP (fun y (hy : BG.telR gs (key, ofl) = .ok y) => show BG.mp (BG.telR gs) (([([], [])] : List (List VM.Vl × List (List VM.Vl))).take (i + 1)) = .ok (outs ++ [y]) by rw [← hie]; exact HNx.out y (by rw [hkey, hof]; exact hy))
    replace HErr := hideP (fun c (hy : BG.telR gs (key, ofl) = .error c) => show R = .error c from HErr.out c (by rw [hkey, hof]; exact hy))
    rw [hkey] at HRow
    rw [hof] at HTd
    clear hf hO hw3 hkey hof hie
    go_wp2_with fail
    go_loopw [14, 15, 16, 17] (fun rv kv _ _ W => ∃ (j : Nat) (vs : List VM.Vl), kv = .int .i64 j ∧ j ≤ gs.length ∧ W.ownsRow w3.heap.size 56 3 rv (key ++ vs).length (flat cdV (key ++ vs)) ∧ vs.length = j ∧ BG.mp (BG.tel ofl) (gs.take j) = .ok vs ∧ Fr w3 W) (fun _ kv _ _ _ => gs.length - (intOf kv).toNat)
    case atStart => exact ⟨0, [], rfl, Nat.zero_le _, by rw [List.append_nil]; exact HRow.out, rfl, rfl, F3.out⟩
    case round =>
     clear HRow F3
     obtain ⟨j, vs, rfl, hj, hown, hvs, hmp, hfr⟩ := hrel
     obtain ⟨ra, rc, rfl⟩ := own_slice hown
     have hrl : (key ++ vs).length ≤ 16 := by rw [List.length_append]; omega
     obtain ⟨N, hN⟩ : ∃ N, (key ++ vs).length = N := ⟨_, rfl⟩
     rw [hN] at hown hrl ⊢
     have HN := hideP hN
     clear hN
     by_cases hlj : j < gs.length
     ·
      have hlj' : (j : Int) < (gs.length : Int) := by omega
      obtain ⟨bg, og, rfl, hbg, hgat⟩ : ∃ b o, ga = some ⟨b, o, none⟩ ∧ b < w.heap.size ∧ At cdG w b o gs := by
       rcases HGs.out with h | h
       · rw [h] at hlj; simp at hlj
       · exact h
      obtain ⟨d0, d1⟩ := (hgat.fr hbg (Fw3.out.trans hfr)).g2 j hlj
      have ct := HTd.out gs[j] (List.getElem_mem hlj) _ hfr
      have hte := fun c => BG.telR_err (key := key) (c := c) hlj hmp
      have hmo := (BG.mp_more (f := BG.tel ofl) (b := gs[j]) (t := []) hmp).2
      rw [← List.take_succ_eq_append_getElem hlj] at hmo
      have hne := fun c => BG.tel_ne (ls := ofl) (g := gs[j]) (c := c)
      generalize gs[j] = g at *
      obtain ⟨kind, col⟩ := g
      simp only at d0 d1 ct
      obtain ⟨D, hD⟩ : ∃ D, BG.tel ofl ⟨kind, col⟩ = D := ⟨_, rfl⟩
      rw [hD] at ct hte hmo hne
      have HF := hideP hfr
      have HOw := hideP hown
      clear hD hgat hown hmp hfr
      cases D with
      | error c9 =>
       have hc9 := hne c9 rfl
       have HZ := hideP (HErr.out c9 (hte c9 rfl))
       have e1 : ((c9 : Int) != 0) = true := by simp; omega
       have e2 : ¬ ((c9 : Int) = 0) := by omega
       simp only [exV, vlV, EX.nul] at ct
       clear hte hmo hne hc9
       go_wp2_with fail
       refine ct.mono ?_
       rintro _ w5 ⟨rfl, f5⟩
       have F5 := hideP (Fw3.out.trans (HF.out.trans f5))
       clear f5 ct d0 d1
       go_wp2_with fail
       go_ret2
       exact ⟨by rw [HZ.out]; rfl, by first | exact F5.out | exact F5.out.alloc _⟩
      | ok x =>
       have HMo := hideP (hmo x rfl)
       obtain ⟨xk, xn, xs⟩ := x
       simp only [exV, vlV] at ct
       clear hte hmo hne
       go_wp2_with fail
       refine ct.mono ?_
       rintro _ w5 ⟨rfl, f5⟩
       have fA : Fr w5 ((w5.alloc (.cells #[.int .i64 xk, .int .i64 xn, .string xs] 56)).alloc (.cells #[.int .i64 xk, .int .i64 xn, .string xs] 56)) := ((Fr.refl _).alloc _).alloc _
       have HO1 := hideP (own_fr HOw.out (f5.trans fA))
       have F5 := hideP (HF.out.trans f5)
       have FA := hideP (HF.out.trans (f5.trans fA))
       have HLit := hideP (lit_one cdV (w5.alloc (.cells #[.int .i64 xk, .int .i64 xn, .string xs] 56)) ⟨xk, xn, xs⟩ 56)
       rw [World.size_alloc] at HLit
       have hsz5 : w3.heap.size ≤ w5.heap.size := F5.out.size
       clear f5 fA ct d0 d1 HOw
       go_wp2_with (at_builtin; refine (wpList_append_L cdV rfl _ _ 31 56 j0 _ 32 rfl Tryz.underlying31 hj0 jz0 jz1 jz2 rfl w3.heap.size _ N _ rfl HO1.out (.slice (some ⟨w5.heap.size + 1, 0, none⟩) 1 1) [⟨xk, xn, xs⟩] rfl HLit.out ?c3 ?c4 ?c5 ?_))
       case c3 => (unfold maxLen; first | omega | (simp <;> omega))
       case c4 => (first | omega | (simp <;> omega))
       case c5 => (first | omega | (simp <;> omega))
       intro v2 wB own2 gr2
       have HN2 := hideP (show wB.ownsRow w3.heap.size 56 3 v2 (key ++ (vs ++ [(⟨xk, xn, xs⟩ : VM.Vl)])).length (flat cdV (key ++ (vs ++ [(⟨xk, xn, xs⟩ : VM.Vl)]))) by
        have e : (key ++ (vs ++ [(⟨xk, xn, xs⟩ : VM.Vl)])).length = N + 1 := by rw [← List.append_assoc, List.length_append, HN.out]; rfl
        rw [e]
        exact own2)
       have FB := hideP (show Fr w3 wB from Below.grown FA.out gr2 (by simp <;> omega) (own_base HO1.out))
       clear own2 gr2 HO1 HLit
       go_wp2_with fail
       go_roundw
       case rel => exact ⟨j + 1, vs ++ [⟨xk, xn, xs⟩], by go_num, by omega, HN2.out, by simp [hvs], HMo.out, FB.out⟩
       case measure => first | (simp [intOf]; done) | (simp [intOf]; omega)
     obtain rfl : j = gs.length := by omega
     rw [List.take_length] at hmp
     have HMp2 := hideP (HNx.out _ (BG.telR_all (key := key) hmp))
     obtain ⟨ps, p1, p2, p3⟩ := HO.out
     have fA : Fr wr (wr.alloc (.cells #[.slice ra N rc] 31)) := (Fr.refl _).alloc _
     have HP1 := hideP (own_fr p1 (hfr.trans fA))
     have HP2 := hideP p2
     have HP3 := hideP (fun i h1 h2 => own_fr (p3 i h1 h2) (hfr.trans fA))
     have HRw := hideP (own_fr (own_low hown Fw3.out.size) fA)
     have FA := hideP (Fw3.out.trans (hfr.trans fA))
     have HLit := hideP (lit_one cdS wr ⟨ra, N, rc⟩ 31)
     have hsz5 : w.heap.size ≤ wr.heap.size := (Fw3.out.trans hfr).size
     clear p1 p2 p3 fA hown hmp hfr
     go_wp2_with (at_builtin; refine wpList_append_L cdS rfl _ _ 22 31 i0 _ 24 rfl Tryz.underlying22 hi0 hz0 hz1 hz2 rfl w.heap.size _ outs.length _ rfl HP1.out (.slice (some ⟨wr.heap.size, 0, none⟩) 1 1) [⟨ra, N, rc⟩] rfl HLit.out ?c3 ?c4 ?c5 ?_)
     case c3 => (unfold maxLen; first | omega | (simp <;> omega))
     case c4 => (first | omega | (simp <;> omega))
     case c5 => (first | omega | (simp <;> omega))
     intro v2 wB own2 gr2
     have HSn := hideP (ORR.snoc (q := ⟨ra, N, rc⟩) (l := key ++ vs) HP1.out HP2.out HP3.out (by rw [HN.out]; exact HRw.out) own2 gr2)
     have FB := hideP (show Fr w wB from Below.grown FA.out gr2 (by simp <;> omega) (own_base HP1.out))
     clear own2 gr2 HP1 HP2 HP3 HRw HLit
     go_wp2_with fail
     go_roundw
     case rel => exact ⟨i + 1, outs ++ [key ++ vs], by first | go_num | (rw [← HIe.out]; rfl), by omega, HSn.out, HMp2.out, FB.out⟩
     case measure => first | (simp [intOf]; done) | (simp [intOf]; omega)
 have hnp : 0 < ls.length := List.length_pos_iff.2 hn0
 rw [BG.grs_all hn0] at HK
 clear hn0
 go_enter Tryz.func24, Tryz.ntmps24
 go_wp2_with fail
 refine HCk.out.mono ?_
 rintro _ w1 ⟨rfl, f1⟩
 have F1 := hideP f1
 clear f1 HCk
 go_wp2_with fail
 go_loopw [9, 10, 11, 12, 13, 14, 15, 16, 17] (fun ov iv _ _ _ _ _ _ _ wr => ∃ (i : Nat) (outs : List (List VM.Vl)), iv = .int .i64 i ∧ i ≤ ls.length ∧ ORR w.heap.size wr ov outs ∧ BG.mp (BG.telR gs) (BG.gS cs ls i) = .ok outs ∧ Fr w wr) (fun _ iv _ _ _ _ _ _ _ _ => ls.length - (intOf iv).toNat)
 case atStart => exact ⟨0, [], rfl, Nat.zero_le _, ORR.nil _ _, rfl, F1.out⟩
 case round =>
  clear F1
  obtain ⟨i, outs, rfl, hi, hO, hmp, hfr⟩ := hrel
  obtain ⟨oa, oc, rfl⟩ := hO.slice
  have hol : outs.length ≤ 40 := by rw [BG.mp_len hmp]; have := BG.gS_len cs ls i; omega
  by_cases hlt : i < ls.length
  case neg =>
   obtain rfl : i = ls.length := by omega
   rw [BG.gS_all] at hmp
   have HZ := hideP (show R = .ok outs by rw [HK.out]; exact hmp)
   have e1 : ¬ ((ls.length : Int) = 0) := by omega
   have e2 : ((ls.length : Int) == 0) = false := beq_false_of_ne e1
   have HO := hideP hO
   have HF := hideP hfr
   clear hO hfr hmp
   go_wp2_with fail
   go_ret2
   exact ⟨by rw [HZ.out]; exact ⟨_, rfl, HO.out⟩, HF.out⟩
  have hlt' : (i : Int) < (ls.length : Int) := by omega
  obtain ⟨b, o, rfl, hbb, c0⟩ := HCe.out i (by omega)
  obtain ⟨h1, h2⟩ := HRo.out i (by omega) hlt
  have hgo := BG.gS_old (cs := cs) hlt
  have hgn := BG.gS_new (cs := cs) hlt
  have hkl : (BG.pck ls[i] cs).length ≤ 8 := by rw [BG.pck_len]; omega
  have hsm := fun W (f : Fr w W) => someIs_any _ _ ls[i] cs W (h1.fr f) (HCs.out.fr f) (HIn.out _ (List.getElem_mem hlt)) (by omega)
  obtain ⟨key, hkey⟩ : ∃ k, BG.pck ls[i] cs = k := ⟨_, rfl⟩
  rw [hkey] at hgo hgn hkl
  have HKey := hideP hkey
  have hlr : ls[i].length ≤ 8 := HLn.out _ (List.getElem_mem hlt)
  obtain ⟨q, hqq⟩ : ∃ q, (qs[i]'(by omega)) = q := ⟨_, rfl⟩
  rw [hqq] at c0 hsm h2
  obtain ⟨qa, qn, qc⟩ := q
  simp only [Sq.v] at c0 hsm h2
  have HSi := hideP (fun W (f : Fr w W) => show Calls Tryz.prog 56 #[.slice qa qn qc, .slice ca cs.length cc] W fun e w' => ∃ a c, e = .returned (.slice a cs.length c) ∧ w'.ownsRow W.heap.size 56 3 (.slice a cs.length c) key.length (flat cdV key) ∧ Fr W w' by rw [← hkey]; exact hsm W f)
  have HGo := hideP hgo
  have HGn := hideP hgn
  have HMp := hideP hmp
  have Fw1 := hideP hfr
  have HO0 := hideP hO
  have HC0 := hideP c0
  clear hgo hgn hmp hO hfr c0 h1 h2 hsm hkey hqq
  go_wp2_with fail
  obtain ⟨w1, hw1⟩ : ∃ x, x = wr := ⟨_, rfl⟩
  rw [← hw1] at Fw1 HO0
  have HW1 := hideP (show Fr w1 wr by rw [hw1]; exact Fr.refl _)
  clear hw1
  go_loopw [11, 12, 13] (fun fv bv kv W => ∃ (k : Nat) (bl : Bool), kv = .int .i64 k ∧ k ≤ ls.length ∧ bv = .bool bl ∧ (bl = true ↔ key ∈ (ls.take (min k i)).map fun r => BG.pck r cs) ∧ PR w1.heap.size w W fv (BG.ofK cs (ls.take k) key) ∧ Fr w1 W) (fun _ _ kv _ => ls.length - (intOf kv).toNat)
  case atStart => exact ⟨0, false, rfl, Nat.zero_le _, rfl, by simp, PR.nil _ _ _, HW1.out⟩
  case round =>
   clear HW1
   obtain ⟨k, bl, rfl, hk, rfl, hbl, hP, hfr⟩ := hrel
   obtain ⟨fa, fc, rfl⟩ := hP.slice
   have hFl := BG.ofK_len cs ls k key
   by_cases hlk : k < ls.length
   case neg =>
    obtain rfl : k = ls.length := by omega
    have hlk' : ¬ ((ls.length : Int) < (ls.length : Int)) := by omega
    rw [Nat.min_eq_right (by omega)] at hbl
    rw [List.take_length] at hP hFl ⊢
    cases bl with
    | true =>
     have hgs := HGo.out (hbl.1 rfl)
     have HMp2 := hideP (show BG.mp (BG.telR gs) (BG.gS cs ls (i + 1)) = .ok outs by rw [hgs]; exact HMp.out)
     have HO := hideP (HO0.out.fr hfr)
     have HF := hideP (Fw1.out.trans hfr)
     clear hP hfr hbl hgs
     go_wp2_with fail
     go_roundw
     case rel => exact ⟨i + 1, outs, by go_num, by omega, HO.out, HMp2.out, HF.out⟩
     case measure => simp [intOf]; omega
    | false =>
     have hgs := HGn.out (fun h => by have := hbl.2 h; cases this)
     obtain ⟨t9, ht9⟩ := BG.gS_pre cs ls (i + 1)
     rw [hgs] at ht9
     obtain ⟨ofl, hofe⟩ : ∃ l, BG.ofK cs ls key = l := ⟨_, rfl⟩
     have HMem := hideP (show ∀ r ∈ ofl, r ∈ ls from fun r hr => by rw [← hofe] at hr; exact BG.ofK_in hr)
     rw [hofe] at hP hFl hgs ht9 ⊢
     have HNx := hideP (fun (y : List VM.Vl) (hy : BG.telR gs (key, ofl) = .ok y) => show BG.mp (BG.telR gs) (BG.gS cs ls (i + 1)) = .ok (outs ++ [y]) by
      rw [hgs]
      exact (BG.mp_more (t := []) HMp.out).2 y hy)
     have HErr := hideP (fun c (hy : BG.telR gs (key, ofl) = .error c) => show R = .error c by
      rw [HK.out, ht9, List.append_assoc]
      exact (BG.mp_more HMp.out).1 c hy)
     obtain ⟨w3, hw3⟩ : ∃ x, x = wr := ⟨_, rfl⟩
     rw [← hw3] at hP hfr
     have Fw3 := hideP (Fw1.out.trans hfr)
     have HO := hideP (HO0.out.fr hfr)
     have HZr := hideP (show Fr w3 wr by rw [hw3]; exact Fr.refl _)
     have HTd := hideP (fun (g : BG.Ag) (hgm : g ∈ gs) W (f : Fr w3 W) => HTl.out (.slice fa ofl.length fc) ofl HMem.out (by omega) W ((hP.rows Fw3.out).fr f) g hgm)
     have HSo := hideP (show Calls Tryz.prog 56 #[.slice qa qn qc, .slice ca cs.length cc] wr fun e w' => ∃ a c, e = .returned (.slice a cs.length c) ∧ w'.ownsRow w3.heap.size 56 3 (.slice a cs.length c) key.length (flat cdV key) ∧ Fr w3 w' by rw [← hw3]; exact HSi.out w3 Fw3.out)
     have d0 : wr.cell? ⟨b, o + i, none⟩ = some (.slice qa qn qc) := by rw [← hw3]; exact (Below.cell Fw3.out (World.block_lt_of_cell? _ _ HC0.out)).trans HC0.out
     have hnz : (0 : Int) < (ls.length : Int) := by omega
     clear hP hfr hbl hgs ht9 hofe hw3
     go_wp2_with fail
     refine HSo.out.mono ?_
     rintro _ w4 ⟨ra, rc, rfl, hRow, f4⟩
     have HRow := hideP hRow
     have F3 := hideP f4
     clear hRow f4 d0 HSo HZr
     go_wp2_with fail
     go_loopw [14, 15, 16, 17] (fun rv kv _ _ W => ∃ (j : Nat) (vs : List VM.Vl), kv = .int .i64 j ∧ j ≤ gs.length ∧ W.ownsRow w3.heap.size 56 3 rv (key ++ vs).length (flat cdV (key ++ vs)) ∧ vs.length = j ∧ BG.mp (BG.tel ofl) (gs.take j) = .ok vs ∧ Fr w3 W) (fun _ kv _ _ _ => gs.length - (intOf kv).toNat)
     case atStart => exact ⟨0, [], rfl, Nat.zero_le _, by rw [List.append_nil]; exact HRow.out, rfl, rfl, F3.out⟩
     case round =>
      clear HRow F3
      obtain ⟨j, vs, rfl, hj, hown, hvs, hmp, hfr⟩ := hrel
      obtain ⟨ra, rc, rfl⟩ := own_slice hown
      have hrl : (key ++ vs).length ≤ 16 := by rw [List.length_append]; omega
      obtain ⟨N, hN⟩ : ∃ N, (key ++ vs).length = N := ⟨_, rfl⟩
      rw [hN] at hown hrl ⊢
      have HN := hideP hN
      clear hN
      by_cases hlj : j < gs.length
      ·
       have hlj' : (j : Int) < (gs.length : Int) := by omega
       obtain ⟨bg, og, rfl, hbg, hgat⟩ : ∃ b o, ga = some ⟨b, o, none⟩ ∧ b < w.heap.size ∧ At cdG w b o gs := by
        rcases HGs.out with h | h
        · rw [h] at hlj; simp at hlj
        · exact h
       obtain ⟨d0, d1⟩ := (hgat.fr hbg (Fw3.out.trans hfr)).g2 j hlj
       have ct := HTd.out gs[j] (List.getElem_mem hlj) _ hfr
       have hte := fun c => BG.telR_err (key := key) (c := c) hlj hmp
       have hmo := (BG.mp_more (f := BG.tel ofl) (b := gs[j]) (t := []) hmp).2
       rw [← List.take_succ_eq_append_getElem hlj] at hmo
       have hne := fun c => BG.tel_ne (ls := ofl) (g := gs[j]) (c := c)
       generalize gs[j] = g at *
       obtain ⟨kind, col⟩ := g
       simp only at d0 d1 ct
       obtain ⟨D, hD⟩ : ∃ D, BG.tel ofl ⟨kind, col⟩ = D := ⟨_, rfl⟩
       rw [hD] at ct hte hmo hne
       have HF := hideP hfr
       have HOw := hideP hown
       clear hD hgat hown hmp hfr
       cases D with
       | error c9 =>
        have hc9 := hne c9 rfl
        have HZ := hideP (HErr.out c9 (hte c9 rfl))
        have e1 : ((c9 : Int) != 0) = true := by simp; omega
        have e2 : ¬ ((c9 : Int) = 0) := by omega
        simp only [exV, vlV, EX.nul] at ct
        clear hte hmo hne hc9
        go_wp2_with fail
        refine ct.mono ?_
        rintro _ w5 ⟨rfl, f5⟩
        have F5 := hideP (Fw3.out.trans (HF.out.trans f5))
        clear f5 ct d0 d1
        go_wp2_with fail
        go_ret2
        exact ⟨by rw [HZ.out]; rfl, by first | exact F5.out | exact F5.out.alloc _⟩
       | ok x =>
        have HMo := hideP (hmo x rfl)
        obtain ⟨xk, xn, xs⟩ := x
        simp only [exV, vlV] at ct
        clear hte hmo hne
        go_wp2_with fail
        refine ct.mono ?_
        rintro _ w5 ⟨rfl, f5⟩
        have fA : Fr w5 ((w5.alloc (.cells #[.int .i64 xk, .int .i64 xn, .string xs] 56)).alloc (.cells #[.int .i64 xk, .int .i64 xn, .string xs] 56)) := ((Fr.refl _).alloc _).alloc _
        have HO1 := hideP (own_fr HOw.out (f5.trans fA))
        have F5 := hideP (HF.out.trans f5)
        have FA := hideP (HF.out.trans (f5.trans fA))
        have HLit := hideP (lit_one cdV (w5.alloc (.cells #[.int .i64 xk, .int .i64 xn, .string xs] 56)) ⟨xk, xn, xs⟩ 56)
        rw [World.size_alloc] at HLit
        have hsz5 : w3.heap.size ≤ w5.heap.size := F5.out.size
        clear f5 fA ct d0 d1 HOw
        go_wp2_with (at_builtin; refine (wpList_append_L cdV rfl _ _ 31 56 j0 _ 32 rfl Tryz.underlying31 hj0 jz0 jz1 jz2 rfl w3.heap.size _ N _ rfl HO1.out (.slice (some ⟨w5.heap.size + 1, 0, none⟩) 1 1) [⟨xk, xn, xs⟩] rfl HLit.out ?c3 ?c4 ?c5 ?_))
        case c3 => (unfold maxLen; first | omega | (simp <;> omega))
        case c4 => (first | omega | (simp <;> omega))
        case c5 => (first | omega | (simp <;> omega))
        intro v2 wB own2 gr2
        have HN2 := hideP (show wB.ownsRow w3.heap.size 56 3 v2 (key ++ (vs ++ [(⟨xk, xn, xs⟩ : VM.Vl)])).length (flat cdV (key ++ (vs ++ [(⟨xk, xn, xs⟩ : VM.Vl)]))) by
         have e : (key ++ (vs ++ [(⟨xk, xn, xs⟩ : VM.Vl)])).length = N + 1 := by rw [← List.append_assoc, List.length_append, HN.out]; rfl
         rw [e]
         exact own2)
        have FB := hideP (show Fr w3 wB from Below.grown FA.out gr2 (by simp <;> omega) (own_base HO1.out))
        clear own2 gr2 HO1 HLit
        go_wp2_with fail
        go_roundw
        case rel => exact ⟨j + 1, vs ++ [⟨xk, xn, xs⟩], by go_num, by omega, HN2.out, by simp [hvs], HMo.out, FB.out⟩
        case measure => first | (simp [intOf]; done) | (simp [intOf]; omega)
      obtain rfl : j = gs.length := by omega
      rw [List.take_length] at hmp
      have HMp2 := hideP (HNx.out _ (BG.telR_all (key := key) hmp))
      obtain ⟨ps, p1, p2, p3⟩ := HO.out
      have fA : Fr wr (wr.alloc (.cells #[.slice ra N rc] 31)) := (Fr.refl _).alloc _
      have HP1 := hideP (own_fr p1 (hfr.trans fA))
      have HP2 := hideP p2
      have HP3 := hideP (fun i h1 h2 => own_fr (p3 i h1 h2) (hfr.trans fA))
      have HRw := hideP (own_fr (own_low hown Fw3.out.size) fA)
      have FA := hideP (Fw3.out.trans (hfr.trans fA))
      have HLit := hideP (lit_one cdS wr ⟨ra, N, rc⟩ 31)
      have hsz5 : w.heap.size ≤ wr.heap.size := (Fw3.out.trans hfr).size
      clear p1 p2 p3 fA hown hmp hfr
      go_wp2_with (at_builtin; refine wpList_append_L cdS rfl _ _ 22 31 i0 _ 24 rfl Tryz.underlying22 hi0 hz0 hz1 hz2 rfl w.heap.size _ outs.length _ rfl HP1.out (.slice (some ⟨wr.heap.size, 0, none⟩) 1 1) [⟨ra, N, rc⟩] rfl HLit.out ?c3 ?c4 ?c5 ?_)
      case c3 => (unfold maxLen; first | omega | (simp <;> omega))
      case c4 => (first | omega | (simp <;> omega))
      case c5 => (first | omega | (simp <;> omega))
      intro v2 wB own2 gr2
      have HSn := hideP (ORR.snoc (q := ⟨ra, N, rc⟩) (l := key ++ vs) HP1.out HP2.out HP3.out (by rw [HN.out]; exact HRw.out) own2 gr2)
      have FB := hideP (show Fr w wB from Below.grown FA.out gr2 (by simp <;> omega) (own_base HP1.out))
      clear own2 gr2 HP1 HP2 HP3 HRw HLit
      go_wp2_with fail
      go_roundw
      case rel => exact ⟨i + 1, outs ++ [key ++ vs], by first | go_num | (rw [← HIe.out]; rfl), by omega, HSn.out, HMp2.out, FB.out⟩
      case measure => first | (simp [intOf]; done) | (simp [intOf]; omega)
   have hlk' : (k : Int) < (ls.length : Int) := by omega
   obtain ⟨b', o', eb, hbb', c0k⟩ := HCe.out k (by omega)
   simp only [Option.some.injEq, Addr.mk.injEq, and_true] at eb
   obtain ⟨rfl, rfl⟩ := eb
   obtain ⟨h1, h2⟩ := HRo.out k (by omega) hlk
   have hst := BG.ofK_step (cs := cs) hlk key
   have hos := BG.old_step (cs := cs) (i := i) (key := key) hlk
   have hsm := fun W (f : Fr w W) => someIs_any _ _ ls[k] cs W (h1.fr f) (HCs.out.fr f) (HIn.out _ (List.getElem_mem hlk)) (by omega)
   have hkl2 : (BG.pck ls[k] cs).length ≤ 8 := by rw [BG.pck_len]; omega
   have hrw := h1
   obtain ⟨ky2, hky2⟩ : ∃ y, BG.pck ls[k] cs = y := ⟨_, rfl⟩
   rw [hky2] at hst hos hkl2
   have hsm2 := fun W (f : Fr w W) => (hky2 ▸ hsm W f : Calls Tryz.prog 56 #[(qs[k]'(by omega)).v, .slice ca cs.length cc] W fun e w' => ∃ a c, e = .returned (.slice a cs.length c) ∧ w'.ownsRow W.heap.size 56 3 (.slice a cs.length c) ky2.length (flat cdV ky2) ∧ Fr W w')
   clear hsm hky2
   generalize ls[k] = r at *
   obtain ⟨q, hqq⟩ : ∃ q, (qs[k]'(by omega)) = q := ⟨_, rfl⟩
   rw [hqq] at c0k hsm2 h2 hrw
   obtain ⟨ka, kn, kc⟩ := q
   simp only [Sq.v] at c0k hsm2 h2 hrw
   obtain ⟨F, hFe⟩ : ∃ F, BG.ofK cs (ls.take k) key = F := ⟨_, rfl⟩
   rw [hFe] at hst hP hFl ⊢
   have HSk := hideP hsm2
   have HSt := hideP hst
   have HOs := hideP hos
   have HBl := hideP hbl
   have HP := hideP hP
   have HRw := hideP hrw
   have HF := hideP hfr
   have Fw := hideP (Fw1.out.trans hfr)
   have HS := hideP (show wr.cell? ⟨b, o + k, none⟩ = some (.slice ka kn kc) ∧ wr.cell? ⟨b, o + i, none⟩ = some (.slice qa qn qc) from ⟨(Below.cell Fw.out (World.block_lt_of_cell? _ _ c0k)).trans c0k, (Below.cell Fw.out (World.block_lt_of_cell? _ _ HC0.out)).trans HC0.out⟩)
   have hz := Fr.drew (Fr.refl wr)
   clear hsm2 hst hos hbl hP hrw hfr c0k h1 h2 hFe hqq
   go_upto_region 13 with fail
   go_region_held3 (fun W => W.cell? ⟨b, o + k, none⟩ = some (.slice ka kn kc) ∧ W.cell? ⟨b, o + i, none⟩ = some (.slice qa qn qc)) (first | exact c2_two hf9 HS.out | exact c2_two hf8 HS.out | exact c2_two hf3 HS.out | exact HS.out | exact c2_two hz HS.out) (first
    | (go_at_call 56; refine (HSi.out _ (Fw.out.trans hf3)).mono ?_; rintro _ w4 ⟨ya, yc, rfl, hy4, f4⟩; have hf8 := hf3.trans f4; have hy9 := isL_own (E := cdV) hy4; have hx9 := (isL_own (E := cdV) hx3).fr f4)
    | (go_at_call 40; refine (sameRow_any _ _ ky2 key _ hx9 hy9 (by omega)).mono ?_; rintro _ w5 ⟨rfl, f5⟩; have hf9 := hf8.trans f5)
    | (go_at_call 56; refine (HSk.out _ (Fw.out.trans hz)).mono ?_; rintro _ w3 ⟨xa, xc, rfl, hx3, f3⟩; have hf3 := hz.trans f3))
   all_goals (
    have F5 := hideP (HF.out.trans hf9)
    have HP5 := hideP (HP.out.fr hf9)
    have d0 := (c2_two hf9 HS.out).1
    clear hf9 hf8 hf3 hx9 hy9 hx3 hy4 f3 f4 f5 hz HS HP
    by_cases hm : ky2 = key
    case neg =>
     have e1 : decide (ky2 = key) = false := decide_eq_false hm
     have HS2 := hideP (show BG.ofK cs (ls.take (k + 1)) key = F by rw [HSt.out, if_neg hm, List.append_nil])
     have HB2 := hideP (show bl = true ↔ key ∈ (ls.take (min (k + 1) i)).map fun r => BG.pck r cs from HBl.out.trans ⟨fun h => HOs.out.2 (.inl h), fun h => (HOs.out.1 h).elim id fun h2 => absurd h2.2 hm⟩)
     clear d0
     go_wp2_with fail
     go_roundw
     case rel => exact ⟨k + 1, bl, by go_num, by omega, rfl, HB2.out, by rw [HS2.out]; exact HP5.out, F5.out⟩
     case measure => simp [intOf]; omega
    subst hm
    have HS2 := hideP (show BG.ofK cs (ls.take (k + 1)) ky2 = F ++ [r] by rw [HSt.out, if_pos rfl])
    obtain ⟨ps, p1, p2, p3⟩ := HP5.out
    obtain ⟨w9, hw9⟩ : ∃ x, x = w5 := ⟨_, rfl⟩
    have fA : Fr w5 (w5.alloc (.cells #[.slice ka kn kc] 31)) := (Fr.refl _).alloc _
    have HP1 := hideP (own_fr p1 fA)
    have HP2 := hideP p2
    have HP3 := hideP p3
    have FA := hideP (F5.out.trans fA)
    have HLit := hideP (lit_one cdS w5 ⟨ka, kn, kc⟩ 31)
    have hsz : w1.heap.size ≤ w5.heap.size := F5.out.size
    clear p1 p2 p3 fA hw9
    go_wp2_with (at_builtin; refine (wpList_append_L cdS rfl _ _ 22 31 i0 _ 24 rfl Tryz.underlying22 hi0 hz0 hz1 hz2 rfl w1.heap.size _ F.length _ rfl HP1.out (.slice (some ⟨w5.heap.size, 0, none⟩) 1 1) [⟨ka, kn, kc⟩] rfl HLit.out ?c3 ?c4 ?c5 ?_))
    case c3 => (unfold maxLen; first | omega | (simp <;> omega))
    case c4 => (first | omega | (simp <;> omega))
    case c5 => (first | omega | (simp <;> omega))
    intro v2 wB own2 gr2
    have HN2 := hideP (PR.snoc (q := ⟨ka, kn, kc⟩) HP2.out HP3.out HRw.out own2)
    have FB := hideP (show Fr w1 wB from Below.grown FA.out gr2 (by simp <;> omega) (own_base HP1.out))
    clear own2 gr2 HP1 HP2 HP3 HLit d0
    cases bl with
    | true =>
     have HB2 := hideP (show true = true ↔ ky2 ∈ (ls.take (min (k + 1) i)).map fun r => BG.pck r cs from ⟨fun _ => HOs.out.2 (.inl (HBl.out.1 rfl)), fun _ => rfl⟩)
     go_wp2_with fail
     go_roundw
     case rel => exact ⟨k + 1, true, by go_num, by omega, rfl, HB2.out, by rw [HS2.out]; exact HN2.out, FB.out⟩
     case measure => simp [intOf]; omega
    | false =>
     have HB2 := hideP (show decide (k < i) = true ↔ ky2 ∈ (ls.take (min (k + 1) i)).map fun r => BG.pck r cs from ⟨fun h => HOs.out.2 (.inr (by simpa using h)), fun h => (HOs.out.1 h).elim (fun h => by have := HBl.out.2 h; cases this) fun h => by simpa using h⟩)
     go_wp2_with fail
     go_roundw
     case rel => exact ⟨k + 1, decide (k < i), by go_num, by omega, by simp, HB2.out, by rw [HS2.out]; exact HN2.out, FB.out⟩
     case measure => simp [intOf]; omega)
end Go.Proofs.YtbcfdhimngoplaaGreatDoor
