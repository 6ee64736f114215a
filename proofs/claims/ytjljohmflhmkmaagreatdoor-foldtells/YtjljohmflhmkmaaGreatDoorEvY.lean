/-
  What Kids of package expr answers.
-/
import Derived.Test.YtjljohmflhmkmaaGreatDoorGpG
import Derived.Test.YtjljohmflhmkmaaGreatDoorEvP
namespace Go.Proofs.YtjljohmflhmkmaaGreatDoor
open Go.ChangeShapes Go.WideShapes Go.ChangeAt Go.RowKit
set_option linter.unusedVariables false
set_option linter.unusedSimpArgs false
set_option maxRecDepth 100000
set_option maxHeartbeats 2000000

theorem Tryz.infoNs : (Tryz.prog.info? 22).map (fun i => (i.zero, i.size, i.bytes)) = some (some (.slice none 0 0), 1, 24) := by kernel_rfl
/-- rows of nodes of the call's own, in a row of its own -/
def OLL (B : Nat) (w : World) (v : Value) (ls : List (List EX.Nd)) : Prop :=
  ∃ qs : List Sl, w.ownsRow B 22 1 v ls.length (flat cdQ qs) ∧ qs.length = ls.length ∧ ∀ i (h1 : i < qs.length) (h2 : i < ls.length), w.ownsRow B 38 6 qs[i].v ls[i].length (flat cdN ls[i])
theorem OLL.fr {B : Nat} {w w' : World} {v : Value} {ls : List (List EX.Nd)} (h : OLL B w v ls) (f : Fr w w') : OLL B w' v ls := by
  obtain ⟨qs, h1, h2, h3⟩ := h
  exact ⟨qs, own_fr h1 f, h2, fun i a b => own_fr (h3 i a b) f⟩
theorem OLL.isLL {B : Nat} {w : World} {v : Value} {ls : List (List EX.Nd)} (h : OLL B w v ls) : IsLL w v ls := by
  obtain ⟨qs, h1, h2, h3⟩ := h
  exact ⟨qs, isL_own (E := cdQ) (l := qs) (by rw [h2]; exact h1), h2, fun i a b => isL_own (E := cdN) (h3 i a b)⟩
theorem OLL.low {A B : Nat} {w : World} {v : Value} {ls : List (List EX.Nd)} (h : OLL B w v ls) (hA : A ≤ B) : OLL A w v ls := by
  obtain ⟨qs, h1, h2, h3⟩ := h
  exact ⟨qs, own_low h1 hA, h2, fun i a b => own_low (h3 i a b) hA⟩
/-- a row stays what it is where another one, of another type, grows -/
theorem own_grownT {B n sz : Nat} {T T' : TypeId} {v : Value} {xs : List Value} {w w' : World} {r : Option Nat} (h : w.ownsRow B T sz v n xs) (hT : T' ≠ T) (hr : ∀ g, r = some g → ∃ cur, w.heap[g]? = some (.cells cur T' (0, 0))) (hg : w.grownBy w' r) : w'.ownsRow B T sz v n xs := by
  refine own_keep h fun k cur hk hc => hg.block k (Array.getElem?_eq_some_iff.1 hc).1 ?_
  intro e
  obtain ⟨cur', h'⟩ := hr k e.symm
  rw [hc] at h'
  injection h' with h'
  injection h' with _ h' _
  exact hT h'.symm
theorem OLL.snoc {B : Nat} {w w' : World} {v v' : Value} {ls : List (List EX.Nd)} {qs : List Sl} {q : Sl} {l : List EX.Nd} (hown : w.ownsRow B 22 1 v ls.length (flat cdQ qs)) (hlen : qs.length = ls.length) (hall : ∀ i (h1 : i < qs.length) (h2 : i < ls.length), w.ownsRow B 38 6 qs[i].v ls[i].length (flat cdN ls[i]))
    (hq : w.ownsRow B 38 6 q.v l.length (flat cdN l)) (ho : w'.ownsRow B 22 1 v' (ls.length + 1) (flat cdQ (qs ++ [q]))) (hg : w.grownBy w' v.ownBlock) :
    ∀ i (h1 : i < (qs ++ [q]).length) (h2 : i < (ls ++ [l]).length), w'.ownsRow B 38 6 (qs ++ [q])[i].v (ls ++ [l])[i].length (flat cdN (ls ++ [l])[i]) := by
  intro i h1 h2
  have key : ∀ {v n xs}, w.ownsRow B 38 6 v n xs → w'.ownsRow B 38 6 v n xs := fun h => own_grownT h (by decide) (own_block hown) hg
  by_cases hi : i < qs.length
  · rw [List.getElem_append_left hi, List.getElem_append_left (by omega)]
    exact key (hall i hi (by omega))
  · rw [List.getElem_append_right (by omega), List.getElem_append_right (by omega)]
    simp only [List.getElem_singleton]
    exact key hq
theorem isL_cut {α : Type} {E : Cd α} {W : World} {b o n c : Nat} {l : List α} (hl : n = l.length) (hb : b < W.heap.size) (hat : At E W b o l) (f s : Nat) (hs : f + s ≤ n) (hc : n ≤ c) (A : Option Addr) (hA : s = 0 ∨ A = some ⟨b, o + f * E.k, none⟩) : IsL E W (.slice A s (c - f)) ((l.drop f).take s) := by
  subst hl
  have hlen : ((l.drop f).take s).length = s := by rw [List.length_take, List.length_drop]; omega
  refine ⟨A, c - f, by rw [hlen], by rw [hlen]; omega, ?_⟩
  rcases hA with rfl | rfl
  · left; simp
  · right
    refine ⟨b, o + f * E.k, rfl, hb, fun j u hj => ?_⟩
    have e : flat E l = flat E (l.take f) ++ (flat E ((l.drop f).take s) ++ flat E ((l.drop f).drop s)) := by rw [← flat_app, ← flat_app, List.take_append_drop, List.take_append_drop]
    have hf : (flat E (l.take f)).length = f * E.k := by rw [flat_len, List.length_take, Nat.min_eq_left (by omega)]
    have hjl : j < (flat E ((l.drop f).take s)).length := (List.getElem?_eq_some_iff.1 hj).1
    have h2 : (flat E l)[f * E.k + j]? = some u := by
      rw [e, List.getElem?_append_right (by omega), hf, show f * E.k + j - f * E.k = j by omega, List.getElem?_append_left hjl]
      exact hj
    have := hat _ _ h2
    rwa [← Nat.add_assoc] at this
theorem EX.sm_step (ss : List Nat) (i : Nat) (h : i < ss.length) : EX.sm (ss.take (i + 1)) = EX.sm (ss.take i) + ss[i] := by
  rw [List.take_succ_eq_append_getElem h, EX.sm_app, EX.sm_one]
theorem kids_any (v : Value) (e : List EX.Nd) (w : World) (h : IsL cdN w v e) (hn : ∀ n ∈ e, n.nm.size ≤ 140737488355327) (hl : e.length ≤ 9223372036854775806) :
    Calls Tryz.prog 22 #[v] w fun r w' => ((EX.ck e = 0 ∧ ∃ u, r = .returned (.tuple #[u, .int .i64 0]) ∧ OLL w.heap.size w' u (EX.kds e)) ∨ (EX.ck e ≠ 0 ∧ r = .returned (.tuple #[.slice none 0 0, .int .i64 (EX.ck e : Int)]))) ∧ Fr w w' := by
  have HC := hideP (xcheck_any v e w h hn hl)
  obtain ⟨a, cap, rfl, hcap, hcs⟩ := h
  by_cases h0 : EX.ck e = 0
  · obtain ⟨n, k, he, hg, hd, hl60⟩ := EX.ck_tree h0
    obtain ⟨ss, hss, hkd⟩ : ∃ ss, EX.up EX.sOf e.dropLast [] = .ok ss ∧ EX.kds e = EX.cuts ss e := by
      refine ⟨EX.szs k, ?_, ?_⟩
      · rw [he, List.dropLast_concat, EX.up_vals hg.2.2.1.right, EX.vals_sOf]
      · rw [he, EX.kds_tree hg.2.2.1.right, EX.cuts_szs]
    have hsm : EX.sm ss + 1 = e.length := by
      have h1 : EX.up EX.sOf e.dropLast [] = .ok (EX.szs k) := by rw [he, List.dropLast_concat, EX.up_vals hg.2.2.1.right, EX.vals_sOf]
      rw [hss] at h1
      cases h1
      rw [he, List.length_append, EX.flat_szs]
      rfl
    have hsl : ss.length ≤ 60 := by
      have h1 : EX.up EX.sOf e.dropLast [] = .ok (EX.szs k) := by rw [he, List.dropLast_concat, EX.up_vals hg.2.2.1.right, EX.vals_sOf]
      rw [hss] at h1
      cases h1
      have h2 := hg.2.1
      have h3 := EX.vals_len (EX.vals_sOf k)
      have h4 : n.kids ≤ 7 := by
        have h := hg.1
        unfold EX.nchk at h
        split at h
        · cases h
        split at h
        · cases h
        have : EX.km n.op ≤ 7 := by unfold EX.km; (repeat' split) <;> decide
        omega
      omega
    obtain ⟨b, o, rfl, hb, hat⟩ : ∃ b o, a = some ⟨b, o, none⟩ ∧ b < w.heap.size ∧ At cdN w b o e := by
      rcases hcs with h | h
      · rw [h] at he; simp at he
      · exact h
    rw [h0] at HC ⊢
    simp only [ne_eq, not_true, false_and, or_false, true_and]
    have HAt := hideP hat
    have hpos : 1 ≤ e.length := by omega
    have hdl : e.dropLast.length = e.length - 1 := by simp
    have HU := hideP (fun W (g : Fr w W) => upS_any (.slice (some ⟨b, o, none⟩) (e.length - 1) cap) e.dropLast W (by
      have := isL_cut (E := cdN) (c := cap) rfl (Nat.lt_of_lt_of_le hb g.size) (hat.fr hb g) 0 (e.length - 1) (by omega) hcap (some ⟨b, o, none⟩) (.inr (by simp))
      rw [List.drop_zero, ← List.dropLast_eq_take, Nat.sub_zero] at this
      exact this) (fun n hn' => hn n (List.dropLast_subset e hn')) (by omega))
    have HS := hideP hss
    have HK := hideP hkd
    have HSm := hideP hsm
    obtain ⟨L, hL⟩ : ∃ L, e.length = L := ⟨_, rfl⟩
    have HL := hideP hL
    rw [hL] at HC HU hcap hl hl60 hpos HSm ⊢
    have hpos' : (1 : Int) ≤ (L : Int) := by omega
    have hm1 : (L : Int) - 1 ≤ (cap : Int) := by omega
    have hm0 : 0 ≤ (L : Int) - 1 := by omega
    clear hcs hat hss hkd hsm hL hdl he hn hg hd
    unfold UpSAns at HU
    obtain ⟨i0, hi0, hz0, hz1, hz2⟩ := info_parts Tryz.infoNs
    obtain ⟨mc, hmc⟩ : ∃ mc, madeCells (Value.slice none 0 0).cells (ss.length * 1) = mc := ⟨_, rfl⟩
    have hms : mc.size = ss.length * 1 := by rw [← hmc]; exact size_madeCells _ _
    have hmk : ∀ W : World, (Instr.makeSlice 42 (.int .i64 0) (.int .i64 (ss.length : Int))).run Tryz.prog W = .ok (.slice (some ⟨W.heap.size, 0, none⟩) 0 ss.length) (W.alloc (.cells mc 22)) := by
      intro W
      have hr := run_make (P := Tryz.prog) W 42 22 i0 _ Tryz.underlying42 hi0 hz0 .i64 .i64 0 (ss.length : Int) (by omega) (by omega) (by rw [hz2]; omega) (by omega)
      simp only [hz1] at hr
      rw [show (ss.length : Int).toNat * 1 = ss.length * 1 by omega, hmc] at hr
      exact hr
    have HOm := hideP (fun W (hW : w.heap.size ≤ W.heap.size) => (World.ownsRow_made (base := w.heap.size) (e := 22) (size := 1) W mc ss.length hW (by unfold maxLen; omega) hms))
    clear hms hmc
    have HLc := hideP (EX.cuts_len ss e)
    have HAc := hideP (fun i h (h2 : i < (EX.cuts ss e).length) => show (EX.cuts ss e)[i]'h2 = (e.drop (EX.sm (ss.take i))).take (ss[i]'h) from EX.cuts_at ss e i h)
    have HSt := hideP (fun i h => EX.sm_step ss i h)
    have HTk := hideP (fun i => EX.sm_take ss i)
    rw [HK.out]
    generalize EX.cuts ss e = ls at *
    go_enter Tryz.func22, Tryz.ntmps22
    go_wp2_with fail
    refine HC.out.mono ?_
    rintro _ w1 ⟨rfl, f1⟩
    have F1 := hideP f1
    clear f1
    go_wp2_with fail
    refine (HU.out _ F1.out).mono ?_
    rintro r2 w2 ⟨ha, f2⟩
    obtain ⟨u, rfl, hown2⟩ : ∃ u, r2 = .returned (.tuple #[u, .int .i64 0]) ∧ w2.ownsRow w1.heap.size 3 1 u ss.length (flat cdI ss) := by
      rcases ha with ⟨out, u, h1, h2, h3⟩ | ⟨c, h1, _⟩
      · rw [HS.out] at h1
        cases h1
        exact ⟨u, h2, h3⟩
      · rw [HS.out] at h1
        cases h1
    obtain ⟨ua, uc, rfl⟩ := own_slice hown2
    have F2 := hideP (F1.out.trans f2)
    have HO2 := hideP hown2
    clear ha f2 hown2
    go_wp2_with fail
    have HO9 := hideP (HOm.out w2 F2.out.size)
    have HO8 := hideP (World.ownsRow_made (base := w2.heap.size) (e := 22) (size := 1) w2 mc ss.length (Nat.le_refl _) (by unfold maxLen; omega) (by
      rcases HO9.out.2 with ⟨h, _⟩ | ⟨g, c9, cur, h, h2, h3, h4, h5, h6, h7⟩
      · cases h
      · cases h
        rw [new_heap] at h3
        cases h3
        exact h6))
    have F3 := hideP ((Fr.refl w2).alloc (.cells mc 22))
    clear hmk HOm HO9
    generalize w2.alloc (.cells mc 22) = w3 at *
    go_loopw [7, 8, 10, 30] (fun kv fv _ iv wr => ∃ (i : Nat), iv = .int .i64 i ∧ i ≤ ss.length ∧ fv = .int .i64 ((EX.sm (ss.take i) : Nat) : Int) ∧ OLL w2.heap.size wr kv (ls.take i) ∧ Fr w2 wr) (fun _ _ _ iv _ => ss.length - (intOf iv).toNat)
    case atStart => exact ⟨0, rfl, Nat.zero_le _, rfl, ⟨[], HO8.out, rfl, fun i h => by simp at h⟩, F3.out⟩
    case round =>
      obtain ⟨i, rfl, hi, rfl, ⟨qs, hown, hqn, hqs⟩, hfr⟩ := hrel
      have hlt_ : (ls.take i).length = i := by rw [List.length_take, HLc.out]; omega
      rw [hlt_] at hown hqn
      obtain ⟨fa, fc, rfl⟩ := own_slice hown
      have HO := hideP hown
      have HQn := hideP hqn
      have HQ := hideP hqs
      have HF := hideP hfr
      have HTl := hideP hlt_
      clear hown hqn hqs hfr hlt_
      by_cases hlt : i < ss.length
      · have hlt' : (i : Int) < (ss.length : Int) := by omega
        obtain ⟨ga, gc, hge, hgc, hgg⟩ := isL_own (E := cdI) HO2.out
        cases hge
        obtain ⟨g, og, rfl, hgb, hgat⟩ : ∃ b o, ua = some ⟨b, o, none⟩ ∧ b < w2.heap.size ∧ At cdI w2 b o ss := by
          rcases hgg with h | h
          · rw [h] at hlt; simp at hlt
          · exact h
        have d0 := (hgat.fr hgb HF.out).i1 i hlt
        have hst := HSt.out i hlt
        have htk := HTk.out (i + 1)
        have hiL : i < ls.length := by rw [HLc.out]; exact hlt
        have hac := HAc.out i hlt hiL
        generalize ss[i] = s at *
        have htake : ls.take (i + 1) = ls.take i ++ [ls[i]'hiL] := List.take_succ_eq_append_getElem hiL
        generalize EX.sm (ss.take i) = m at *
        generalize hm' : EX.sm (ss.take (i + 1)) = m' at *
        have hsum : m + s + 1 ≤ L := by have := HSm.out; omega
        have hs1 : (m : Int) + (s : Int) ≤ (cap : Int) := by omega
        have hs2 : 0 ≤ (m : Int) + (s : Int) := by omega
        have hs3 : (m : Int) ≤ (m : Int) + (s : Int) := by omega
        have hs4 : (m : Int) + (s : Int) ≤ 9223372036854775807 := by omega
        have HCut := hideP (fun A hA => isL_cut (E := cdN) (c := cap) HL.out.symm (Nat.lt_of_lt_of_le hb (F2.out.trans HF.out).size) (HAt.out.fr hb (F2.out.trans HF.out)) m s (by omega) hcap A hA)
        have HSt2 := hideP hst
        have HM2 := hideP hm'
        generalize hl9 : ls[i]'hiL = l9 at *
        have HT9 := hideP htake
        have HA9 : Hid ((e.drop m).take s = l9) := by unfold Hid; rw [← hac]
        have HLn : Hid (l9.length = s) := by unfold Hid; rw [← HA9.out, List.length_take, List.length_drop, HL.out]; omega
        rw [HA9.out] at HCut
        clear hgat hgg hst hac htk hm' htake hl9
        have HCl := hideP (cloneN_any _ l9 wr (HCut.out (some ⟨b, o + m * 6, none⟩) (.inr rfl)) (by rw [HLn.out]; omega))
        obtain ⟨n9, hn9⟩ : ∃ n9, l9.length = n9 := ⟨_, rfl⟩
        have HN9 := hideP hn9
        rw [hn9] at HCl
        clear hn9
        go_wp2_with fail
        refine HCl.out.mono ?_
        rintro _ w4 ⟨v4, rfl, own4, f4⟩
        obtain ⟨qa, qc, rfl⟩ := own_slice own4
        have HLit := hideP (lit_one cdQ w4 ⟨qa, n9, qc⟩ 22)
        have HO3 := hideP (own_fr HO.out (f4.alloc (.cells #[.slice qa n9 qc] 22)))
        have hszw := HF.out.size
        have hsz4 := f4.size
        have HU4 := hideP (own_fr (own_low own4 hszw) ((Fr.refl w4).alloc (.cells #[.slice qa n9 qc] 22)))
        have F4 := hideP (f4.alloc (.cells #[.slice qa n9 qc] 22))
        clear own4 f4
        go_wp2_with (at_builtin; refine wpList_append_L cdQ rfl _ _ 42 22 i0 _ 24 rfl Tryz.underlying42 hi0 hz0 hz1 hz2 rfl w2.heap.size _ i _ rfl HO3.out (.slice (some ⟨w4.heap.size, 0, none⟩) 1 1) [⟨qa, n9, qc⟩] rfl HLit.out ?c3 ?c4 ?c5 ?_)
        case c3 => unfold maxLen; simp <;> omega
        case c4 => simp <;> omega
        case c5 => simp <;> omega
        intro v2 wB own2 gr2
        have HN2 := hideP (show OLL w2.heap.size wB v2 (ls.take (i + 1)) from by
          rw [HT9.out]
          have own2' : wB.ownsRow w2.heap.size 22 1 v2 ((ls.take i).length + 1) (flat cdQ (qs ++ [⟨qa, n9, qc⟩])) := by rw [HTl.out]; exact own2
          refine ⟨qs ++ [⟨qa, n9, qc⟩], by rw [List.length_append]; exact own2', by rw [List.length_append, List.length_append, HTl.out, HQn.out]; rfl, ?_⟩
          refine OLL.snoc (w := w4.alloc (.cells #[.slice qa n9 qc] 22)) (v := .slice fa i fc) (by rw [HTl.out]; exact HO3.out) (by rw [HTl.out, HQn.out]) ?_ ?_ own2' gr2
          · intro j h1 h2
            exact own_fr (HQ.out j h1 h2) F4.out
          · rw [HN9.out]
            exact HU4.out)
        have FB := hideP (show Fr w2 wB from Below.grown (HF.out.trans F4.out) gr2 (by simp; omega) (own_base HO3.out))
        clear own2 gr2
        go_wp2_with fail
        go_roundw
        case rel => exact ⟨i + 1, by go_num, by omega, by rw [HM2.out, HSt2.out]; first | (go_num; done) | (simp; omega), HN2.out, FB.out⟩
        case measure => simp [intOf]; omega
      · obtain rfl : i = ss.length := by omega
        have hlt' : ((ss.length : Int) < (ss.length : Int)) = False := by simp
        go_wp2_with fail
        go_ret2
        refine ⟨⟨_, rfl, ?_⟩, F2.out.trans HF.out⟩
        have e9 : ls.take ss.length = ls := by rw [← HLc.out, List.take_length]
        have := (show OLL w2.heap.size wr _ (ls.take ss.length) from ⟨qs, by rw [HTl.out]; exact HO.out, by rw [HTl.out]; exact HQn.out, HQ.out⟩).low F2.out.size
        rw [e9] at this
        exact this
  · have e1 : ((EX.ck e : Int) != 0) = true := by simp; omega
    have e2 : ¬ ((EX.ck e : Int) = 0) := by omega
    generalize EX.ck e = z at *
    clear hcs
    go_enter Tryz.func22, Tryz.ntmps22
    go_wp2_with fail
    refine HC.out.mono ?_
    rintro _ w1 ⟨rfl, f1⟩
    go_wp2_with fail
    go_ret2
    exact ⟨.inr ⟨h0, rfl⟩, f1⟩
end Go.Proofs.YtjljohmflhmkmaaGreatDoor
