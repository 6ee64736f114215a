/-
  Proved: for every expression, names and values EvalKids answers true: with literals of what its kids are worth in their places an expression is worth the same, errors too. No condition but the form's own reach.
-/
import Derived.Test.YtjboeabddnnlcaaGreatDoorEwG
import Derived.Test.YtjboeabddnnlcaaGreatDoorTabs
namespace Go.Proofs.YtjboeabddnnlcaaGreatDoor.evalKidsProof
open Go.ChangeShapes Go.WideShapes Go.ChangeAt Go.RowKit
open Go.ChangeMaps (open_string shut_string)
set_option linter.unusedVariables false
set_option linter.unusedSimpArgs false
set_option maxRecDepth 100000

namespace EV
open VM EX Go.Proofs.YtjboeabddnnlcaaGreatDoor.EV
/-- what is known of the first kids -/
structure KI (k : F) (cs : List ByteArray) (l : List Vl) (i : Nat) (ws : List Vl) : Prop where
  len : ws.length = i
  co : coE cs l = 0 ∨ i = 0
  vs : coE cs l = 0 → vals (wo (fnd (cs.zip l))) (F.take i k) = .ok ws
  ok : ∀ y ∈ ws, chk y = 0 ∧ 0 ≤ y.n ∧ gd y
theorem KI.none (k : F) (cs : List ByteArray) (l : List Vl) : KI k cs l 0 [] := ⟨rfl, .inr rfl, fun _ => by cases k <;> rfl, fun y hy => by simp at hy⟩
theorem part_mem : ∀ (t : F) (i : Nat) (h : i < t.parts.length), ∀ x ∈ t.parts[i], x ∈ t.flat
  | .nd n k s, 0, _, x, hx => by
    simp only [F.parts, List.getElem_cons_zero] at hx
    simp only [F.flat]
    rw [List.mem_append] at hx ⊢
    rcases hx with hx | hx
    · exact .inl hx
    · right; simp at hx; simp [hx]
  | .nd n k s, i + 1, h, x, hx => by
    simp only [F.parts, List.getElem_cons_succ] at hx
    simp only [F.flat]
    exact List.mem_append_right _ (List.mem_cons_of_mem _ (part_mem s i (by simpa [F.parts] using h) x hx))
theorem ev_co {e : List Nd} {cs : List ByteArray} {l : List Vl} (h : ck e = 0) (hco : coE cs l ≠ 0) : ev e cs l = .error (coE cs l) := by
  unfold ev
  rw [if_neg (by simp [h]), if_pos hco]
theorem kid_any {n : Nd} {k : F} {cs : List ByteArray} {l : List Vl} {i : Nat} {ws : List Vl} (hg : (F.nd n k .nil).good) (hck : ck (k.flat ++ [n]) = 0) (hK : KI k cs l i ws) (h : i < k.parts.length) (hn : ∀ x ∈ k.flat, gd x.v) (hl : ∀ x ∈ l, gd x) :
    (∃ w, ev k.parts[i] cs l = .ok w ∧ (0 ≤ w.n → KI k cs l (i + 1) (ws ++ [w]))) ∨ (∃ c, c ≠ 0 ∧ ev k.parts[i] cs l = .error c ∧ ev (k.flat ++ [n]) cs l = .error c) := by
  obtain ⟨n', k', hp, hg', hd', hl'⟩ := part_at k i h hg.2.2.1
  obtain ⟨_, _, e1, hg1, hd1, hl1⟩ := ck_tree hck
  have hdep : mx (dp k) + 1 ≤ 12 := by
    have h1 := dep_tree hg
    have h2 := dep_tree hg1
    rw [← e1, h1] at h2
    rw [e1] at hl1
    have hle : ¬ 60 < (k.flat ++ [n]).length := by rw [e1]; omega
    rw [if_neg hle, if_neg hle] at h2
    by_cases h12 : 12 < mx (dp k) + 1
    · rw [if_pos h12, if_neg (by omega)] at h2
      cases h2
    · omega
  have hckp : ck (k'.flat ++ [n']) = 0 := ck_of hg' (by omega) (by rw [List.length_append] at hl1; omega)
  by_cases hco : coE cs l = 0
  · rw [hp, ev_nv hg' hckp hco, ev_nv hg hck hco]
    cases hv : nv (wo (fnd (cs.zip l))) n' k' with
    | error c =>
      right
      have hne : c ≠ 0 := by
        have h1 := ev_nv hg' hckp hco
        rw [hv] at h1
        exact ev_ne h1
      refine ⟨c, hne, rfl, ?_⟩
      have := vals_take_err k i h n' k' ws c hg.2.2.1 hp hg' (hK.vs hco) hv
      unfold nv
      rw [this]
    | ok w =>
      left
      refine ⟨w, rfl, fun h0 => ⟨by rw [List.length_append, hK.len]; rfl, .inl hco, fun _ => vals_take_ok k i h n' k' ws w hg.2.2.1 hp hg' (hK.vs hco) hv, ?_⟩⟩
      intro y hy
      rcases List.mem_append.1 hy with h1 | h1
      · exact hK.ok y h1
      · obtain rfl : y = w := by simpa using h1
        refine ⟨nv_chk (fnd_chk (coE_ok hco).2.2) hg'.1 hv, h0, ?_⟩
        have h1 := ev_nv hg' hckp hco
        rw [hv] at h1
        refine ev_gd (fun x hx => ?_) hl h1
        rw [← hp] at hx
        exact hn x (part_mem k i h x hx)
  · right
    refine ⟨coE cs l, hco, ?_, ev_co hck hco⟩
    rw [hp]
    exact ev_co hckp hco
theorem kid_all {n : Nd} {k : F} {cs : List ByteArray} {l : List Vl} {ws : List Vl} (hg : (F.nd n k .nil).good) (hck : ck (k.flat ++ [n]) = 0) (hK : KI k cs l k.parts.length ws) (h : k.parts.length ≠ 0) : ev (ws.map lit ++ [n]) cs l = ev (k.flat ++ [n]) cs l := by
  have hco : coE cs l = 0 := by
    rcases hK.co with h1 | h1
    · exact h1
    · exact absurd h1 h
  have hv := hK.vs hco
  rw [take_all] at hv
  exact ev_kids hg hck hco hv (fun y hy => ⟨(hK.ok y hy).1, (hK.ok y hy).2.1⟩)
end EV
set_option maxHeartbeats 4000000 in
theorem walk (v0 : Value) (e : List EX.Nd) (v1 : Value) (cs : List ByteArray) (v2 : Value) (l : List VM.Vl) (w : World) (hT : Tt w)
    (h0 : IsL cdN w v0 e) (k0 : ∀ y ∈ e, EV.okN y ∧ (-9223372036854775808 ≤ y.op ∧ y.op ≤ 9223372036854775807) ∧ (-9223372036854775808 ≤ y.kids ∧ y.kids ≤ 9223372036854775807)) (b0 : e.length * 64 ≤ 140737488351232)
    (h1 : IsL cdB w v1 cs) (k1 : ∀ y ∈ cs, y.size ≤ 140737488351232) (b1 : cs.length * 16 ≤ 140737488351232)
    (h2 : IsL cdV w v2 l) (k2 : ∀ y ∈ l, EV.gd y ∧ y.s.size ≤ 140737488351232) (b2 : l.length * 32 ≤ 140737488351232) :
    Calls Tryz.prog 7 #[v0, v1, v2] w fun e w' => e = .returned (.bool true) ∧ Fr w w' := by
  obtain ⟨i0, hi0, hz0, hz1, hz2⟩ := info_parts Tryz.infoN
  have HE := hideP (fun W (g : Fr w W) => eval_any v0 v1 v2 e cs l W (h0.fr g) (h1.fr g) (h2.fr g) (fun n hn => (k0 n hn).1.1) (by omega) (fun c hc => by have := k1 c hc; omega) (hT.tn.fr g) (hT.tb.fr g) (fun n hn => (k0 n hn).1.2) (fun x hx => (k2 x hx).1))
  have HK := hideP (fun W (g : Fr w W) => kids_any v0 e W (h0.fr g) (fun n hn => (k0 n hn).1.1) (by omega))
  have HBg := hideP (fun W (g : Fr w W) => evalBegun_any W (hT.tn.fr g) (hT.tb.fr g))
  have HEx := hideP (fun W u (g : Fr w W) (x : List EX.Nd) (hx : ∀ n ∈ x, EV.okN n) (hl : x.length ≤ 1000) (hu : IsL cdN W u x) => eval_any u v1 v2 x cs l W hu (h1.fr g) (h2.fr g) (fun n hn => (hx n hn).1) (by omega) (fun c hc => by have := k1 c hc; omega) (hT.tn.fr g) (hT.tb.fr g) (fun n hn => (hx n hn).2) (fun x hx => (k2 x hx).1))
  have HBad : Hid (EX.ck e ≠ 0 → EV.ev e cs l = .error (EX.ck e)) := fun h => by unfold EV.ev; rw [if_pos h]
  have HK2 : Hid (∀ x ∈ l, EV.gd x) := fun x hx => (k2 x hx).1
  have HK0 : Hid (∀ x ∈ e, EV.okN x) := fun x hx => (k0 x hx).1
  obtain ⟨a0, c0, rfl, hc0, hcs0⟩ := h0
  obtain ⟨a1, c1, rfl, _⟩ := h1
  obtain ⟨a2, c2, rfl, _⟩ := h2
  clear k0 k1 k2 hT
  by_cases hc : EX.ck e = 0
  · rw [hc] at HK
    simp only [ne_eq, not_true, false_and, or_false, true_and] at HK
    obtain ⟨n, k, he, hg, hd, hl60⟩ := EX.ck_tree hc
    have hkd : EX.kds e = k.parts := by rw [he, EX.kds_tree hg.2.2.1.right]
    rw [hkd] at HK
    subst he
    obtain ⟨bb, o, rfl, hb, hat⟩ : ∃ b o, a0 = some ⟨b, o, none⟩ ∧ b < w.heap.size ∧ At cdN w b o (k.flat ++ [n]) := by
      rcases hcs0 with h | h
      · simp at h
      · exact h
    obtain ⟨q0, q1, q2, q3, q4, q5⟩ := hat.nd k.flat.length (by simp)
    simp only [List.getElem_concat_length] at q0 q1 q2 q3 q4 q5
    have HQ : Hid (w.cell? ⟨bb, o + k.flat.length * 6, none⟩ = some (.int .i64 n.op) ∧ w.cell? ⟨bb, o + k.flat.length * 6 + 1, none⟩ = some (.int .i64 n.kids) ∧ w.cell? ⟨bb, o + k.flat.length * 6 + 2, none⟩ = some (.int .i64 n.v.k) ∧ w.cell? ⟨bb, o + k.flat.length * 6 + 3, none⟩ = some (.int .i64 n.v.n) ∧ w.cell? ⟨bb, o + k.flat.length * 6 + 4, none⟩ = some (.string n.v.s) ∧ w.cell? ⟨bb, o + k.flat.length * 6 + 5, none⟩ = some (.string n.nm)) := ⟨q0, q1, q2, q3, q4, q5⟩
    clear q0 q1 q2 q3 q4 q5 hcs0 hat
    have hlen : (k.flat ++ [n]).length = k.flat.length + 1 := by rw [List.length_append]; rfl
    have HKid := hideP (fun i ws (hK : EV.KI k cs l i ws) h => EV.kid_any hg hc hK h (fun x hx => (HK0.out x (List.mem_append_left _ hx)).2) HK2.out)
    have HAll := hideP (fun ws (hK : EV.KI k cs l k.parts.length ws) h => EV.kid_all hg hc hK h)
    have HPart := hideP (fun i (h : i < k.parts.length) => show (∀ x ∈ k.parts[i], EV.okN x) ∧ k.parts[i].length ≤ 60 from ⟨fun x hx => HK0.out x (List.mem_append_left _ (EV.part_mem k i h x hx)), by
      obtain ⟨n', k', hp, _, _, hl'⟩ := EX.part_at k i h hg.2.2.1
      rw [hp]
      rw [hlen] at hl60
      omega⟩)
    have hpl : k.parts.length ≤ 7 := by
      rw [EX.F.parts_len]
      have h2 := hg.2.1
      have h4 : n.kids ≤ 7 := by
        have h := hg.1
        unfold EX.nchk at h
        split at h
        · cases h
        split at h
        · cases h
        have : EX.km n.op ≤ 7 := by unfold EX.km; (repeat' split) <;> decide
        omega
      omega
    have HOkn : Hid (EV.okN n) := HK0.out n (by simp)
    obtain ⟨R, hR⟩ : ∃ R, EV.ev (k.flat ++ [n]) cs l = R := ⟨_, rfl⟩
    rw [hR] at HE HKid HAll
    rw [hlen] at HE HK hc0 b0 hl60 ⊢
    obtain ⟨kf, hkf⟩ : ∃ kf, k.flat.length = kf := ⟨_, rfl⟩
    rw [hkf] at HE HK hc0 b0 hl60 HQ ⊢
    have HKi0 := hideP (EV.KI.none k cs l)
    have HKi : Hid (∀ i ws, EV.KI k cs l i ws → ws.length = i ∧ ∀ y ∈ ws, EV.gd y) := fun i ws h => ⟨h.len, fun y hy => (h.ok y hy).2.2⟩
    have HExV := hideP (exV_form R)
    have HErr : Hid (∀ c, R = .error c → exV R = .tuple #[.agg #[.int .i64 0, .int .i64 0, .string ⟨#[]⟩], .int .i64 (c : Int)]) := fun c h => by rw [h]; rfl
    generalize k.parts = ls at *
    obtain ⟨rk, rn, rs, rc, hXR⟩ := HExV.out
    have HXR := hideP hXR
    rw [hXR] at HE
    obtain ⟨op, kids, ⟨vk, vn, vs⟩, nm⟩ := n
    simp only at HQ
    generalize cs.length = n1 at *
    generalize l.length = n2 at *
    clear hkf hlen hR hg hd hc hkd HBad HK0 HExV hXR
    go_enter Tryz.func7, Tryz.ntmps7
    go_wp2_with fail
    refine (HE.out _ (Fr.refl w)).mono ?_
    rintro _ w2 ⟨rfl, f2⟩
    have HV := hideP (Blk.new w2 #[.int .i64 rk, .int .i64 rn, .string rs] 26)
    have F2 := hideP (f2.alloc (.cells #[.int .i64 rk, .int .i64 rn, .string rs] 26))
    clear f2
    go_wp2_with fail
    generalize w2.alloc (.cells #[.int .i64 rk, .int .i64 rn, .string rs] 26) = wv at *
    generalize w2.heap.size = bv at *
    refine (HK.out _ F2.out).mono ?_
    rintro _ w3 ⟨⟨u, rfl, hll⟩, f3⟩
    obtain ⟨qs, hq, hqn, hqs⟩ := hll.isLL
    obtain ⟨ua, uc, rfl, huc, hucs⟩ := hq
    have HQn := hideP hqn
    have HQs := hideP (show ∀ i (h1 : i < qs.length) (h2 : i < ls.length), IsL cdN w3 qs[i].v ls[i] from hqs)
    have HUc := hideP hucs
    have F3 := hideP (F2.out.trans f3)
    replace HV := hideP (HV.out.fr f3)
    rw [hqn] at huc ⊢
    clear hll hqn hqs hucs f3 HK HE
    go_wp2_with fail
    refine (HBg.out _ F3.out).mono ?_
    rintro _ w4 ⟨rfl, f4⟩
    have F34 := hideP f4
    have F4 := hideP (F3.out.trans f4)
    replace HV := hideP (HV.out.fr f4)
    clear f4
    go_wp2_with fail
    go_loopw [11, 12, 13, 14] (fun pv iv _ _ wr => ∃ (i : Nat) (ws : List VM.Vl), iv = .int .i64 i ∧ i ≤ ls.length ∧ EV.KI k cs l i ws ∧ wr.ownsRow w4.heap.size 38 6 pv i (flat cdN (ws.map EV.lit)) ∧ Fr w4 wr) (fun _ iv _ _ _ => ls.length - (intOf iv).toNat)
    case atStart => exact ⟨0, [], rfl, Nat.zero_le _, HKi0.out, World.ownsRow_nil _ _ _ _, Fr.refl _⟩
    case round =>
      obtain ⟨i, ws, rfl, hi, hKI, hown, hfr⟩ := hrel
      obtain ⟨fa, fc, rfl⟩ := own_slice hown
      have HO := hideP hown
      have HF := hideP hfr
      have HKI := hideP hKI
      have hsz := hfr.size
      clear hown hfr hKI
      by_cases hlt : i < ls.length
      · have hlt' : (i : Int) < (ls.length : Int) := by omega
        have hltq : i < qs.length := by rw [HQn.out]; exact hlt
        obtain ⟨b9, o9, rfl, hb9, hc9⟩ : ∃ b o, ua = some ⟨b, o, none⟩ ∧ b < w3.heap.size ∧ At cdQ w3 b o qs := by
          rcases HUc.out with h | h
          · rw [h] at hltq; simp at hltq
          · exact h
        have d0 := (hc9.fr hb9 (F34.out.trans HF.out)).q1 i hltq
        have HCa := hideP (HEx.out wr _ (F4.out.trans HF.out) ls[i] (HPart.out i hlt).1 (by have := (HPart.out i hlt).2; omega) ((HQs.out i hltq hlt).fr (F34.out.trans HF.out)))
        have hstep := HKid.out i ws HKI.out hlt
        generalize ls[i] = x at *
        generalize qs[i] = y at *
        obtain ⟨xa, xn, xc⟩ := y
        simp only [Sl.v] at d0 HCa
        clear hc9
        rcases hstep with ⟨y, hy, hnext⟩ | ⟨c, hc0, hy, hRe⟩
        · rw [hy] at HCa
          obtain ⟨yk, yn, ys⟩ := y
          simp only [exV, vlV] at HCa
          have HNx := hideP hnext
          clear hnext hy
          by_cases hneg : yn < 0
          · go_wp2_with fail
            refine HCa.out.mono ?_
            rintro _ w5 ⟨rfl, f5⟩
            have F5 := hideP (HF.out.trans (f5.alloc (.cells #[.int .i64 yk, .int .i64 yn, .string ys] 26)))
            clear f5 d0
            go_wp2_with fail
            go_ret
            exact ⟨rfl, F4.out.trans F5.out⟩
          · have hneg' : 0 ≤ yn := by omega
            have HKn := hideP (HNx.out hneg')
            clear HNx
            go_wp2_with fail
            refine HCa.out.mono ?_
            rintro _ w5 ⟨rfl, f5⟩
            have g5 : Fr wr (w5.alloc (.cells #[.int .i64 yk, .int .i64 yn, .string ys] 26)) := f5.alloc _
            have HO5 := hideP (own_fr HO.out g5)
            have F5 := hideP (HF.out.trans g5)
            clear f5 g5 d0
            go_wp2_with fail
            refine (nLit_any yk yn ys _).mono ?_
            rintro _ w6 ⟨rfl, f6⟩
            have HLit := hideP (lit_one cdN w6 (EV.lit ⟨yk, yn, ys⟩) 38)
            have g6 := f6.alloc (.cells #[.int .i64 1, .int .i64 0, .int .i64 yk, .int .i64 yn, .string ys, .string ⟨#[]⟩] 38)
            have HO6 := hideP (own_fr HO5.out g6)
            have hs6 : w4.heap.size ≤ w6.heap.size := (F5.out.trans f6).size
            have F6 := hideP (F5.out.trans g6)
            clear f6 g6 HO5
            go_wp2_with (at_builtin; refine wpList_append_L cdN rfl _ _ 22 38 i0 _ 64 rfl Tryz.underlying22 hi0 hz0 hz1 hz2 rfl w4.heap.size _ i _ rfl HO6.out (.slice (some ⟨w6.heap.size, 0, none⟩) 1 1) [EV.lit ⟨yk, yn, ys⟩] rfl HLit.out ?c3 ?c4 ?c5 ?_)
            case c3 => unfold maxLen; simp <;> omega
            case c4 => simp <;> omega
            case c5 => simp <;> omega
            intro v7 w7 own7 gr7
            have F7 := hideP (show Fr w4 w7 from Below.grown F6.out gr7 (by simp; omega) (own_base HO6.out))
            have HO7 := hideP (show w7.ownsRow w4.heap.size 38 6 v7 (i + 1) (flat cdN ((ws ++ [(⟨yk, yn, ys⟩ : VM.Vl)]).map EV.lit)) from by
              rw [List.map_append]
              exact own7)
            clear own7 gr7 HO6 HLit
            go_wp2_with fail
            go_roundw
            case rel => exact ⟨i + 1, ws ++ [⟨yk, yn, ys⟩], by go_num, by omega, HKn.out, HO7.out, F7.out⟩
            case measure => simp [intOf]; omega
        · rw [hy] at HCa
          simp only [exV, vlV] at HCa
          have hX := HXR.out.symm.trans (HErr.out c hRe)
          obtain ⟨rfl, rfl, rfl, rfl⟩ : rk = 0 ∧ rn = 0 ∧ rs = ⟨#[]⟩ ∧ rc = (c : Int) := by
            simp at hX
            obtain ⟨⟨h1, h2, h3⟩, h4⟩ := hX
            exact ⟨h1, h2, h3, h4⟩
          have e1 : ((c : Int) != 0) = true := by simp; omega
          have e2 : ¬ ((c : Int) = 0) := by omega
          clear hX hy hRe
          go_wp2_with fail
          refine HCa.out.mono ?_
          rintro _ w5 ⟨rfl, f5⟩
          have g5 := f5.alloc (.cells #[.int .i64 EX.nul.k, .int .i64 EX.nul.n, .string EX.nul.s] 26)
          have F5 := hideP (HF.out.trans g5)
          have x0 := (HV.out.fr F5.out).cell 0 rfl
          have x1 := (HV.out.fr F5.out).cell 1 rfl
          have x2 := (HV.out.fr F5.out).cell 2 rfl
          clear f5 g5 d0
          go_wp2_with fail
          go_ret
          exact ⟨rfl, F4.out.trans F5.out⟩
      · obtain rfl : i = ls.length := by omega
        have hlt' : ((ls.length : Int) < (ls.length : Int)) = False := by simp
        by_cases hnil : ls.length = 0
        · have hnil' : ((ls.length : Int) == 0) = true := by rw [hnil]; rfl
          go_wp2_with fail
          go_ret
          exact ⟨rfl, F4.out.trans HF.out⟩
        · have hnil' : ((ls.length : Int) == 0) = false := by rw [beq_eq_false_iff_ne]; omega
          have hnil2 : ¬ ((ls.length : Int) = 0) := by omega
          have HEq := hideP (HAll.out ws HKI.out hnil)
          obtain ⟨hwl, hwg⟩ := HKi.out _ ws HKI.out
          obtain ⟨q0, q1, q2, q3, q4, q5⟩ := s6_after (F4.out.trans HF.out) HQ.out
          have HLit := hideP (lit_one cdN wr ⟨op, kids, ⟨vk, vn, vs⟩, nm⟩ 38)
          have g5 := (Fr.refl wr).alloc (.cells #[.int .i64 op, .int .i64 kids, .int .i64 vk, .int .i64 vn, .string vs, .string nm] 38)
          have HO5 := hideP (own_fr HO.out g5)
          have F5 := hideP (HF.out.trans g5)
          have HWg := hideP hwg
          have HWl := hideP hwl
          have hx1 : (1 : Int) ≤ (kf : Int) + 1 := by omega
          clear g5 hwg hwl
          go_wp2_with (at_builtin; refine wpList_append_L cdN rfl _ _ 22 38 i0 _ 64 rfl Tryz.underlying22 hi0 hz0 hz1 hz2 rfl w4.heap.size _ ls.length _ rfl HO5.out (.slice (some ⟨wr.heap.size, 0, none⟩) 1 1) [⟨op, kids, ⟨vk, vn, vs⟩, nm⟩] rfl HLit.out ?c3 ?c4 ?c5 ?_)
          case c3 => unfold maxLen; simp <;> omega
          case c4 => simp <;> omega
          case c5 => simp <;> omega
          intro v7 w7 own7 gr7
          have F7 := hideP (show Fr w4 w7 from Below.grown F5.out gr7 (by simp; omega) (own_base HO5.out))
          have HI7 := hideP (show IsL cdN w7 v7 (ws.map EV.lit ++ [⟨op, kids, ⟨vk, vn, vs⟩, nm⟩]) from isL_own (E := cdN) (by rw [List.length_append, List.length_map, HWl.out]; exact own7))
          obtain ⟨ya, yn, yc, rfl⟩ := own_slice' own7
          have HCa := hideP (HEx.out w7 _ (F4.out.trans F7.out) _ (by
            intro x hx
            rcases List.mem_append.1 hx with h | h
            · obtain ⟨y, hy, rfl⟩ := List.mem_map.1 h
              exact ⟨by show (⟨#[]⟩ : ByteArray).size ≤ _; decide, HWg.out y hy⟩
            · obtain rfl : x = ⟨op, kids, ⟨vk, vn, vs⟩, nm⟩ := by simpa using h
              exact HOkn.out) (by rw [List.length_append, List.length_map, HWl.out]; simp only [List.length_cons, List.length_nil]; omega) HI7.out)
          rw [HEq.out, HXR.out] at HCa
          clear own7 gr7 HO5 HLit q0 q1 q2 q3 q4 q5
          go_wp2_with fail
          refine HCa.out.mono ?_
          rintro _ w8 ⟨rfl, f8⟩
          have HV2 := hideP (Blk.new w8 #[.int .i64 rk, .int .i64 rn, .string rs] 26)
          have g8 := f8.alloc (.cells #[.int .i64 rk, .int .i64 rn, .string rs] 26)
          have F8 := hideP (F7.out.trans g8)
          have x0 := (HV.out.fr F8.out).cell 0 rfl
          have x1 := (HV.out.fr F8.out).cell 1 rfl
          have x2 := (HV.out.fr F8.out).cell 2 rfl
          have y0 := HV2.out.cell 0 rfl
          have y1 := HV2.out.cell 1 rfl
          have y2 := HV2.out.cell 2 rfl
          clear f8 g8
          go_wp2_with fail
          go_ret
          exact ⟨rfl, F4.out.trans F8.out⟩
  · have hR := HBad.out hc
    rw [hR] at HE
    simp only [exV, vlV] at HE
    simp only [hc, ne_eq, not_false_eq_true, true_and, false_and, false_or] at HK
    have e1 : ((EX.ck e : Int) != 0) = true := by simp; omega
    have e2 : ¬ ((EX.ck e : Int) = 0) := by omega
    clear HBad hR hcs0
    generalize (EX.ck e : Int) = z at *
    generalize e.length = n0 at *
    generalize cs.length = n1 at *
    generalize l.length = n2 at *
    go_enter Tryz.func7, Tryz.ntmps7
    go_wp2_with fail
    refine (HE.out _ (Fr.refl w)).mono ?_
    rintro _ w2 ⟨rfl, f2⟩
    have HV := hideP (Blk.new w2 #[.int .i64 EX.nul.k, .int .i64 EX.nul.n, .string EX.nul.s] 26)
    have F2 := hideP (f2.alloc (.cells #[.int .i64 EX.nul.k, .int .i64 EX.nul.n, .string EX.nul.s] 26))
    clear f2
    go_wp2_with fail
    generalize w2.alloc (.cells #[.int .i64 EX.nul.k, .int .i64 EX.nul.n, .string EX.nul.s] 26) = wv at *
    generalize w2.heap.size = bv at *
    refine (HK.out _ F2.out).mono ?_
    rintro _ w3 ⟨rfl, f3⟩
    have F3 := hideP (F2.out.trans f3)
    replace HV := hideP (HV.out.fr f3)
    clear f3
    go_wp2_with fail
    refine (HBg.out _ F3.out).mono ?_
    rintro _ w4 ⟨rfl, f4⟩
    have x0 := (HV.out.fr f4).cell 0 rfl
    have x1 := (HV.out.fr f4).cell 1 rfl
    have x2 := (HV.out.fr f4).cell 2 rfl
    simp only [EX.nul] at x0 x1 x2
    go_wp2_with fail
    go_ret
    exact ⟨rfl, F3.out.trans f4⟩

set_option maxRecDepth 100000 in
theorem lifted (os : Go.Os) (started : os.Started) (H : Type) (enc : TypeId × Value → H) :
    ReturnsInHanded {} Tryz.checked os 7 .any (fun w args => (Rows.evalKidsSpec.pre enc Tryz.prog Tryz.f7 [] false w args ∧ laidMetH Tryz.prog Rows.evalKidsRow.laid w) ∧ sizedMet enc Tryz.prog Tryz.f7 (OpenSpec.ofChange Rows.evalKidsSpec) false w args)
      (Rows.evalKidsSpec.post enc Tryz.prog Tryz.f7 false true false false) := by
  refine returnsInHanded_of_change_and (C := Tryz.checked) (X := fun w _ => laidMetH Tryz.prog Rows.evalKidsRow.laid w) (fun _ _ _ hh h => h.of_heap hh) own started (by kernel_rfl) Tryz.func7
    (ChangeSpec.witness_shaped (enc := enc) (C := Tryz.checked) (os := os) (X := fun w _ => laidMetH Tryz.prog Rows.evalKidsRow.laid w) false (World.laidAll Tryz.prog os Rows.evalKidsRow.laid) #[.slice none 0 0, .slice none 0 0, .slice none 0 0] 8 (World.laidAll_os _ _ _)
      (World.shaped_of_ZipB (by kernel_rfl) (by kernel_rfl)) (by kernel_rfl) (by kernel_rfl) (by kernel_rfl)
      (by rw [MakeChecks.laidMetH_plain _ _ _ (by kernel_rfl)]; exact laidMet_laidAll _ (by kernel_rfl) (by kernel_rfl))) ?_
  intro W base args ds gs before hval0 hW hcnd hsz0 hL _
  have hT : Tt W := tabs_of_laid hL
  have hval : ∀ (j : Nat) t v, Tryz.f7.params[j]? = some t → args[j]? = some v → Value.okWide Tryz.prog W .any base t v := hval0
  have hsz : (DataW.weightsEach Tryz.prog (Tryz.f7.params.toList ++ Rows.evalKidsSpec.plain.varTypes Tryz.prog) (ds ++ gs)).all (· ≤ reachBytes) = true := hsz0
  have hW' := hW
  obtain ⟨p, q, hA0, hV, rfl, hfz, hnd⟩ := hW
  have hA : DataW.TrodAll enc Tryz.prog W 0 (fun _ => true) true Tryz.f7.params.toList args.toList ds p := hA0
  rw [Tryz.params7] at hA hval hsz
  obtain ⟨v0, vs0, d0, ds0, p0, q0, hargs, rfl, rfl, h0, r0⟩ := trodAll_cons hA
  obtain ⟨v1, vs1, d1, ds1, p1, q1, rfl, rfl, rfl, h1, r1⟩ := trodAll_cons r0
  obtain ⟨v2, vs2, d2, ds2, p2, q2, rfl, rfl, rfl, h2, r2⟩ := trodAll_cons r1
  obtain ⟨rfl, rfl, rfl⟩ := trodAll_nil r2
  obtain rfl : args = #[v0, v1, v2] := by cases args; simp_all
  obtain ⟨rfl, rfl⟩ := trodVars_none hV
  obtain ⟨l0, rw0, ok0, b0⟩ := open_nds (hval 0 22 v0 rfl rfl) h0 (sized_at hsz (j := 0) rfl rfl)
  obtain ⟨l1, rw1, ok1, b1⟩ := open_cls (hval 1 23 v1 rfl rfl) h1 (sized_at hsz (j := 1) rfl rfl)
  obtain ⟨l2, rw2, ok2, b2⟩ := open_vrw (hval 2 24 v2 rfl rfl) h2 (sized_at hsz (j := 2) rfl rfl)
  clear hA0 hval0 hsz0
  refine (walk v0 l0 v1 l1 v2 l2 W hT rw0 ok0 b0 rw1 ok1 b1 rw2 ok2 b2).mono fun e W' ⟨he, bel⟩ => ?_
  subst he
  exact ⟨_, rfl, _, _, _, [], _, [], hW', trodAll_mk1 (shut_bool Tryz.underlying4 _), (trodAll_cons_mk (shut_nds h0 bel) (trodAll_cons_mk (shut_cls h1 bel) (trodAll_cons_mk (shut_vrw h2 bel) trodAll_mk0))), rfl, Below.frame bel _, fun h => by cases h⟩

theorem over : Rows.evalKidsRow.holds Tryz.pinned (OpenSpec.ofChange Rows.evalKidsSpec) :=
  OpenClaim.holds_of_wide 7 Tryz.f7 rfl rfl rfl rfl rfl rfl rfl ⟨rfl, rfl, rfl, rfl, rfl⟩ rfl rfl rfl rfl rfl (by kernel_rfl) Tryz.func7 (by kernel_rfl)
    (of_decide_eq_true (by kernel_rfl)) (by unfold Func.isWrapper; first | (rw [if_pos (by decide +kernel)]; kernel_rfl) | (rw [if_neg (by decide +kernel)]; exact ⟨rfl, rfl⟩))
    (fun os started H enc _ => lifted os started H enc)

theorem card : Rows.EvalKidsCardSaid :=
  Claim7.holds_tied_plain_at .later [] [.data, .data, .data, .data, .data, .data, .pinned] true (true, "96cea82cc36b5cf1a3380f7b37f60b58bdddc176841e44ac2e27ea7ff724803d") false
    over (fun _ h => by cases h) (by kernel_rfl) (fun _ h => by cases h) evalKids_row_tie rfl ⟨rfl, rfl⟩ (by kernel_rfl) rfl
    (fun f fn hf hfn => by
      obtain rfl : f = 7 := Option.some.inj ((show Tryz.prog.funcNamed "starling/starlinglaw.EvalKids" = some 7 by kernel_rfl).symm.trans hf) |>.symm
      obtain rfl : fn = Tryz.f7 := (Option.some.inj (Tryz.func7.symm.trans hfn)).symm
      exact ⟨by kernel_rfl, fun j t ht => by
        rw [Tryz.params7] at ht
        have hm : t ∈ [22, 23, 24] := by simpa using Array.mem_of_getElem? ht
        have hall : ([22, 23, 24].all fun u => !Tryz.prog.wantsStandIn u) = true := by kernel_rfl
        exact (show Tryz.prog.wantsStandIn t = false by simpa using List.all_eq_true.1 hall t hm)⟩)
    (by kernel_rfl)

end Go.Proofs.YtjboeabddnnlcaaGreatDoor.evalKidsProof
namespace Go.Proofs.YtjboeabddnnlcaaGreatDoor
theorem evalKids_holds : Rows.EvalKidsCardSaid := evalKidsProof.card
#print axioms evalKids_holds
end Go.Proofs.YtjboeabddnnlcaaGreatDoor
