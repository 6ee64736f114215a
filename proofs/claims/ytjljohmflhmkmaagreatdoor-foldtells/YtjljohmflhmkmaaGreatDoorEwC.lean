/-
  What pushedNode and Push of package eval answer.
-/
import Derived.Test.YtjljohmflhmkmaaGreatDoorEwA
namespace Go.Proofs.YtjljohmflhmkmaaGreatDoor
open Go.ChangeShapes Go.WideShapes Go.ChangeAt Go.RowKit
set_option linter.unusedVariables false
set_option linter.unusedSimpArgs false
set_option maxRecDepth 100000
set_option maxHeartbeats 2000000

theorem node_core (n : EX.Nd) (k : EX.F) (b : Bool) (v : Value) (w : World) (HP : PnTo (k.flat ++ [n]).length) (hg : (EX.F.nd n k .nil).good) (hd : EX.mx (EX.dp k) + 1 ≤ 12) (hl : (k.flat ++ [n]).length ≤ 60) (hn : ∀ x ∈ k.flat ++ [n], x.nm.size ≤ 140737488355327) (hTn : Tn w) (h : IsL cdN w v (k.flat ++ [n])) :
    Calls Tryz.prog 51 #[v, .bool b] w fun r w' => PnAns b n k w.heap.size r w' ∧ Fr w w' := by
  obtain ⟨i0, hi0, hz0, hz1, hz2⟩ := info_parts Tryz.infoN
  have HPr := hideP (fun W (g : Fr w W) (hop : n.op = 16 ∨ n.op = 17) => pair_core n k b v W HP hg hd hl hn (hTn.fr g) (h.fr g) hop)
  have HCl := hideP (fun W (g : Fr w W) => cloneN_any v (k.flat ++ [n]) W (h.fr g) (by omega))
  have HCt := hideP (fun W (g : Fr w W) => counterpart_any n.op W (hTn.fr g))
  have hkl : k.flat.length + 1 ≤ 60 := by rw [List.length_append] at hl; exact hl
  have HPf : Hid (EV.pf b (.nd n k .nil) = if n.op = 4 then EX.F.app (EV.pf (!b) k) (EV.pf b .nil)
    else if n.op = 16 ∨ n.op = 17 then .nd ⟨EV.flp b n.op, n.kids, n.v, n.nm⟩ (EV.pf b k) (EV.pf b .nil)
    else if b = false then .nd n k (EV.pf b .nil)
    else if EV.cpt n.op ≠ 0 then .nd ⟨EV.cpt n.op, n.kids, n.v, n.nm⟩ k (EV.pf b .nil)
    else .nd EV.notN (.nd n k .nil) (EV.pf b .nil)) := by unfold Hid; conv => lhs; unfold EV.pf
  have hpn : EV.pf b .nil = .nil := by rw [EV.pf]
  rw [hpn] at HPf
  have HNo : Hid (n.op = 4 → ∀ W (g : Fr w W) u, IsL cdN W u k.flat → Calls Tryz.prog 51 #[u, .bool (!b)] W fun r w' => (∃ u', r = .returned u' ∧ w'.ownsRow W.heap.size 38 6 u' (EV.pf (!b) k).flat.length (flat cdN (EV.pf (!b) k).flat)) ∧ Fr W w') := by
    intro h4 W g u hu
    have h1 := EV.kids_not hg.1 h4 hg.2.1
    cases k with
    | nil => cases h1
    | nd n' k' s' =>
      cases s' with
      | nd _ _ _ => simp only [EX.F.len] at h1; omega
      | nil =>
        have e : (EX.F.nd n' k' .nil).flat = k'.flat ++ [n'] := rfl
        rw [e] at hu hkl
        simp only [EX.dp, EX.mx_cons, EX.mx_nil] at hd
        exact HP n' k' (!b) u W (by rw [List.length_append, e]; simp) hg.2.2.1 (by omega) (by omega) (fun x hx => hn x (List.mem_append_left _ hx)) (hTn.fr g) hu
  obtain ⟨a, cap, rfl, hcap, hcs⟩ := h
  obtain ⟨bb, o, rfl, hb, hat⟩ : ∃ b o, a = some ⟨b, o, none⟩ ∧ b < w.heap.size ∧ At cdN w b o (k.flat ++ [n]) := by
    rcases hcs with h | h
    · simp at h
    · exact h
  obtain ⟨c0, c1, c2, c3, c4, c5⟩ := hat.nd k.flat.length (by simp)
  simp only [List.getElem_concat_length] at c0 c1 c2 c3 c4 c5
  have HSl := hideP (fun W (g : Fr w W) => isL_cut (E := cdN) (c := cap) rfl (Nat.lt_of_lt_of_le hb g.size) (hat.fr hb g) 0 k.flat.length (by simp) hcap (some ⟨bb, o, none⟩) (.inr (by simp)))
  simp only [List.drop_zero, List.take_left, Nat.sub_zero] at HSl
  have HLa := hideP (flat_set_last k.flat n (EV.cpt n.op))
  rw [List.length_append] at hcap HPr HCl ⊢
  simp only [List.length_cons, List.length_nil, Nat.zero_add] at hcap HPr HCl ⊢
  unfold PnAns at *
  obtain ⟨T, hT⟩ : ∃ T, EV.pf b (.nd n k .nil) = T := ⟨_, rfl⟩
  rw [hT] at HPf HPr ⊢
  obtain ⟨kf, hkf⟩ : ∃ kf, k.flat.length = kf := ⟨_, rfl⟩
  have HKf := hideP hkf
  rw [hkf] at c0 c1 c2 c3 c4 c5 hcap hkl HPr HCl HSl HLa ⊢
  have hx1 : (1 : Int) ≤ (kf : Int) + 1 := by omega
  have HTop := hideP (EV.op_in hg.1)
  clear hcs hat hn hTn hl HP hT hkf hpn hg hd
  generalize hkk : k.flat = kk at *
  have HKK := hideP hkk
  clear hkk
  obtain ⟨op, kids, ⟨vk, vn, vs⟩, nm⟩ := n
  simp only at c0 c1 c2 c3 c4 c5 HPf HPr HCt HNo HLa HTop
  have HB0 := hideP (Blk.new w #[.int .i64 op, .int .i64 kids, .int .i64 vk, .int .i64 vn, .string vs, .string nm] 38)
  have F0 := hideP ((Fr.refl w).alloc (.cells #[.int .i64 op, .int .i64 kids, .int .i64 vk, .int .i64 vn, .string vs, .string nm] 38))
  by_cases h4 : op = 4
  · subst h4
    replace HPf := hideP (HPf.out.trans (if_pos rfl))
    have HCa := hideP (HNo.out rfl _ F0.out _ (HSl.out _ F0.out))
    go_enter Tryz.func51, Tryz.ntmps51
    go_wp2_with fail
    refine HCa.out.mono ?_
    rintro _ w2 ⟨⟨u, rfl, own2⟩, f2⟩
    have HO := hideP own2
    have F2 := hideP (F0.out.trans f2)
    clear own2 f2
    go_wp2_with fail
    go_ret
    refine ⟨⟨_, rfl, ?_⟩, F2.out⟩
    rw [HPf.out, EX.F.app_nil]
    exact own_low HO.out F0.out.size
  have e4 : (op == 4) = false := by simpa using h4
  replace HPf := hideP (HPf.out.trans (if_neg h4))
  by_cases h5 : op = 16 ∨ op = 17
  · have HCa := hideP (HPr.out _ F0.out h5)
    clear HPf HPr HNo HSl HLa
    rcases h5 with rfl | rfl
    all_goals (
      go_enter Tryz.func51, Tryz.ntmps51
      go_wp2_with fail
      refine HCa.out.mono ?_
      rintro _ w2 ⟨⟨u, rfl, own2⟩, f2⟩
      have HO := hideP own2
      have F2 := hideP (F0.out.trans f2)
      clear own2 f2
      go_wp2_with fail
      go_ret
      exact ⟨⟨_, rfl, own_low HO.out F0.out.size⟩, F2.out⟩)
  have e5 : (op == 16) = false := by simp; omega
  have e6 : (op == 17) = false := by simp; omega
  replace HPf := hideP (HPf.out.trans (if_neg h5))
  have HCa := hideP (HCl.out _ F0.out)
  clear HPr HNo HSl HCl
  cases b with
  | false =>
    replace HPf := hideP (HPf.out.trans (if_pos rfl))
    go_enter Tryz.func51, Tryz.ntmps51
    go_wp2_with fail
    refine HCa.out.mono ?_
    rintro _ w2 ⟨u, rfl, own2, f2⟩
    have HO := hideP own2
    have F2 := hideP (F0.out.trans f2)
    clear own2 f2
    go_wp2_with fail
    go_ret
    refine ⟨⟨_, rfl, ?_⟩, F2.out⟩
    rw [HPf.out]
    simp only [EX.F.flat]
    rw [HKK.out, List.length_append, HKf.out]
    exact own_low HO.out F0.out.size
  | true =>
    replace HPf := hideP (HPf.out.trans (if_neg (by simp)))
    by_cases h6 : EV.cpt op ≠ 0
    · replace HPf := hideP (HPf.out.trans (if_pos h6))
      rw [decide_eq_true h6] at HCt
      generalize EV.cpt op = cp at *
      have H6 := hideP h6
      clear h6
      go_enter Tryz.func51, Tryz.ntmps51
      go_wp2_with fail
      refine HCa.out.mono ?_
      rintro _ w2 ⟨u, rfl, own2, f2⟩
      obtain ⟨ua, uc, rfl⟩ := own_slice own2
      have HO := hideP own2
      have F2 := hideP (F0.out.trans f2)
      have x0 := (HB0.out.fr f2).cell 0 rfl
      have hf2 := f2.size
      clear own2 f2
      go_wp2_with fail
      refine (HCt.out _ F2.out).mono ?_
      rintro _ w3 ⟨rfl, f3⟩
      have HO3 := hideP (own_fr HO.out f3)
      obtain ⟨g, rfl, hgb, hgl, hkc⟩ : ∃ g, ua = some ⟨g, 0, none⟩ ∧ (w.alloc (.cells #[.int .i64 op, .int .i64 kids, .int .i64 vk, .int .i64 vn, .string vs, .string nm] 38)).heap.size ≤ g ∧ (∃ cur, w3.heap[g]? = some (.cells cur 38 (0, 0)) ∧ kf * 6 < cur.size) ∧ kf + 1 ≤ uc := by
        rcases HO3.out.2 with ⟨e, h0⟩ | ⟨g, cap', cur, e, h2, h3, h4, h5, h6, h7⟩
        · cases h0
        · cases e
          exact ⟨g, rfl, h2, ⟨cur, h3, by rw [h6]; omega⟩, h4⟩
      obtain ⟨cur, hcur, hcs⟩ := hgl
      have y0 := Blk.frozen (T := 38) hcur (kf * 6)
      obtain ⟨z, hz⟩ : ∃ z, w3.cell? ⟨g, kf * 6, none⟩ = some z := ⟨cur[kf * 6], Blk.cell (T := 38) hcur (kf * 6) (by rw [Array.getElem?_eq_getElem hcs])⟩
      have F3 := hideP (F2.out.trans f3)
      have HCu := hideP hcur
      have HGb := hideP hgb
      clear f3 hcur hgb hcs
      go_wp2_with fail
      go_ret
      have hle : w.heap.size ≤ g := Nat.le_trans F0.out.size HGb.out
      refine ⟨⟨_, rfl, ?_⟩, F3.out.setC g (kf * 6) _ hle⟩
      rw [HPf.out]
      simp only [EX.F.flat]
      rw [HKK.out, List.length_append, HKf.out, ← HLa.out]
      exact own_low (own_put HO3.out) F0.out.size
    · have h6' : EV.cpt op = 0 := by omega
      replace HPf := hideP (HPf.out.trans (if_neg h6))
      rw [decide_eq_false h6, h6'] at HCt
      clear h6 h6' HLa
      go_enter Tryz.func51, Tryz.ntmps51
      go_wp2_with fail
      refine HCa.out.mono ?_
      rintro _ w2 ⟨u, rfl, own2, f2⟩
      obtain ⟨ua, uc, rfl⟩ := own_slice own2
      have HO := hideP own2
      have F2 := hideP (F0.out.trans f2)
      have x0 := (HB0.out.fr f2).cell 0 rfl
      have hf2 := f2.size
      clear own2 f2
      go_wp2_with fail
      refine (HCt.out _ F2.out).mono ?_
      rintro _ w3 ⟨rfl, f3⟩
      have HLit := hideP (lit_one cdN w3 EV.notN 38)
      have HO3 := hideP (own_fr (own_low HO.out F0.out.size) (f3.alloc (.cells #[.int .i64 4, .int .i64 1, .int .i64 0, .int .i64 0, .string ⟨#[]⟩, .string ⟨#[]⟩] 38)))
      have F3 := hideP ((F2.out.trans f3).alloc (.cells #[.int .i64 4, .int .i64 1, .int .i64 0, .int .i64 0, .string ⟨#[]⟩, .string ⟨#[]⟩] 38))
      have hs3 := (F2.out.trans f3).size
      clear f3
      go_wp2_with (at_builtin; refine wpList_append_L cdN rfl _ _ 22 38 i0 _ 64 rfl Tryz.underlying22 hi0 hz0 hz1 hz2 rfl w.heap.size _ (kf + 1) _ rfl HO3.out (.slice (some ⟨w3.heap.size, 0, none⟩) 1 1) [EV.notN] rfl HLit.out ?c3 ?c4 ?c5 ?_)
      case c3 => unfold maxLen; simp <;> omega
      case c4 => simp <;> omega
      case c5 => simp <;> omega
      intro v5 wB own5 gr5
      have FB := hideP (show Fr w wB from Below.grown F3.out gr5 (by simp; omega) (own_base HO3.out))
      have HN5 := hideP own5
      clear own5 gr5
      go_wp2_with fail
      go_ret
      refine ⟨⟨_, rfl, ?_⟩, FB.out⟩
      rw [HPf.out]
      simp only [EX.F.flat]
      rw [HKK.out, List.length_append, List.length_append, HKf.out, List.append_assoc]
      exact HN5.out
theorem pnTo : ∀ N, PnTo N
  | 0 => fun n k b v W h => by simp at h
  | N + 1 => fun n k b v W h hg hd hl hn hTn hi => node_core n k b v W (fun n' k' b' v' W' h' => pnTo N n' k' b' v' W' (by omega)) hg hd hl hn hTn hi
/-- what Push answers -/
def PuAns (e : List EX.Nd) (B : Nat) (r : Ending) (w' : World) : Prop :=
  (EX.ck e ≠ 0 ∧ r = .returned (.tuple #[.slice none 0 0, .int .i64 (EX.ck e : Int)])) ∨
  (EX.ck e = 0 ∧ ∃ n k, e = k.flat ++ [n] ∧ (EX.F.nd n k .nil).good ∧
    ((EX.ck (EV.pf false (.nd n k .nil)).flat ≠ 0 ∧ r = .returned (.tuple #[.slice none 0 0, .int .i64 (EX.ck (EV.pf false (.nd n k .nil)).flat : Int)])) ∨
     (EX.ck (EV.pf false (.nd n k .nil)).flat = 0 ∧ ∃ u, r = .returned (.tuple #[u, .int .i64 0]) ∧ w'.ownsRow B 38 6 u (EV.pf false (.nd n k .nil)).flat.length (flat cdN (EV.pf false (.nd n k .nil)).flat))))
theorem EV.pf_nm : ∀ (t : EX.F) (b : Bool), (∀ x ∈ t.flat, x.nm.size ≤ 140737488355327) → ∀ x ∈ (EV.pf b t).flat, x.nm.size ≤ 140737488355327
  | .nil, b, _ => by rw [EV.pf]; intro x hx; simp [EX.F.flat] at hx
  | .nd n k s, b, h => by
    have hk : ∀ x ∈ k.flat, x.nm.size ≤ 140737488355327 := fun x hx => h x (by simp [EX.F.flat, hx])
    have hs : ∀ x ∈ s.flat, x.nm.size ≤ 140737488355327 := fun x hx => h x (by simp [EX.F.flat, hx])
    have hn := h n (by simp [EX.F.flat])
    have i1 := EV.pf_nm k (!b) hk
    have i2 := EV.pf_nm k b hk
    have i3 := EV.pf_nm s b hs
    rw [EV.pf]
    intro x hx
    split at hx
    · rw [EX.F.flat_app] at hx
      rcases List.mem_append.1 hx with h | h
      · exact i1 x h
      · exact i3 x h
    split at hx
    · simp only [EX.F.flat, List.mem_append, List.mem_cons] at hx
      rcases hx with h | rfl | h
      · exact i2 x h
      · exact hn
      · exact i3 x h
    split at hx
    · simp only [EX.F.flat, List.mem_append, List.mem_cons] at hx
      rcases hx with h | rfl | h
      · exact hk x h
      · exact hn
      · exact i3 x h
    split at hx
    · simp only [EX.F.flat, List.mem_append, List.mem_cons] at hx
      rcases hx with h | rfl | h
      · exact hk x h
      · exact hn
      · exact i3 x h
    · simp only [EX.F.flat, List.mem_append, List.mem_cons, List.not_mem_nil, or_false] at hx
      rcases hx with (h | rfl) | rfl | h
      · exact hk x h
      · exact hn
      · show (⟨#[]⟩ : ByteArray).size ≤ 140737488355327
        decide
      · exact i3 x h
theorem push_any (v : Value) (e : List EX.Nd) (w : World) (h : IsL cdN w v e) (hn : ∀ n ∈ e, n.nm.size ≤ 140737488355327) (hl : e.length ≤ 9223372036854775806) (hTn : Tn w) :
    Calls Tryz.prog 27 #[v] w fun r w' => PuAns e w.heap.size r w' ∧ Fr w w' := by
  have HC := hideP (xcheck_any v e w h hn hl)
  unfold PuAns
  by_cases h0 : EX.ck e = 0
  · obtain ⟨n, k, he, hg, hd, hl60⟩ := EX.ck_tree h0
    subst he
    have HPn := hideP (fun W (g : Fr w W) => pnTo ((k.flat ++ [n]).length + 1) n k false v W (by omega) hg hd hl60 hn (hTn.fr g) (h.fr g))
    unfold PnAns at HPn
    have hlen := EV.pf_flat_len (.nd n k .nil) false
    have hnm := EV.pf_nm (.nd n k .nil) false hn
    have el : (EX.F.nd n k .nil).flat = k.flat ++ [n] := rfl
    rw [el] at hlen
    have HC2 := hideP (fun W u (hu : IsL cdN W u (EV.pf false (.nd n k .nil)).flat) => xcheck_any u _ W hu hnm (by omega))
    suffices hgo : Calls Tryz.prog 27 #[v] w fun r w' => (((EX.ck (EV.pf false (.nd n k .nil)).flat ≠ 0 ∧ r = .returned (.tuple #[.slice none 0 0, .int .i64 (EX.ck (EV.pf false (.nd n k .nil)).flat : Int)])) ∨
     (EX.ck (EV.pf false (.nd n k .nil)).flat = 0 ∧ ∃ u, r = .returned (.tuple #[u, .int .i64 0]) ∧ w'.ownsRow w.heap.size 38 6 u (EV.pf false (.nd n k .nil)).flat.length (flat cdN (EV.pf false (.nd n k .nil)).flat)))) ∧ Fr w w' by
      refine hgo.mono ?_
      rintro r w' ⟨h1, h2⟩
      exact ⟨.inr ⟨h0, n, k, rfl, hg, h1⟩, h2⟩
    rw [h0] at HC
    obtain ⟨a, cap, rfl, hcap, hcs⟩ := h
    generalize (EV.pf false (.nd n k .nil)).flat = m at *
    generalize (k.flat ++ [n]).length = L at *
    clear hcs hn hl hTn hg hd hnm el h0
    have HM := hideP (show m.length = m.length from rfl)
    by_cases h1 : EX.ck m = 0
    · rw [h1] at HC2 ⊢
      simp only [ne_eq, not_true, false_and, false_or, true_and]
      obtain ⟨M, hM⟩ : ∃ M, m.length = M := ⟨_, rfl⟩
      have HMl := hideP hM
      rw [hM] at HPn hlen ⊢
      clear hM
      go_enter Tryz.func27, Tryz.ntmps27
      go_wp2_with fail
      refine HC.out.mono ?_
      rintro _ w1 ⟨rfl, f1⟩
      have F1 := hideP f1
      clear f1
      go_wp2_with fail
      refine (HPn.out _ F1.out).mono ?_
      rintro _ w2 ⟨⟨u, rfl, own2⟩, f2⟩
      obtain ⟨ua, uc, rfl⟩ := own_slice own2
      have HO := hideP (own_low own2 F1.out.size)
      have F2 := hideP (F1.out.trans f2)
      have HCa := hideP (HC2.out w2 _ (isL_own (E := cdN) (by rw [HMl.out]; exact own2)))
      clear own2 f2
      go_wp2_with fail
      refine HCa.out.mono ?_
      rintro _ w3 ⟨rfl, f3⟩
      go_wp2_with fail
      go_ret2
      exact ⟨⟨_, rfl, own_fr HO.out f3⟩, F2.out.trans f3⟩
    · have e1 : ((EX.ck m : Int) != 0) = true := by simp; omega
      have e2 : ¬ ((EX.ck m : Int) = 0) := by omega
      obtain ⟨M, hM⟩ : ∃ M, m.length = M := ⟨_, rfl⟩
      have HMl := hideP hM
      rw [hM] at HPn hlen
      clear hM
      go_enter Tryz.func27, Tryz.ntmps27
      go_wp2_with fail
      refine HC.out.mono ?_
      rintro _ w1 ⟨rfl, f1⟩
      have F1 := hideP f1
      clear f1
      go_wp2_with fail
      refine (HPn.out _ F1.out).mono ?_
      rintro _ w2 ⟨⟨u, rfl, own2⟩, f2⟩
      obtain ⟨ua, uc, rfl⟩ := own_slice own2
      have F2 := hideP (F1.out.trans f2)
      have HCa := hideP (HC2.out w2 _ (isL_own (E := cdN) (by rw [HMl.out]; exact own2)))
      clear own2 f2
      go_wp2_with fail
      refine HCa.out.mono ?_
      rintro _ w3 ⟨rfl, f3⟩
      go_wp2_with fail
      go_ret2
      exact ⟨.inl ⟨h1, rfl⟩, F2.out.trans f3⟩
  · have e1 : ((EX.ck e : Int) != 0) = true := by simp; omega
    have e2 : ¬ ((EX.ck e : Int) = 0) := by omega
    obtain ⟨a, cap, rfl, hcap, hcs⟩ := h
    clear hcs hn hTn
    go_enter Tryz.func27, Tryz.ntmps27
    go_wp2_with fail
    refine HC.out.mono ?_
    rintro _ w1 ⟨rfl, f1⟩
    go_wp2_with fail
    go_ret2
    exact ⟨.inl ⟨h0, rfl⟩, f1⟩
end Go.Proofs.YtjljohmflhmkmaaGreatDoor
