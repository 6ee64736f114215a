/-
  What the document's own ExprKids answers.
-/
import Derived.Test.YtjboeabddnnlcaaGreatDoorReC
import Derived.Test.YtjboeabddnnlcaaGreatDoorEvY
namespace Go.Proofs.YtjboeabddnnlcaaGreatDoor
open Go.ChangeShapes Go.WideShapes Go.ChangeAt Go.RowKit
set_option linter.unusedVariables false
set_option linter.unusedSimpArgs false
set_option maxRecDepth 100000
set_option maxHeartbeats 2000000

/-- ExprKids: a row of its own, of slices of what was handed in -/
theorem exprKids_any (n : EX.Nd) (k : EX.F) (v : Value) (w : World) (hg : (EX.F.nd n k .nil).good) (hl : (k.flat ++ [n]).length ≤ 60) (h : IsL cdN w v (k.flat ++ [n])) :
    Calls Tryz.prog 50 #[v] w fun r w' => (∃ u, r = .returned u ∧ IsLL w' u k.parts) ∧ Fr w w' := by
  obtain ⟨i0, hi0, hz0, hz1, hz2⟩ := info_parts Tryz.infoNs
  have HB := hideP (fun n' k' A R W (g : Fr w W) (he : k.flat ++ [n] = A ++ (k'.flat ++ [n']) ++ R) (hg' : (EX.F.nd n' k' .nil).good) => bgTo ((k'.flat ++ [n']).length + 1) n' k' A R v W (by omega) hg' (by rw [← he]; omega) (by rw [← he]; exact h.fr g))
  have hkk := hg.2.1
  have hl0 : (k.flat ++ [n]).length = k.flat.length + 1 := by simp
  obtain ⟨a, cap, rfl, hcap, hcs⟩ := h
  obtain ⟨b, o, rfl, hb, hat⟩ : ∃ b o, a = some ⟨b, o, none⟩ ∧ b < w.heap.size ∧ At cdN w b o (k.flat ++ [n]) := by
    rcases hcs with h | h
    · simp at h
    · exact h
  -- what one step finds
  have HSt : Hid (∀ m, m < k.len → ∃ l, k.parts[m]? = some l ∧ (EX.F.take (m + 1) k).flat.length = (EX.F.take m k).flat.length + l.length ∧ IsL cdN w (.slice (some ⟨b, o + (EX.F.take m k).flat.length * 6, none⟩) l.length (cap - (EX.F.take m k).flat.length)) l ∧
      ∀ W, Fr w W → Calls Tryz.prog 68 #[.slice (some ⟨b, o, none⟩) (k.flat.length + 1) cap, .int .i64 (((EX.F.take (m + 1) k).flat.length : Nat) : Int)] W fun r w' => r = .returned (.int .i64 (((EX.F.take m k).flat.length : Nat) : Int)) ∧ Fr W w') := by
    intro m hm
    obtain ⟨n', k', h1, h2, h3⟩ := EX.take_succ m k hm hg.2.2.1
    have hf : (EX.F.take (m + 1) k).flat = (EX.F.take m k).flat ++ (k'.flat ++ [n']) := by rw [h1, EX.F.flat_app]; rfl
    have hk : k.flat = (EX.F.take m k).flat ++ (k'.flat ++ [n']) ++ (EX.F.drop (m + 1) k).flat := by
      rw [← hf, ← EX.F.flat_app, EX.F.take_drop]
    have he : k.flat ++ [n] = (EX.F.take m k).flat ++ (k'.flat ++ [n']) ++ ((EX.F.drop (m + 1) k).flat ++ [n]) := by
      conv => lhs; rw [hk]
      simp only [List.append_assoc]
    have hlen := congrArg List.length he
    simp only [List.length_append, List.length_cons, List.length_nil] at hlen hl0
    refine ⟨k'.flat ++ [n'], h3, by rw [hf, List.length_append], ?_, ?_⟩
    · have hc := isL_cut (E := cdN) (c := cap) rfl hb hat (EX.F.take m k).flat.length (k'.flat ++ [n']).length (by
        simp only [List.length_append, List.length_cons, List.length_nil]
        omega) hcap (some ⟨b, o + (EX.F.take m k).flat.length * 6, none⟩) (.inr rfl)
      have ed : ((k.flat ++ [n]).drop (EX.F.take m k).flat.length).take (k'.flat ++ [n']).length = k'.flat ++ [n'] := by
        rw [he, List.append_assoc, List.drop_left, List.take_left]
      rw [ed] at hc
      exact hc
    · intro W g
      have hc := HB.out n' k' (EX.F.take m k).flat ((EX.F.drop (m + 1) k).flat ++ [n]) W g he h2
      rw [← List.length_append, ← hf] at hc
      rw [show (k.flat ++ [n]).length = k.flat.length + 1 by simp] at hc
      exact hc
  have HC := hideP (fun W (g : Fr w W) => ((hat.fr hb g).nd k.flat.length (by simp)).2.1)
  simp only [List.getElem_concat_length, hkk] at HC
  have HTs := hideP (fun m hm => EX.take_succ m k hm hg.2.2.1)
  have HXb := hideP (fun m => show (EX.F.take m k).flat.length ≤ k.flat.length from by
    have := congrArg List.length (show (EX.F.take m k).flat ++ (EX.F.drop m k).flat = k.flat by rw [← EX.F.flat_app, EX.F.take_drop])
    rw [List.length_append] at this
    omega)
  have hfull := EX.take_full k
  have hpl := EX.F.parts_len k
  have hlk : k.len ≤ 7 := by
    have h4 : n.kids ≤ 7 := by
      have h := hg.1
      unfold EX.nchk at h
      split at h
      · cases h
      split at h
      · cases h
      have : EX.km n.op ≤ 7 := by unfold EX.km; (repeat' split) <;> decide
      omega
    omega
  rw [hl0] at hl hcap ⊢
  have HFu : Hid ((EX.F.take (k.len - 0) k).flat.length = k.flat.length) := by unfold Hid; rw [Nat.sub_zero, hfull]
  have HPl := hideP hpl
  generalize k.flat.length = kf at *
  generalize k.parts = ls at *
  generalize hK : k.len = K at *
  clear hcs hat hg hkk hl0 hfull hpl HB hK
  have hx1 : (1 : Int) ≤ (kf : Int) + 1 := by omega
  go_enter Tryz.func50, Tryz.ntmps50
  go_wp2_with fail
  go_loopw [3, 4, 5, 6] (fun uv ev jv _ wr => ∃ (j : Nat) (qs : List Sl), jv = .int .i64 j ∧ j ≤ K ∧ ev = .int .i64 (((EX.F.take (K - j) k).flat.length : Nat) : Int) ∧ IsL cdQ wr uv qs ∧ qs.length = j ∧ (∀ t (h1 : t < qs.length) (h2 : K - j + t < ls.length), IsL cdN w qs[t].v ls[K - j + t]) ∧ Fr w wr) (fun _ _ jv _ _ => K - (intOf jv).toNat)
  case atStart => exact ⟨0, [], rfl, Nat.zero_le _, by rw [HFu.out], isL_nil _ _, rfl, fun t h => by simp at h, Fr.refl _⟩
  case round =>
    obtain ⟨j, qs, rfl, hj, rfl, hisl, hqn, hqs, hfr⟩ := hrel
    have HF := hideP hfr
    have HI := hideP hisl
    have HQn := hideP hqn
    have HQ := hideP hqs
    obtain ⟨ua, uc, rfl, huc, _⟩ := hisl
    rw [hqn] at huc HI ⊢
    clear hfr hqs hqn
    have c1 := HC.out wr HF.out
    by_cases hlt : j < K
    · have hlt' : (j : Int) < (K : Int) := by omega
      obtain ⟨l, hl1, hl2, hl3, hl4⟩ := HSt.out (K - (j + 1)) (by omega)
      rw [show K - (j + 1) + 1 = K - j by omega] at hl2 hl4
      have HCa := hideP (hl4 wr HF.out)
      have HL1 := hideP hl1
      have hlp : 1 ≤ l.length := by
        obtain ⟨n', k', _, _, h3⟩ := HTs.out (K - (j + 1)) (by omega)
        rw [hl1] at h3
        cases h3
        simp
      have hxb := HXb.out (K - j)
      generalize (EX.F.take (K - j) k).flat.length = x at *
      generalize hy : (EX.F.take (K - (j + 1)) k).flat.length = y at *
      have HY := hideP hy
      have HQ0 := hideP (show IsL cdN w (.slice (some ⟨b, o + y * 6, none⟩) (x - y) (cap - y)) l from by
        have h := hl3
        rw [show l.length = x - y by omega] at h
        exact h)
      have z1 : (y : Int) ≤ (x : Int) := by omega
      have z2 : (x : Int) ≤ (cap : Int) := by omega
      have z3 : (y : Int) < (cap : Int) := by omega
      have z4 : ¬ cap = y := by omega
      clear hl1 hl3 hl4 hl2 hlp hy
      go_wp2_with fail
      refine HCa.out.mono ?_
      rintro _ w2 ⟨rfl, f2⟩
      have F2 := hideP (HF.out.trans f2)
      have HOl := hideP (show (w2.alloc (.cells #[.slice (some ⟨b, o + y * 6, none⟩) (x - y) (cap - y)] 22)).ownsRow w2.heap.size 22 1 (.slice (some ⟨w2.heap.size, 0, none⟩) 1 1) 1 (flat cdQ [⟨some ⟨b, o + y * 6, none⟩, x - y, cap - y⟩]) from World.ownsRow_lit (base := w2.heap.size) (e := 22) (size := 1) w2 #[.slice (some ⟨b, o + y * 6, none⟩) (x - y) (cap - y)] 1 (Nat.le_refl _) (by decide) (by simp))
      have g2 := f2.alloc (.cells #[.slice (some ⟨b, o + y * 6, none⟩) (x - y) (cap - y)] 22)
      have HI2 := hideP (HI.out.fr g2)
      have F3 := hideP (HF.out.trans g2)
      clear f2 g2 c1
      go_wp2_with (at_builtin; refine wpList_append_L cdQ rfl _ _ 42 22 i0 _ 24 rfl Tryz.underlying42 hi0 hz0 hz1 hz2 rfl w2.heap.size _ 1 _ rfl HOl.out (.slice ua j uc) qs rfl HI2.out ?c3 ?c4 ?c5 ?_)
      case c3 => rw [HQn.out]; unfold maxLen; omega
      case c4 => rw [HQn.out]; omega
      case c5 => simp
      intro v4 w4 own4 gr4
      have F4 := hideP (show Fr w w4 from (show Fr w2 w4 from Below.grown ((Fr.refl w2).alloc _) gr4 (by simp) (own_base HOl.out)) |> F2.out.trans)
      have HI4 := hideP (show IsL cdQ w4 v4 ((⟨some ⟨b, o + y * 6, none⟩, x - y, cap - y⟩ : Sl) :: qs) from isL_own (E := cdQ) (by
        have e9 : ((⟨some ⟨b, o + y * 6, none⟩, x - y, cap - y⟩ : Sl) :: qs).length = 1 + qs.length := by simp; omega
        rw [e9]
        exact own4))
      have HQ4 : Hid (∀ t (h1 : t < ((⟨some ⟨b, o + y * 6, none⟩, x - y, cap - y⟩ : Sl) :: qs).length) (h2 : K - (j + 1) + t < ls.length), IsL cdN w ((⟨some ⟨b, o + y * 6, none⟩, x - y, cap - y⟩ : Sl) :: qs)[t].v ls[K - (j + 1) + t]) := by
        intro t h1 h2
        cases t with
        | zero =>
          have hl9 := HL1.out
          rw [List.getElem?_eq_some_iff] at hl9
          obtain ⟨h8, h9⟩ := hl9
          simp only [List.getElem_cons_zero, Nat.add_zero, h9]
          exact HQ0.out
        | succ t =>
          have h3 : t < qs.length := by simpa using h1
          have h4 : K - j + t < ls.length := by rw [HPl.out]; rw [HQn.out] at h3; omega
          have h5 := HQ.out t h3 h4
          simp only [List.getElem_cons_succ]
          have e9 : K - (j + 1) + (t + 1) = K - j + t := by omega
          simp only [e9]
          exact h5
      clear own4 gr4
      go_wp2_with fail
      go_roundw
      case rel => exact ⟨j + 1, _, by go_num, by omega, by rw [HY.out], HI4.out, by simp [HQn.out], HQ4.out, F4.out⟩
      case measure => simp [intOf]; omega
    · obtain rfl : j = K := by omega
      have hlt' : ((j : Int) < (j : Int)) = False := by simp
      go_wp2_with fail
      go_ret
      refine ⟨⟨_, rfl, qs, HI.out, by rw [HQn.out, HPl.out], fun t h1 h2 => ?_⟩, HF.out⟩
      have h5 := HQ.out t h1 (by omega)
      simp only [Nat.sub_self, Nat.zero_add] at h5
      exact h5.fr HF.out
end Go.Proofs.YtjboeabddnnlcaaGreatDoor
