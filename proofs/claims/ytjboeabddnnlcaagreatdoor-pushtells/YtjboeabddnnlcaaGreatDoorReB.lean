/-
  What the document's own ExprCheck answers.
-/
import Derived.Test.YtjboeabddnnlcaaGreatDoorReA
import Derived.Test.YtjboeabddnnlcaaGreatDoorEvK
import Derived.Test.YtjboeabddnnlcaaGreatDoorExP
namespace Go.Proofs.YtjboeabddnnlcaaGreatDoor
open Go.ChangeShapes Go.WideShapes Go.ChangeAt Go.RowKit
set_option linter.unusedVariables false
set_option linter.unusedSimpArgs false
set_option maxRecDepth 100000
set_option maxHeartbeats 4000000

theorem EX.ck_eq (e : List EX.Nd) : EX.ck e = if 60 < e.length then 2 else if e.length = 0 then 1 else match EX.up EX.dOf e [] with
    | .error c => c
    | .ok out => if 1 < out.length then 1 else if 12 < out.headD 0 then 10 else 0 := by
  unfold EX.ck EX.dep
  split
  · rename_i c hc
    split at hc
    · cases hc; rename_i h; rw [if_pos h]
    rename_i h1
    split at hc
    · cases hc; rename_i h; rw [if_neg h1, if_pos h]
    rename_i h2
    rw [if_neg h1, if_neg h2]
    split at hc
    · rename_i hu; cases hc; rw [hu]
    · rename_i out hu
      rw [hu]
      split at hc
      · cases hc; rename_i h; simp only [if_pos h]
      rename_i h3
      split at hc
      · cases hc; rename_i h; simp only [if_neg h3, if_pos h]
      · cases hc
  · rename_i y hc
    split at hc
    · cases hc
    rename_i h1
    split at hc
    · cases hc
    rename_i h2
    rw [if_neg h1, if_neg h2]
    split at hc
    · cases hc
    · rename_i out hu
      rw [hu]
      split at hc
      · cases hc
      rename_i h3
      split at hc
      · cases hc
      · rename_i h4; simp only [if_neg h3, if_neg h4]
theorem EX.mx_drop (l : List Nat) (k : Nat) (h : k < l.length) : EX.mx (l.drop (l.length - (k + 1))) = max (l[l.length - (k + 1)]'(by omega)) (EX.mx (l.drop (l.length - k))) := by
  rw [List.drop_eq_getElem_cons (show l.length - (k + 1) < l.length by omega), show l.length - (k + 1) + 1 = l.length - k by omega]
  generalize l.drop (l.length - k) = r
  generalize l[l.length - (k + 1)] = x
  unfold EX.mx
  simp only [List.foldl_cons]
  have key : ∀ (r : List Nat) (a : Nat), r.foldl max a = max a (r.foldl max 0) := by
    intro r
    induction r with
    | nil => intro a; simp
    | cons y r ih =>
      intro a
      simp only [List.foldl_cons]
      rw [ih (max a y), ih (max 0 y)]
      omega
  rw [key r (max 0 x)]
  omega
theorem rexprCheck_any (v : Value) (e : List EX.Nd) (w : World) (h : IsL cdN w v e) (hn : ∀ n ∈ e, n.nm.size ≤ 140737488355327) (hl : e.length ≤ 9223372036854775806) :
    Calls Tryz.prog 24 #[v] w fun r w' => r = .returned (.int .i64 (EX.ck e)) ∧ Fr w w' := by
  have HZ := hideP (EX.ck_eq e)
  generalize EX.ck e = z at *
  obtain ⟨a, cap, rfl, hcap, hcs⟩ := h
  have HC := hideP hcs
  have HN := hideP hn
  clear hcs hn
  obtain ⟨i0, hi0, hz0, hz1, hz2⟩ := info_parts Tryz.infoElem
  by_cases h60 : 60 < e.length
  · have h60' : (60 : Int) < (e.length : Int) := by omega
    replace HZ := hideP (HZ.out.trans (if_pos h60))
    go_enter Tryz.func24, Tryz.ntmps24
    go_wp2_with fail
    go_ret
    exact ⟨ret_int (by rw [HZ.out]; rfl), Fr.refl _⟩
  have h60' : ¬ (60 : Int) < (e.length : Int) := by omega
  replace HZ := hideP (HZ.out.trans (if_neg h60))
  by_cases h0 : e.length = 0
  · replace HZ := hideP (HZ.out.trans (if_pos h0))
    rw [h0] at h60' ⊢
    go_enter Tryz.func24, Tryz.ntmps24
    go_wp2_with fail
    go_ret
    exact ⟨ret_int (by rw [HZ.out]; rfl), Fr.refl _⟩
  have h0' : ¬ ((e.length : Int) = 0) := by omega
  have h0b : ((e.length : Int) == 0) = false := by rw [beq_eq_false_iff_ne]; exact h0'
  replace HZ := hideP (HZ.out.trans (if_neg h0))
  have HPos := hideP (fun out (h1 : EX.up EX.dOf e [] = .ok out) => EX.up_pos e [] out h1 (.inl (fun h3 => h0 (by rw [h3]; rfl))))
  clear h0
  go_enter Tryz.func24, Tryz.ntmps24
  go_wp2_with fail
  go_loopw [3, 4, 5, 6, 7, 8] (fun fv iv _ _ _ _ wr => ∃ (i : Nat) (free : List Nat), iv = .int .i64 i ∧ i ≤ e.length ∧ EX.up EX.dOf e [] = EX.up EX.dOf (e.drop i) free ∧ wr.ownsRow w.heap.size 3 1 fv free.length (flat cdI free) ∧ Fr w wr ∧ (∀ x ∈ free, x ≤ i) ∧ free.length ≤ i) (fun _ iv _ _ _ _ _ => e.length - (intOf iv).toNat)
  case atStart => exact ⟨0, [], rfl, Nat.zero_le _, rfl, World.ownsRow_nil _ _ _ _, Fr.refl _, fun x hx => by simp at hx, Nat.le_refl _⟩
  case round =>
    obtain ⟨i, free, rfl, hi, hall, hown, hfr, hbd, hfl⟩ := hrel
    obtain ⟨fa, fc, rfl⟩ := own_slice hown
    have HA := hideP hall
    have HO := hideP hown
    have HF := hideP hfr
    have HBd := hideP hbd
    obtain ⟨L, hL⟩ : ∃ L, free.length = L := ⟨_, rfl⟩
    have HL := hideP hL
    rw [hL] at HO hfl ⊢
    clear hall hown hfr hbd hL
    by_cases hlt : i < e.length
    · have hlt' : (i : Int) < (e.length : Int) := by omega
      obtain ⟨b, o, rfl, hb, hc⟩ : ∃ b o, a = some ⟨b, o, none⟩ ∧ b < w.heap.size ∧ At cdN w b o e := by
        rcases HC.out with h | h
        · rw [h] at hlt; simp at hlt
        · exact h
      obtain ⟨c0, c1, c2, c3, c4, c5⟩ := (hc.fr hb HF.out).nd i hlt
      have HC1 := hideP (fun W (g : Fr w W) => ((hc.fr hb g).nd i hlt).2.1)
      have hn := HN.out e[i] (List.getElem_mem hlt)
      rw [List.drop_eq_getElem_cons hlt] at HA
      generalize e[i] = n at *
      have HNc := hideP (fun W => nodeCheck_any n W hn)
      have hk0 := fun h => EX.kids_nonneg (n := n) h
      have hk7 : EX.nchk n = 0 → n.kids ≤ 7 := fun h => by
        unfold EX.nchk at h
        split at h
        · cases h
        split at h
        · cases h
        have : EX.km n.op ≤ 7 := by unfold EX.km; (repeat' split) <;> decide
        omega
      have hup : EX.up EX.dOf (n :: e.drop (i + 1)) free = match EX.dOf n (free.drop (L - n.kids.toNat)) with
          | .error c => .error c
          | .ok x => EX.up EX.dOf (e.drop (i + 1)) (free.take (L - n.kids.toNat) ++ [x]) := by
        rw [EX.up]
        simp only [HL.out]
        cases EX.dOf n (free.drop (L - n.kids.toNat)) <;> rfl
      rw [hup] at HA
      have hdof : EX.dOf n (free.drop (L - n.kids.toNat)) = if EX.nchk n ≠ 0 then .error (EX.nchk n) else if ((free.drop (L - n.kids.toNat)).length : Int) < n.kids then .error 1 else .ok (EX.mx (free.drop (L - n.kids.toNat)) + 1) := rfl
      rw [hdof, List.length_drop, HL.out] at HA
      generalize EX.nchk n = nz at *
      obtain ⟨op, kids, ⟨vk, vn, vs⟩, nm⟩ := n
      simp only [EX.val] at c0 c1 c2 c3 c4 c5 HNc HC1 HA hk0 hk7
      clear hc hn hup hdof
      by_cases hnz : nz = 0
      case neg =>
        rw [if_pos hnz] at HA
        have HZ2 : Hid (z = nz) := by
          refine HZ.out.trans ?_
          rw [HA.out]
        have e1 : ((nz : Int) != 0) = true := by simp; omega
        have e2 : ¬ ((nz : Int) = 0) := by omega
        go_wp2_with fail
        refine (HNc.out _).mono ?_
        rintro _ w2 ⟨rfl, f2⟩
        go_wp2_with fail
        go_ret
        exact ⟨ret_int (by rw [HZ2.out]), HF.out.trans f2⟩
      subst hnz
      obtain ⟨K, rfl⟩ : ∃ K : Nat, kids = (K : Int) := ⟨kids.toNat, by have := hk0 rfl; omega⟩
      have hK7 : K ≤ 7 := by have := hk7 rfl; omega
      simp only [Int.toNat_natCast] at HA
      rw [if_neg (by simp)] at HA
      clear hk0 hk7
      by_cases hLK : L < K
      · have hLK' : (L : Int) < (K : Int) := by omega
        rw [if_pos (show (((L - (L - K) : Nat)) : Int) < (K : Int) by omega)] at HA
        have HZ2 : Hid (z = 1) := by
          refine HZ.out.trans ?_
          rw [HA.out]
        go_wp2_with fail
        refine (HNc.out _).mono ?_
        rintro _ w2 ⟨rfl, f2⟩
        have c1 := HC1.out w2 (HF.out.trans f2)
        go_wp2_with fail
        go_ret
        exact ⟨ret_int (by rw [HZ2.out]; rfl), HF.out.trans f2⟩
      · have hLK' : ¬ (L : Int) < (K : Int) := by omega
        rw [if_neg (show ¬ (((L - (L - K) : Nat)) : Int) < (K : Int) by omega)] at HA
        go_wp2_with fail
        refine (HNc.out _).mono ?_
        rintro _ w2 ⟨rfl, f2⟩
        have F2 := hideP (HF.out.trans f2)
        have HO2 := hideP (own_fr HO.out f2)
        have c1 := HC1.out w2 F2.out
        clear f2 c0 c2 c3 c4 c5
        go_wp2_with fail
        clear c1
        go_loopw [3, 6, 7, 8] (fun dv mv kv _ wr => ∃ k : Nat, kv = .int .i64 k ∧ k ≤ K ∧ dv = .slice fa (L - k) fc ∧ mv = .int .i64 ((EX.mx (free.drop (L - k)) : Nat) : Int) ∧ wr = w2) (fun _ _ kv _ _ => K - (intOf kv).toNat)
        case atStart => exact ⟨0, rfl, Nat.zero_le _, rfl, by
          rw [Nat.sub_zero, ← HL.out, List.drop_length]; rfl, rfl⟩
        case round =>
          obtain ⟨k, rfl, hk, rfl, rfl, rfl⟩ := hrel
          have c1 := HC1.out _ F2.out
          by_cases hkl : k < K
          · have hkl' : (k : Int) < (K : Int) := by omega
            obtain ⟨m, hm⟩ : ∃ m, L - k = m + 1 := ⟨L - k - 1, by omega⟩
            have HM := hideP hm
            obtain ⟨ga, gc, hge, hgc, hgg⟩ := isL_own (E := cdI) (l := free) (by rw [HL.out]; exact HO2.out)
            have hge' : fa = ga ∧ fc = gc := by
              injection hge with h1 h2 h3
              exact ⟨h1, h3⟩
            obtain ⟨rfl, rfl⟩ := hge'
            obtain ⟨g, og, rfl, hgb, hgat⟩ : ∃ b o, fa = some ⟨b, o, none⟩ ∧ b < wr.heap.size ∧ At cdI wr b o free := by
              rcases hgg with h | h
              · have := HL.out
                rw [h] at this
                simp at this
                omega
              · exact h
            have hml : m < free.length := by rw [HL.out]; omega
            have d0 := hgat.i1 m hml
            have hmx := EX.mx_drop free k (by rw [HL.out]; omega)
            have hfm : free.length - (k + 1) = m := by rw [HL.out]; omega
            have hbm := HBd.out free[m] (List.getElem_mem hml)
            have hx : (free[free.length - (k + 1)]'(by omega)) = free[m] := by congr 1
            rw [hx, hfm, HL.out, hm] at hmx
            have hgc' : L ≤ fc := by rw [← HL.out]; exact hgc
            rw [hm] at ⊢
            generalize free[m] = x at *
            generalize hq : EX.mx (free.drop (m + 1)) = q at *
            have HX := hideP hmx
            have hx1 : (1 : Int) ≤ (m : Int) + 1 := by omega
            have hx4 : (m : Int) ≤ 60 := by omega
            have hx2 : (m : Int) + 1 ≤ (fc : Int) := by omega
            have hx3 : (m : Int) ≤ (fc : Int) := by omega
            have HK1 : Hid (L - (k + 1) = m) := by unfold Hid; omega
            clear hgat hgg hge hmx hfm hm hx
            by_cases hgt : q < x
            · have hgt' : (q : Int) < (x : Int) := by omega
              go_wp2_with fail
              go_roundw
              case rel => exact ⟨k + 1, by go_num, by omega, by rw [HK1.out], by rw [HK1.out, HX.out]; congr 2; omega, by first | rfl | trivial⟩
              case measure => simp [intOf]; omega
            · have hgt' : ¬ (q : Int) < (x : Int) := by omega
              go_wp2_with fail
              go_roundw
              case rel => exact ⟨k + 1, by go_num, by omega, by rw [HK1.out], by rw [HK1.out, HX.out]; congr 2; omega, by first | rfl | trivial⟩
              case measure => simp [intOf]; omega
          · obtain rfl : k = K := by omega
            have hkl' : ((k : Int) < (k : Int)) = False := by simp
            have hqb : EX.mx (free.drop (L - k)) ≤ i := EX.mx_le (fun y hy => HBd.out y (List.mem_of_mem_drop hy))
            have HTk := hideP (show wr.ownsRow w.heap.size 3 1 (.slice fa (L - k) fc) (L - k) (flat cdI (free.take (L - k))) from by
              have h := own_take (m := L - k) HO2.out (by omega) (by decide)
              have e9 := flat_take cdI free (L - k) (by rw [HL.out]; omega)
              rw [← e9]
              exact h)
            have HOk : Hid (∀ y ∈ free.take (L - k) ++ [EX.mx (free.drop (L - k)) + 1], y ≤ i + 1) := by
              intro y hy
              rcases List.mem_append.1 hy with h | h
              · have := HBd.out y (List.mem_of_mem_take h); omega
              · obtain rfl : y = _ := by simpa using h
                omega
            have HLn : Hid ((free.take (L - k) ++ [EX.mx (free.drop (L - k)) + 1]).length = L - k + 1) := by
              unfold Hid
              rw [List.length_append, List.length_take, HL.out, Nat.min_eq_left (by omega)]
              rfl
            generalize hq : EX.mx (free.drop (L - k)) = q at *
            generalize hM : L - k = M at *
            have hMb : M ≤ 60 := by omega
            have hMi : M ≤ i := by omega
            have HLit := hideP (fun (W : World) => show IsL cdI (W.alloc (.cells #[.int .i64 ((q : Int) + 1)] 3)) (.slice (some ⟨W.heap.size, 0, none⟩) 1 1) [q + 1] from by
              have h := lit_one cdI W (q + 1) 3
              have e9 : (cdI.c (q + 1)).toArray = #[.int .i64 ((q : Int) + 1)] := by simp [cdI]
              rw [e9] at h
              exact h)
            have HZq : Hid (EX.up EX.dOf e [] = EX.up EX.dOf (e.drop (i + 1)) (free.take M ++ [q + 1])) := HA.out
            have FA := hideP (fun (W : World) => (Fr.refl W).alloc (.cells #[.int .i64 ((q : Int) + 1)] 3))
            have hq1 : (q : Int) + 1 ≤ 1000 := by omega
            have hq2 : 0 ≤ (q : Int) + 1 := by omega
            have hszw := F2.out.size
            clear hq hM HA
            go_wp2_with (at_builtin; refine wpList_append_L cdI rfl _ _ 64 3 i0 _ 8 rfl Tryz.underlying64 hi0 hz0 hz1 hz2 rfl w.heap.size _ M _ rfl (own_fr HTk.out (FA.out wr)) _ [q + 1] rfl (HLit.out wr) ?c3 ?c4 ?c5 ?_)
            case c3 => unfold maxLen; simp <;> omega
            case c4 => simp <;> omega
            case c5 => simp <;> omega
            intro v5 wB own5 gr5
            have FB := hideP (show Fr w wB from Below.grown (F2.out.trans (FA.out wr)) gr5 (Nat.le_trans F2.out.size (by simp)) (own_base (own_fr HTk.out (FA.out wr))))
            have HN5 := hideP (show wB.ownsRow w.heap.size 3 1 v5 (free.take M ++ [q + 1]).length (flat cdI (free.take M ++ [q + 1])) from by
              rw [HLn.out]
              exact own5)
            clear own5 gr5
            go_wp2_with fail
            go_roundw
            case rel => exact ⟨i + 1, free.take M ++ [q + 1], by go_num, by omega, HZq.out, HN5.out, FB.out, HOk.out, by rw [HLn.out]; omega⟩
            case measure => simp [intOf]; omega
    · obtain rfl : i = e.length := by omega
      have hlt' : ((e.length : Int) < (e.length : Int)) = False := by simp
      have hok : EX.up EX.dOf e [] = .ok free := by
        rw [HA.out, List.drop_length]
        rfl
      have hpos := HPos.out free hok
      replace HZ := hideP (show z = if 1 < free.length then 1 else if 12 < free.headD 0 then 10 else 0 from by
        refine HZ.out.trans ?_
        rw [hok])
      rw [HL.out] at HZ
      have hL0 : L ≠ 0 := fun h => hpos (List.length_eq_zero_iff.1 (by rw [HL.out]; exact h))
      clear hok
      by_cases hL1 : L = 1
      · subst hL1
        replace HZ := hideP (HZ.out.trans (if_neg (by omega)))
        obtain ⟨x, rfl⟩ : ∃ x, free = [x] := by
          match free, HL.out with
          | [x], _ => exact ⟨x, rfl⟩
        obtain ⟨ga, gc, hge, hgc, hgg⟩ := isL_own (E := cdI) (l := [x]) HO.out
        cases hge
        obtain ⟨g, og, rfl, hgb, hgat⟩ : ∃ b o, fa = some ⟨b, o, none⟩ ∧ b < wr.heap.size ∧ At cdI wr b o [x] := by
          rcases hgg with h | h
          · cases h
          · exact h
        have d0 := hgat.i1 0 (by simp)
        simp only [List.getElem_cons_zero, Nat.add_zero] at d0
        simp only [List.headD_cons] at HZ
        clear hgat hgg hpos
        by_cases h12 : 12 < x
        · have h12' : (12 : Int) < (x : Int) := by omega
          replace HZ := hideP (HZ.out.trans (if_pos h12))
          go_wp2_with fail
          go_ret
          exact ⟨ret_int (by rw [HZ.out]; rfl), HF.out⟩
        · have h12' : ¬ (12 : Int) < (x : Int) := by omega
          replace HZ := hideP (HZ.out.trans (if_neg h12))
          go_wp2_with fail
          go_ret
          exact ⟨ret_int (by rw [HZ.out]; rfl), HF.out⟩
      · replace HZ := hideP (HZ.out.trans (if_pos (by omega)))
        have e1 : ((L : Int) != 1) = true := by simp; omega
        have e2 : ¬ ((L : Int) = 1) := by omega
        go_wp2_with fail
        go_ret
        exact ⟨ret_int (by rw [HZ.out]; rfl), HF.out⟩
end Go.Proofs.YtjboeabddnnlcaaGreatDoor
