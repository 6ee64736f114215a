/-
  What belongs together: ReB, ReC, ReD.
-/
import Derived.Test.YtjljohmflhmkmaaGreatDoorReA
import Derived.Test.YtjljohmflhmkmaaGreatDoorEvK
import Derived.Test.YtjljohmflhmkmaaGreatDoorExP
import Derived.Test.YtjljohmflhmkmaaGreatDoorGpG
import Derived.Test.YtjljohmflhmkmaaGreatDoorEvY
namespace Go.Proofs.YtjljohmflhmkmaaGreatDoor
open Go.ChangeShapes Go.WideShapes Go.ChangeAt Go.RowKit
set_option linter.unusedVariables false
set_option linter.unusedSimpArgs false
set_option maxRecDepth 100000
set_option maxHeartbeats 4000000

theorem EX.ck_eq (e : List EX.Nd) : EX.ck e = if 60 < e.length then 2 else if e.length = 0 then 1 else match EX.up EX.dOf e [] with
    | .error c => c
    | .ok out => if 1 < out.length then 1 else if 12 < out.headD 0 then 10 else 0 := by
  unfold EX.ck EX.dep
  split
  · rename_i c hc
    split at hc
    · cases hc; rename_i h; rw [if_pos h]
    rename_i h1
    split at hc
    · cases hc; rename_i h; rw [if_neg h1, if_pos h]
    rename_i h2
    rw [if_neg h1, if_neg h2]
    split at hc
    · rename_i hu; cases hc; rw [hu]
    · rename_i out hu
      rw [hu]
      split at hc
      · cases hc; rename_i h; simp only [if_pos h]
      rename_i h3
      split at hc
      · cases hc; rename_i h; simp only [if_neg h3, if_pos h]
      · cases hc
  · rename_i y hc
    split at hc
    · cases hc
    rename_i h1
    split at hc
    · cases hc
    rename_i h2
    rw [if_neg h1, if_neg h2]
    split at hc
    · cases hc
    · rename_i out hu
      rw [hu]
      split at hc
      · cases hc
      rename_i h3
      split at hc
      · cases hc
      · rename_i h4; simp only [if_neg h3, if_neg h4]
theorem EX.mx_drop (l : List Nat) (k : Nat) (h : k < l.length) : EX.mx (l.drop (l.length - (k + 1))) = max (l[l.length - (k + 1)]'(by omega)) (EX.mx (l.drop (l.length - k))) := by
  rw [List.drop_eq_getElem_cons (show l.length - (k + 1) < l.length by omega), show l.length - (k + 1) + 1 = l.length - k by omega]
  generalize l.drop (l.length - k) = r
  generalize l[l.length - (k + 1)] = x
  unfold EX.mx
  simp only [List.foldl_cons]
  have key : ∀ (r : List Nat) (a : Nat), r.foldl max a = max a (r.foldl max 0) := by
    intro r
    induction r with
    | nil => intro a; simp
    | cons y r ih =>
      intro a
      simp only [List.foldl_cons]
      rw [ih (max a y), ih (max 0 y)]
      omega
  rw [key r (max 0 x)]
  omega
theorem rexprCheck_any (v : Value) (e : List EX.Nd) (w : World) (h : IsL cdN w v e) (hn : ∀ n ∈ e, n.nm.size ≤ 140737488355327) (hl : e.length ≤ 9223372036854775806) :
    Calls Tryz.prog 24 #[v] w fun r w' => r = .returned (.int .i64 (EX.ck e)) ∧ Fr w w' := by
  have HZ := hideP (EX.ck_eq e)
  generalize EX.ck e = z at *
  obtain ⟨a, cap, rfl, hcap, hcs⟩ := h
  have HC := hideP hcs
  have HN := hideP hn
  clear hcs hn
  obtain ⟨i0, hi0, hz0, hz1, hz2⟩ := info_parts Tryz.infoElem
  by_cases h60 : 60 < e.length
  · have h60' : (60 : Int) < (e.length : Int) := by omega
    replace HZ := hideP (HZ.out.trans (if_pos h60))
    go_enter Tryz.func24, Tryz.ntmps24
    go_wp2_with fail
    go_ret
    exact ⟨ret_int (by rw [HZ.out]; rfl), Fr.refl _⟩
  have h60' : ¬ (60 : Int) < (e.length : Int) := by omega
  replace HZ := hideP (HZ.out.trans (if_neg h60))
  by_cases h0 : e.length = 0
  · replace HZ := hideP (HZ.out.trans (if_pos h0))
    rw [h0] at h60' ⊢
    go_enter Tryz.func24, Tryz.ntmps24
    go_wp2_with fail
    go_ret
    exact ⟨ret_int (by rw [HZ.out]; rfl), Fr.refl _⟩
  have h0' : ¬ ((e.length : Int) = 0) := by omega
  have h0b : ((e.length : Int) == 0) = false := by rw [beq_eq_false_iff_ne]; exact h0'
  replace HZ := hideP (HZ.out.trans (if_neg h0))
  have HPos := hideP (fun out (h1 : EX.up EX.dOf e [] = .ok out) => EX.up_pos e [] out h1 (.inl (fun h3 => h0 (by rw [h3]; rfl))))
  clear h0
  go_enter Tryz.func24, Tryz.ntmps24
  go_wp2_with fail
  go_loopw [3, 4, 5, 6, 7, 8] (fun fv iv _ _ _ _ wr => ∃ (i : Nat) (free : List Nat), iv = .int .i64 i ∧ i ≤ e.length ∧ EX.up EX.dOf e [] = EX.up EX.dOf (e.drop i) free ∧ wr.ownsRow w.heap.size 3 1 fv free.length (flat cdI free) ∧ Fr w wr ∧ (∀ x ∈ free, x ≤ i) ∧ free.length ≤ i) (fun _ iv _ _ _ _ _ => e.length - (intOf iv).toNat)
  case atStart => exact ⟨0, [], rfl, Nat.zero_le _, rfl, World.ownsRow_nil _ _ _ _, Fr.refl _, fun x hx => by simp at hx, Nat.le_refl _⟩
  case round =>
    obtain ⟨i, free, rfl, hi, hall, hown, hfr, hbd, hfl⟩ := hrel
    obtain ⟨fa, fc, rfl⟩ := own_slice hown
    have HA := hideP hall
    have HO := hideP hown
    have HF := hideP hfr
    have HBd := hideP hbd
    obtain ⟨L, hL⟩ : ∃ L, free.length = L := ⟨_, rfl⟩
    have HL := hideP hL
    rw [hL] at HO hfl ⊢
    clear hall hown hfr hbd hL
    by_cases hlt : i < e.length
    · have hlt' : (i : Int) < (e.length : Int) := by omega
      obtain ⟨b, o, rfl, hb, hc⟩ : ∃ b o, a = some ⟨b, o, none⟩ ∧ b < w.heap.size ∧ At cdN w b o e := by
        rcases HC.out with h | h
        · rw [h] at hlt; simp at hlt
        · exact h
      obtain ⟨c0, c1, c2, c3, c4, c5⟩ := (hc.fr hb HF.out).nd i hlt
      have HC1 := hideP (fun W (g : Fr w W) => ((hc.fr hb g).nd i hlt).2.1)
      have hn := HN.out e[i] (List.getElem_mem hlt)
      rw [List.drop_eq_getElem_cons hlt] at HA
      generalize e[i] = n at *
      have HNc := hideP (fun W => nodeCheck_any n W hn)
      have hk0 := fun h => EX.kids_nonneg (n := n) h
      have hk7 : EX.nchk n = 0 → n.kids ≤ 7 := fun h => by
        unfold EX.nchk at h
        split at h
        · cases h
        split at h
        · cases h
        have : EX.km n.op ≤ 7 := by unfold EX.km; (repeat' split) <;> decide
        omega
      have hup : EX.up EX.dOf (n :: e.drop (i + 1)) free = match EX.dOf n (free.drop (L - n.kids.toNat)) with
          | .error c => .error c
          | .ok x => EX.up EX.dOf (e.drop (i + 1)) (free.take (L - n.kids.toNat) ++ [x]) := by
        rw [EX.up]
        simp only [HL.out]
        cases EX.dOf n (free.drop (L - n.kids.toNat)) <;> rfl
      rw [hup] at HA
      have hdof : EX.dOf n (free.drop (L - n.kids.toNat)) = if EX.nchk n ≠ 0 then .error (EX.nchk n) else if ((free.drop (L - n.kids.toNat)).length : Int) < n.kids then .error 1 else .ok (EX.mx (free.drop (L - n.kids.toNat)) + 1) := rfl
      rw [hdof, List.length_drop, HL.out] at HA
      generalize EX.nchk n = nz at *
      obtain ⟨op, kids, ⟨vk, vn, vs⟩, nm⟩ := n
      simp only [EX.val] at c0 c1 c2 c3 c4 c5 HNc HC1 HA hk0 hk7
      clear hc hn hup hdof
      by_cases hnz : nz = 0
      case neg =>
        rw [if_pos hnz] at HA
        have HZ2 : Hid (z = nz) := by
          refine HZ.out.trans ?_
          rw [HA.out]
        have e1 : ((nz : Int) != 0) = true := by simp; omega
        have e2 : ¬ ((nz : Int) = 0) := by omega
        go_wp2_with fail
        refine (HNc.out _).mono ?_
        rintro _ w2 ⟨rfl, f2⟩
        go_wp2_with fail
        go_ret
        exact ⟨ret_int (by rw [HZ2.out]), HF.out.trans f2⟩
      subst hnz
      obtain ⟨K, rfl⟩ : ∃ K : Nat, kids = (K : Int) := ⟨kids.toNat, by have := hk0 rfl; omega⟩
      have hK7 : K ≤ 7 := by have := hk7 rfl; omega
      simp only [Int.toNat_natCast] at HA
      rw [if_neg (by simp)] at HA
      clear hk0 hk7
      by_cases hLK : L < K
      · have hLK' : (L : Int) < (K : Int) := by omega
        rw [if_pos (show (((L - (L - K) : Nat)) : Int) < (K : Int) by omega)] at HA
        have HZ2 : Hid (z = 1) := by
          refine HZ.out.trans ?_
          rw [HA.out]
        go_wp2_with fail
        refine (HNc.out _).mono ?_
        rintro _ w2 ⟨rfl, f2⟩
        have c1 := HC1.out w2 (HF.out.trans f2)
        go_wp2_with fail
        go_ret
        exact ⟨ret_int (by rw [HZ2.out]; rfl), HF.out.trans f2⟩
      · have hLK' : ¬ (L : Int) < (K : Int) := by omega
        rw [if_neg (show ¬ (((L - (L - K) : Nat)) : Int) < (K : Int) by omega)] at HA
        go_wp2_with fail
        refine (HNc.out _).mono ?_
        rintro _ w2 ⟨rfl, f2⟩
        have F2 := hideP (HF.out.trans f2)
        have HO2 := hideP (own_fr HO.out f2)
        have c1 := HC1.out w2 F2.out
        clear f2 c0 c2 c3 c4 c5
        go_wp2_with fail
        clear c1
        go_loopw [3, 6, 7, 8] (fun dv mv kv _ wr => ∃ k : Nat, kv = .int .i64 k ∧ k ≤ K ∧ dv = .slice fa (L - k) fc ∧ mv = .int .i64 ((EX.mx (free.drop (L - k)) : Nat) : Int) ∧ wr = w2) (fun _ _ kv _ _ => K - (intOf kv).toNat)
        case atStart => exact ⟨0, rfl, Nat.zero_le _, rfl, by
          rw [Nat.sub_zero, ← HL.out, List.drop_length]; rfl, rfl⟩
        case round =>
          obtain ⟨k, rfl, hk, rfl, rfl, rfl⟩ := hrel
          have c1 := HC1.out _ F2.out
          by_cases hkl : k < K
          · have hkl' : (k : Int) < (K : Int) := by omega
            obtain ⟨m, hm⟩ : ∃ m, L - k = m + 1 := ⟨L - k - 1, by omega⟩
            have HM := hideP hm
            obtain ⟨ga, gc, hge, hgc, hgg⟩ := isL_own (E := cdI) (l := free) (by rw [HL.out]; exact HO2.out)
            have hge' : fa = ga ∧ fc = gc := by
              injection hge with h1 h2 h3
              exact ⟨h1, h3⟩
            obtain ⟨rfl, rfl⟩ := hge'
            obtain ⟨g, og, rfl, hgb, hgat⟩ : ∃ b o, fa = some ⟨b, o, none⟩ ∧ b < wr.heap.size ∧ At cdI wr b o free := by
              rcases hgg with h | h
              · have := HL.out
                rw [h] at this
                simp at this
                omega
              · exact h
            have hml : m < free.length := by rw [HL.out]; omega
            have d0 := hgat.i1 m hml
            have hmx := EX.mx_drop free k (by rw [HL.out]; omega)
            have hfm : free.length - (k + 1) = m := by rw [HL.out]; omega
            have hbm := HBd.out free[m] (List.getElem_mem hml)
            have hx : (free[free.length - (k + 1)]'(by omega)) = free[m] := by congr 1
            rw [hx, hfm, HL.out, hm] at hmx
            have hgc' : L ≤ fc := by rw [← HL.out]; exact hgc
            rw [hm] at ⊢
            generalize free[m] = x at *
            generalize hq : EX.mx (free.drop (m + 1)) = q at *
            have HX := hideP hmx
            have hx1 : (1 : Int) ≤ (m : Int) + 1 := by omega
            have hx4 : (m : Int) ≤ 60 := by omega
            have hx2 : (m : Int) + 1 ≤ (fc : Int) := by omega
            have hx3 : (m : Int) ≤ (fc : Int) := by omega
            have HK1 : Hid (L - (k + 1) = m) := by unfold Hid; omega
            clear hgat hgg hge hmx hfm hm hx
            by_cases hgt : q < x
            · have hgt' : (q : Int) < (x : Int) := by omega
              go_wp2_with fail
              go_roundw
              case rel => exact ⟨k + 1, by go_num, by omega, by rw [HK1.out], by rw [HK1.out, HX.out]; congr 2; omega, by first | rfl | trivial⟩
              case measure => simp [intOf]; omega
            · have hgt' : ¬ (q : Int) < (x : Int) := by omega
              go_wp2_with fail
              go_roundw
              case rel => exact ⟨k + 1, by go_num, by omega, by rw [HK1.out], by rw [HK1.out, HX.out]; congr 2; omega, by first | rfl | trivial⟩
              case measure => simp [intOf]; omega
          · obtain rfl : k = K := by omega
            have hkl' : ((k : Int) < (k : Int)) = False := by simp
            have hqb : EX.mx (free.drop (L - k)) ≤ i := EX.mx_le (fun y hy => HBd.out y (List.mem_of_mem_drop hy))
            have HTk := hideP (show wr.ownsRow w.heap.size 3 1 (.slice fa (L - k) fc) (L - k) (flat cdI (free.take (L - k))) from by
              have h := own_take (m := L - k) HO2.out (by omega) (by decide)
              have e9 := flat_take cdI free (L - k) (by rw [HL.out]; omega)
              rw [← e9]
              exact h)
            have HOk : Hid (∀ y ∈ free.take (L - k) ++ [EX.mx (free.drop (L - k)) + 1], y ≤ i + 1) := by
              intro y hy
              rcases List.mem_append.1 hy with h | h
              · have := HBd.out y (List.mem_of_mem_take h); omega
              · obtain rfl : y = _ := by simpa using h
                omega
            have HLn : Hid ((free.take (L - k) ++ [EX.mx (free.drop (L - k)) + 1]).length = L - k + 1) := by
              unfold Hid
              rw [List.length_append, List.length_take, HL.out, Nat.min_eq_left (by omega)]
              rfl
            generalize hq : EX.mx (free.drop (L - k)) = q at *
            generalize hM : L - k = M at *
            have hMb : M ≤ 60 := by omega
            have hMi : M ≤ i := by omega
            have HLit := hideP (fun (W : World) => show IsL cdI (W.alloc (.cells #[.int .i64 ((q : Int) + 1)] 3)) (.slice (some ⟨W.heap.size, 0, none⟩) 1 1) [q + 1] from by
              have h := lit_one cdI W (q + 1) 3
              have e9 : (cdI.c (q + 1)).toArray = #[.int .i64 ((q : Int) + 1)] := by simp [cdI]
              rw [e9] at h
              exact h)
            have HZq : Hid (EX.up EX.dOf e [] = EX.up EX.dOf (e.drop (i + 1)) (free.take M ++ [q + 1])) := HA.out
            have FA := hideP (fun (W : World) => (Fr.refl W).alloc (.cells #[.int .i64 ((q : Int) + 1)] 3))
            have hq1 : (q : Int) + 1 ≤ 1000 := by omega
            have hq2 : 0 ≤ (q : Int) + 1 := by omega
            have hszw := F2.out.size
            clear hq hM HA
            go_wp2_with (at_builtin; refine wpList_append_L cdI rfl _ _ 64 3 i0 _ 8 rfl Tryz.underlying64 hi0 hz0 hz1 hz2 rfl w.heap.size _ M _ rfl (own_fr HTk.out (FA.out wr)) _ [q + 1] rfl (HLit.out wr) ?c3 ?c4 ?c5 ?_)
            case c3 => unfold maxLen; simp <;> omega
            case c4 => simp <;> omega
            case c5 => simp <;> omega
            intro v5 wB own5 gr5
            have FB := hideP (show Fr w wB from Below.grown (F2.out.trans (FA.out wr)) gr5 (Nat.le_trans F2.out.size (by simp)) (own_base (own_fr HTk.out (FA.out wr))))
            have HN5 := hideP (show wB.ownsRow w.heap.size 3 1 v5 (free.take M ++ [q + 1]).length (flat cdI (free.take M ++ [q + 1])) from by
              rw [HLn.out]
              exact own5)
            clear own5 gr5
            go_wp2_with fail
            go_roundw
            case rel => exact ⟨i + 1, free.take M ++ [q + 1], by go_num, by omega, HZq.out, HN5.out, FB.out, HOk.out, by rw [HLn.out]; omega⟩
            case measure => simp [intOf]; omega
    · obtain rfl : i = e.length := by omega
      have hlt' : ((e.length : Int) < (e.length : Int)) = False := by simp
      have hok : EX.up EX.dOf e [] = .ok free := by
        rw [HA.out, List.drop_length]
        rfl
      have hpos := HPos.out free hok
      replace HZ := hideP (show z = if 1 < free.length then 1 else if 12 < free.headD 0 then 10 else 0 from by
        refine HZ.out.trans ?_
        rw [hok])
      rw [HL.out] at HZ
      have hL0 : L ≠ 0 := fun h => hpos (List.length_eq_zero_iff.1 (by rw [HL.out]; exact h))
      clear hok
      by_cases hL1 : L = 1
      · subst hL1
        replace HZ := hideP (HZ.out.trans (if_neg (by omega)))
        obtain ⟨x, rfl⟩ : ∃ x, free = [x] := by
          match free, HL.out with
          | [x], _ => exact ⟨x, rfl⟩
        obtain ⟨ga, gc, hge, hgc, hgg⟩ := isL_own (E := cdI) (l := [x]) HO.out
        cases hge
        obtain ⟨g, og, rfl, hgb, hgat⟩ : ∃ b o, fa = some ⟨b, o, none⟩ ∧ b < wr.heap.size ∧ At cdI wr b o [x] := by
          rcases hgg with h | h
          · cases h
          · exact h
        have d0 := hgat.i1 0 (by simp)
        simp only [List.getElem_cons_zero, Nat.add_zero] at d0
        simp only [List.headD_cons] at HZ
        clear hgat hgg hpos
        by_cases h12 : 12 < x
        · have h12' : (12 : Int) < (x : Int) := by omega
          replace HZ := hideP (HZ.out.trans (if_pos h12))
          go_wp2_with fail
          go_ret
          exact ⟨ret_int (by rw [HZ.out]; rfl), HF.out⟩
        · have h12' : ¬ (12 : Int) < (x : Int) := by omega
          replace HZ := hideP (HZ.out.trans (if_neg h12))
          go_wp2_with fail
          go_ret
          exact ⟨ret_int (by rw [HZ.out]; rfl), HF.out⟩
      · replace HZ := hideP (HZ.out.trans (if_pos (by omega)))
        have e1 : ((L : Int) != 1) = true := by simp; omega
        have e2 : ¬ ((L : Int) = 1) := by omega
        go_wp2_with fail
        go_ret
        exact ⟨ret_int (by rw [HZ.out]; rfl), HF.out⟩
end Go.Proofs.YtjljohmflhmkmaaGreatDoor
namespace Go.Proofs.YtjljohmflhmkmaaGreatDoor
open Go.ChangeShapes Go.WideShapes Go.ChangeAt Go.RowKit
set_option linter.unusedVariables false
set_option linter.unusedSimpArgs false
set_option maxRecDepth 100000
set_option maxHeartbeats 2000000

namespace EX
theorem take_succ : ∀ (m : Nat) (t : F), m < t.len → t.good → ∃ n k, F.take (m + 1) t = F.app (F.take m t) (.nd n k .nil) ∧ (F.nd n k .nil).good ∧ t.parts[m]? = some (k.flat ++ [n])
  | m, .nil, h, _ => by simp [F.len] at h
  | 0, .nd n k s, _, hg => ⟨n, k, by simp [F.take, F.app], ⟨hg.1, hg.2.1, hg.2.2.1, trivial⟩, rfl⟩
  | m + 1, .nd n k s, h, hg => by
    obtain ⟨n', k', h1, h2, h3⟩ := take_succ m s (by simp only [F.len] at h; omega) hg.2.2.2
    exact ⟨n', k', by rw [F.take, h1]; rfl, h2, by simpa [F.parts] using h3⟩
theorem take_full : ∀ (t : F), F.take t.len t = t
  | .nil => rfl
  | .nd n k s => by simp only [F.len, F.take, take_full s]
end EX
/-- ExprBegin keeps its word of trees that have fewer nodes -/
def BgTo (N : Nat) : Prop := ∀ (n : EX.Nd) (k : EX.F) (A R : List EX.Nd) (v : Value) (W : World), (k.flat ++ [n]).length < N → (EX.F.nd n k .nil).good → (A ++ (k.flat ++ [n]) ++ R).length ≤ 1000 → IsL cdN W v (A ++ (k.flat ++ [n]) ++ R) →
  Calls Tryz.prog 68 #[v, .int .i64 (((A.length + (k.flat ++ [n]).length : Nat)) : Int)] W fun r w' => r = .returned (.int .i64 (A.length : Int)) ∧ Fr W w'
theorem begin_core (n : EX.Nd) (k : EX.F) (A R : List EX.Nd) (v : Value) (w : World) (HP : BgTo (k.flat ++ [n]).length) (hg : (EX.F.nd n k .nil).good) (hl : (A ++ (k.flat ++ [n]) ++ R).length ≤ 1000) (h : IsL cdN w v (A ++ (k.flat ++ [n]) ++ R)) :
    Calls Tryz.prog 68 #[v, .int .i64 (((A.length + (k.flat ++ [n]).length : Nat)) : Int)] w fun r w' => r = .returned (.int .i64 (A.length : Int)) ∧ Fr w w' := by
  have HSt : Hid (∀ m, m < k.len → ∀ W, Fr w W → Calls Tryz.prog 68 #[v, .int .i64 (((A.length + (EX.F.take (m + 1) k).flat.length : Nat)) : Int)] W fun r w' => r = .returned (.int .i64 ((A.length + (EX.F.take m k).flat.length : Nat) : Int)) ∧ Fr W w') := by
    intro m hm W g
    obtain ⟨n', k', h1, h2, _⟩ := EX.take_succ m k hm hg.2.2.1
    have hf : (EX.F.take (m + 1) k).flat = (EX.F.take m k).flat ++ (k'.flat ++ [n']) := by rw [h1, EX.F.flat_app]; rfl
    have hk : k.flat = (EX.F.take m k).flat ++ (k'.flat ++ [n']) ++ (EX.F.drop (m + 1) k).flat := by
      rw [← hf, ← EX.F.flat_app, EX.F.take_drop]
    have he : A ++ (k.flat ++ [n]) ++ R = (A ++ (EX.F.take m k).flat) ++ (k'.flat ++ [n']) ++ ((EX.F.drop (m + 1) k).flat ++ [n] ++ R) := by
      rw [hk]
      simp only [List.append_assoc]
    have hc := HP n' k' (A ++ (EX.F.take m k).flat) ((EX.F.drop (m + 1) k).flat ++ [n] ++ R) v W (by
      have := congrArg List.length hk
      simp only [List.length_append, List.length_cons, List.length_nil] at this ⊢
      omega) h2 (by rw [← he]; exact hl) (by rw [← he]; exact h.fr g)
    rw [List.length_append] at hc
    have e1 : A.length + (EX.F.take (m + 1) k).flat.length = A.length + (EX.F.take m k).flat.length + (k'.flat ++ [n']).length := by
      rw [hf, List.length_append]
      omega
    rw [e1]
    exact hc
  have hkk := hg.2.1
  obtain ⟨a, cap, rfl, hcap, hcs⟩ := h
  obtain ⟨b, o, rfl, hb, hat⟩ : ∃ b o, a = some ⟨b, o, none⟩ ∧ b < w.heap.size ∧ At cdN w b o (A ++ (k.flat ++ [n]) ++ R) := by
    rcases hcs with h | h
    · simp at h
    · exact h
  have HC := hideP (fun W (g : Fr w W) => ((hat.fr hb g).nd (A.length + k.flat.length) (by simp <;> omega)).2.1)
  have hget : (A ++ (k.flat ++ [n]) ++ R)[A.length + k.flat.length]'(by simp <;> omega) = n := by
    simp [List.getElem_append]
  rw [hget, hkk] at HC
  have hfull := EX.take_full k
  have hlen : (A ++ (k.flat ++ [n]) ++ R).length = A.length + k.flat.length + 1 + R.length := by simp; omega
  rw [hlen] at hl hcap HSt ⊢
  have e0 : A.length + (k.flat ++ [n]).length = A.length + k.flat.length + 1 := by simp; omega
  rw [e0]
  have HFu : Hid ((EX.F.take (k.len - 0) k).flat.length = k.flat.length) := by unfold Hid; rw [Nat.sub_zero, hfull]
  have HZe : Hid ((EX.F.take 0 k).flat.length = 0) := by unfold Hid; cases k <;> rfl
  have hlk : k.len ≤ 1000 := by
    have : k.len ≤ k.flat.length := by
      have key : ∀ (t : EX.F), t.len ≤ t.flat.length := by
        intro t
        induction t with
        | nil => exact Nat.le_refl _
        | nd n k s _ ih => simp only [EX.F.len, EX.F.flat, List.length_append, List.length_cons]; omega
      exact key k
    omega
  clear hcs hat hget hlen e0 HP hg hkk hfull
  generalize A.length = p at *
  generalize k.flat.length = kf at *
  generalize R.length = r0 at *
  have hx1 : (1 : Int) ≤ (p : Int) + (kf : Int) + 1 := by omega
  have hx2 : (p : Int) + (kf : Int) ≤ 1000 := by omega
  have hx3 : 0 ≤ (p : Int) + (kf : Int) := by omega
  have hx4 : (p : Int) + (kf : Int) < (p : Int) + (kf : Int) + 1 + (r0 : Int) := by omega
  generalize k.len = K at *
  rw [show (((p + kf + 1 : Nat)) : Int) = (p : Int) + (kf : Int) + 1 by omega]
  go_enter Tryz.func68, Tryz.ntmps68
  go_wp2_with fail
  go_loopw [5, 6] (fun av kv wr => ∃ j : Nat, kv = .int .i64 j ∧ j ≤ K ∧ av = .int .i64 ((p + (EX.F.take (K - j) k).flat.length : Nat) : Int) ∧ Fr w wr) (fun _ kv _ => K - (intOf kv).toNat)
  case atStart => exact ⟨0, rfl, Nat.zero_le _, by rw [HFu.out]; simp, Fr.refl _⟩
  case round =>
    obtain ⟨j, rfl, hj, rfl, hfr⟩ := hrel
    have HF := hideP hfr
    clear hfr
    have c1 := HC.out wr HF.out
    by_cases hlt : j < K
    · have hlt' : (j : Int) < (K : Int) := by omega
      have hst := HSt.out (K - (j + 1)) (by omega) wr HF.out
      rw [show K - (j + 1) + 1 = K - j by omega] at hst
      have HS := hideP hst
      clear hst
      generalize (EX.F.take (K - j) k).flat.length = x at *
      generalize hy : (EX.F.take (K - (j + 1)) k).flat.length = y at *
      have HY := hideP hy
      clear hy
      simp only [Int.natCast_add] at HS ⊢
      go_wp2_with fail
      refine HS.out.mono ?_
      rintro _ w2 ⟨rfl, f2⟩
      have F2 := hideP (HF.out.trans f2)
      clear f2
      go_wp2_with fail
      go_roundw
      case rel => exact ⟨j + 1, by go_num, by omega, by rw [HY.out], F2.out⟩
      case measure => simp [intOf]; omega
    · obtain rfl : j = K := by omega
      have hlt' : ((j : Int) < (j : Int)) = False := by simp
      rw [Nat.sub_self, HZe.out, Nat.add_zero]
      go_wp2_with fail
      go_ret
      exact ⟨rfl, HF.out⟩
theorem bgTo : ∀ N, BgTo N
  | 0 => fun n k A R v W h => by simp at h
  | N + 1 => fun n k A R v W h hg hl hi => begin_core n k A R v W (fun n' k' A' R' v' W' h' => bgTo N n' k' A' R' v' W' (by omega)) hg hl hi
end Go.Proofs.YtjljohmflhmkmaaGreatDoor
namespace Go.Proofs.YtjljohmflhmkmaaGreatDoor
open Go.ChangeShapes Go.WideShapes Go.ChangeAt Go.RowKit
set_option linter.unusedVariables false
set_option linter.unusedSimpArgs false
set_option maxRecDepth 100000
set_option maxHeartbeats 2000000

/-- ExprKids: a row of its own, of slices of what was handed in -/
theorem exprKids_any (n : EX.Nd) (k : EX.F) (v : Value) (w : World) (hg : (EX.F.nd n k .nil).good) (hl : (k.flat ++ [n]).length ≤ 60) (h : IsL cdN w v (k.flat ++ [n])) :
    Calls Tryz.prog 50 #[v] w fun r w' => (∃ u, r = .returned u ∧ IsLL w' u k.parts) ∧ Fr w w' := by
  obtain ⟨i0, hi0, hz0, hz1, hz2⟩ := info_parts Tryz.infoNs
  have HB := hideP (fun n' k' A R W (g : Fr w W) (he : k.flat ++ [n] = A ++ (k'.flat ++ [n']) ++ R) (hg' : (EX.F.nd n' k' .nil).good) => bgTo ((k'.flat ++ [n']).length + 1) n' k' A R v W (by omega) hg' (by rw [← he]; omega) (by rw [← he]; exact h.fr g))
  have hkk := hg.2.1
  have hl0 : (k.flat ++ [n]).length = k.flat.length + 1 := by simp
  obtain ⟨a, cap, rfl, hcap, hcs⟩ := h
  obtain ⟨b, o, rfl, hb, hat⟩ : ∃ b o, a = some ⟨b, o, none⟩ ∧ b < w.heap.size ∧ At cdN w b o (k.flat ++ [n]) := by
    rcases hcs with h | h
    · simp at h
    · exact h
  -- what one step finds
  have HSt : Hid (∀ m, m < k.len → ∃ l, k.parts[m]? = some l ∧ (EX.F.take (m + 1) k).flat.length = (EX.F.take m k).flat.length + l.length ∧ IsL cdN w (.slice (some ⟨b, o + (EX.F.take m k).flat.length * 6, none⟩) l.length (cap - (EX.F.take m k).flat.length)) l ∧
      ∀ W, Fr w W → Calls Tryz.prog 68 #[.slice (some ⟨b, o, none⟩) (k.flat.length + 1) cap, .int .i64 (((EX.F.take (m + 1) k).flat.length : Nat) : Int)] W fun r w' => r = .returned (.int .i64 (((EX.F.take m k).flat.length : Nat) : Int)) ∧ Fr W w') := by
    intro m hm
    obtain ⟨n', k', h1, h2, h3⟩ := EX.take_succ m k hm hg.2.2.1
    have hf : (EX.F.take (m + 1) k).flat = (EX.F.take m k).flat ++ (k'.flat ++ [n']) := by rw [h1, EX.F.flat_app]; rfl
    have hk : k.flat = (EX.F.take m k).flat ++ (k'.flat ++ [n']) ++ (EX.F.drop (m + 1) k).flat := by
      rw [← hf, ← EX.F.flat_app, EX.F.take_drop]
    have he : k.flat ++ [n] = (EX.F.take m k).flat ++ (k'.flat ++ [n']) ++ ((EX.F.drop (m + 1) k).flat ++ [n]) := by
      conv => lhs; rw [hk]
      simp only [List.append_assoc]
    have hlen := congrArg List.length he
    simp only [List.length_append, List.length_cons, List.length_nil] at hlen hl0
    refine ⟨k'.flat ++ [n'], h3, by rw [hf, List.length_append], ?_, ?_⟩
    · have hc := isL_cut (E := cdN) (c := cap) rfl hb hat (EX.F.take m k).flat.length (k'.flat ++ [n']).length (by
        simp only [List.length_append, List.length_cons, List.length_nil]
        omega) hcap (some ⟨b, o + (EX.F.take m k).flat.length * 6, none⟩) (.inr rfl)
      have ed : ((k.flat ++ [n]).drop (EX.F.take m k).flat.length).take (k'.flat ++ [n']).length = k'.flat ++ [n'] := by
        rw [he, List.append_assoc, List.drop_left, List.take_left]
      rw [ed] at hc
      exact hc
    · intro W g
      have hc := HB.out n' k' (EX.F.take m k).flat ((EX.F.drop (m + 1) k).flat ++ [n]) W g he h2
      rw [← List.length_append, ← hf] at hc
      rw [show (k.flat ++ [n]).length = k.flat.length + 1 by simp] at hc
      exact hc
  have HC := hideP (fun W (g : Fr w W) => ((hat.fr hb g).nd k.flat.length (by simp)).2.1)
  simp only [List.getElem_concat_length, hkk] at HC
  have HTs := hideP (fun m hm => EX.take_succ m k hm hg.2.2.1)
  have HXb := hideP (fun m => show (EX.F.take m k).flat.length ≤ k.flat.length from by
    have := congrArg List.length (show (EX.F.take m k).flat ++ (EX.F.drop m k).flat = k.flat by rw [← EX.F.flat_app, EX.F.take_drop])
    rw [List.length_append] at this
    omega)
  have hfull := EX.take_full k
  have hpl := EX.F.parts_len k
  have hlk : k.len ≤ 7 := by
    have h4 : n.kids ≤ 7 := by
      have h := hg.1
      unfold EX.nchk at h
      split at h
      · cases h
      split at h
      · cases h
      have : EX.km n.op ≤ 7 := by unfold EX.km; (repeat' split) <;> decide
      omega
    omega
  rw [hl0] at hl hcap ⊢
  have HFu : Hid ((EX.F.take (k.len - 0) k).flat.length = k.flat.length) := by unfold Hid; rw [Nat.sub_zero, hfull]
  have HPl := hideP hpl
  generalize k.flat.length = kf at *
  generalize k.parts = ls at *
  generalize hK : k.len = K at *
  clear hcs hat hg hkk hl0 hfull hpl HB hK
  have hx1 : (1 : Int) ≤ (kf : Int) + 1 := by omega
  go_enter Tryz.func50, Tryz.ntmps50
  go_wp2_with fail
  go_loopw [3, 4, 5, 6] (fun uv ev jv _ wr => ∃ (j : Nat) (qs : List Sl), jv = .int .i64 j ∧ j ≤ K ∧ ev = .int .i64 (((EX.F.take (K - j) k).flat.length : Nat) : Int) ∧ IsL cdQ wr uv qs ∧ qs.length = j ∧ (∀ t (h1 : t < qs.length) (h2 : K - j + t < ls.length), IsL cdN w qs[t].v ls[K - j + t]) ∧ Fr w wr) (fun _ _ jv _ _ => K - (intOf jv).toNat)
  case atStart => exact ⟨0, [], rfl, Nat.zero_le _, by rw [HFu.out], isL_nil _ _, rfl, fun t h => by simp at h, Fr.refl _⟩
  case round =>
    obtain ⟨j, qs, rfl, hj, rfl, hisl, hqn, hqs, hfr⟩ := hrel
    have HF := hideP hfr
    have HI := hideP hisl
    have HQn := hideP hqn
    have HQ := hideP hqs
    obtain ⟨ua, uc, rfl, huc, _⟩ := hisl
    rw [hqn] at huc HI ⊢
    clear hfr hqs hqn
    have c1 := HC.out wr HF.out
    by_cases hlt : j < K
    · have hlt' : (j : Int) < (K : Int) := by omega
      obtain ⟨l, hl1, hl2, hl3, hl4⟩ := HSt.out (K - (j + 1)) (by omega)
      rw [show K - (j + 1) + 1 = K - j by omega] at hl2 hl4
      have HCa := hideP (hl4 wr HF.out)
      have HL1 := hideP hl1
      have hlp : 1 ≤ l.length := by
        obtain ⟨n', k', _, _, h3⟩ := HTs.out (K - (j + 1)) (by omega)
        rw [hl1] at h3
        cases h3
        simp
      have hxb := HXb.out (K - j)
      generalize (EX.F.take (K - j) k).flat.length = x at *
      generalize hy : (EX.F.take (K - (j + 1)) k).flat.length = y at *
      have HY := hideP hy
      have HQ0 := hideP (show IsL cdN w (.slice (some ⟨b, o + y * 6, none⟩) (x - y) (cap - y)) l from by
        have h := hl3
        rw [show l.length = x - y by omega] at h
        exact h)
      have z1 : (y : Int) ≤ (x : Int) := by omega
      have z2 : (x : Int) ≤ (cap : Int) := by omega
      have z3 : (y : Int) < (cap : Int) := by omega
      have z4 : ¬ cap = y := by omega
      clear hl1 hl3 hl4 hl2 hlp hy
      go_wp2_with fail
      refine HCa.out.mono ?_
      rintro _ w2 ⟨rfl, f2⟩
      have F2 := hideP (HF.out.trans f2)
      have HOl := hideP (show (w2.alloc (.cells #[.slice (some ⟨b, o + y * 6, none⟩) (x - y) (cap - y)] 22)).ownsRow w2.heap.size 22 1 (.slice (some ⟨w2.heap.size, 0, none⟩) 1 1) 1 (flat cdQ [⟨some ⟨b, o + y * 6, none⟩, x - y, cap - y⟩]) from World.ownsRow_lit (base := w2.heap.size) (e := 22) (size := 1) w2 #[.slice (some ⟨b, o + y * 6, none⟩) (x - y) (cap - y)] 1 (Nat.le_refl _) (by decide) (by simp))
      have g2 := f2.alloc (.cells #[.slice (some ⟨b, o + y * 6, none⟩) (x - y) (cap - y)] 22)
      have HI2 := hideP (HI.out.fr g2)
      have F3 := hideP (HF.out.trans g2)
      clear f2 g2 c1
      go_wp2_with (at_builtin; refine wpList_append_L cdQ rfl _ _ 42 22 i0 _ 24 rfl Tryz.underlying42 hi0 hz0 hz1 hz2 rfl w2.heap.size _ 1 _ rfl HOl.out (.slice ua j uc) qs rfl HI2.out ?c3 ?c4 ?c5 ?_)
      case c3 => rw [HQn.out]; unfold maxLen; omega
      case c4 => rw [HQn.out]; omega
      case c5 => simp
      intro v4 w4 own4 gr4
      have F4 := hideP (show Fr w w4 from (show Fr w2 w4 from Below.grown ((Fr.refl w2).alloc _) gr4 (by simp) (own_base HOl.out)) |> F2.out.trans)
      have HI4 := hideP (show IsL cdQ w4 v4 ((⟨some ⟨b, o + y * 6, none⟩, x - y, cap - y⟩ : Sl) :: qs) from isL_own (E := cdQ) (by
        have e9 : ((⟨some ⟨b, o + y * 6, none⟩, x - y, cap - y⟩ : Sl) :: qs).length = 1 + qs.length := by simp; omega
        rw [e9]
        exact own4))
      have HQ4 : Hid (∀ t (h1 : t < ((⟨some ⟨b, o + y * 6, none⟩, x - y, cap - y⟩ : Sl) :: qs).length) (h2 : K - (j + 1) + t < ls.length), IsL cdN w ((⟨some ⟨b, o + y * 6, none⟩, x - y, cap - y⟩ : Sl) :: qs)[t].v ls[K - (j + 1) + t]) := by
        intro t h1 h2
        cases t with
        | zero =>
          have hl9 := HL1.out
          rw [List.getElem?_eq_some_iff] at hl9
          obtain ⟨h8, h9⟩ := hl9
          simp only [List.getElem_cons_zero, Nat.add_zero, h9]
          exact HQ0.out
        | succ t =>
          have h3 : t < qs.length := by simpa using h1
          have h4 : K - j + t < ls.length := by rw [HPl.out]; rw [HQn.out] at h3; omega
          have h5 := HQ.out t h3 h4
          simp only [List.getElem_cons_succ]
          have e9 : K - (j + 1) + (t + 1) = K - j + t := by omega
          simp only [e9]
          exact h5
      clear own4 gr4
      go_wp2_with fail
      go_roundw
      case rel => exact ⟨j + 1, _, by go_num, by omega, by rw [HY.out], HI4.out, by simp [HQn.out], HQ4.out, F4.out⟩
      case measure => simp [intOf]; omega
    · obtain rfl : j = K := by omega
      have hlt' : ((j : Int) < (j : Int)) = False := by simp
      go_wp2_with fail
      go_ret
      refine ⟨⟨_, rfl, qs, HI.out, by rw [HQn.out, HPl.out], fun t h1 h2 => ?_⟩, HF.out⟩
      have h5 := HQ.out t h1 (by omega)
      simp only [Nat.sub_self, Nat.zero_add] at h5
      exact h5.fr HF.out
end Go.Proofs.YtjljohmflhmkmaaGreatDoor
