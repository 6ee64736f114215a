/-
  Proved: for all patterns and all texts, two patterns of bytes below 128, one behind the other, stand for a text just if it can be cut between two pieces so that each stands for its part. (LikeSplits; the two tables of Go's decoder are as its text lays them.)
-/
import Derived.Test.YtgjgmaadogkjfaaDoorTabs
import Derived.Test.YtgjgmaadogkjfaaDoorRefPcs
import Derived.Test.YtgjgmaadogkjfaaDoorLkSpl
namespace Go.Proofs.YtgjgmaadogkjfaaDoor
namespace likeSplitsProof
open Go.ChangeShapes Go.WideShapes Go.ChangeAt Go.RowKit
open Go.ChangeMaps (open_string shut_string)
set_option linter.unusedVariables false

theorem ascii2 (S : ByteArray) (r : Bool) (w : World) (hb : S.size ≤ 140737488351232) (h : asc S = r) : Calls Tryd.prog 21 #[.string S] w fun e w' => e = .returned (.bool r) ∧ w = w' := by
  rw [← h]
  exact (ascii_any S w (by omega)).mono fun e w' h => ⟨h.1, h.2.symm⟩
theorem ext_pre (s : ByteArray) (n : Nat) : (s.extract 0 n).data.toList = s.data.toList.take n := by simp

set_option maxRecDepth 100000 in
set_option maxHeartbeats 4000000 in
theorem main (p q s pq : ByteArray) (P Q : List LK.Part) (W : World) (hT : Tb W) (hp : p.size ≤ 16) (hq : q.size ≤ 16) (hs : s.size ≤ 16) (hap : asc p = true) (haq : asc q = true) (hpe : perr p = 0) (hqe : perr q = 0) (e1 : pq = p ++ q)
    (m1 : ∀ (t : ByteArray) W1, t.size ≤ 16 → Tb W1 → Calls Tryd.prog 10 #[.string p, .string t] W1 fun r W' => r = .returned (.tuple #[.bool (LK.mt P (LK.pc t.data.toList)), .int .i64 0]) ∧ Fr W1 W')
    (m2 : ∀ (t : ByteArray) W1, t.size ≤ 16 → Tb W1 → Calls Tryd.prog 10 #[.string q, .string t] W1 fun r W' => r = .returned (.tuple #[.bool (LK.mt Q (LK.pc t.data.toList)), .int .i64 0]) ∧ Fr W1 W')
    (m3 : ∀ W1, Tb W1 → Calls Tryd.prog 10 #[.string pq, .string s] W1 fun r W' => r = .returned (.tuple #[.bool (LK.mt (P ++ Q) (LK.pc s.data.toList)), .int .i64 0]) ∧ Fr W1 W') :
    Calls Tryd.prog 7 #[.string p, .string q, .string s] W fun r W' => r = .returned (.bool true) ∧ Fr W W' := by
  have c1 := begun_any W hT
  have z1 : ¬ (16 : Int) < (p.size : Int) := by omega
  have z2 : ¬ (16 : Int) < (q.size : Int) := by omega
  have A1 : ∀ w, Calls Tryd.prog 21 #[.string p] w fun e w' => e = .returned (.bool true) ∧ w = w' := fun w => ascii2 p true w (by omega) hap
  have A2 : ∀ w, Calls Tryd.prog 21 #[.string q] w fun e w' => e = .returned (.bool true) ∧ w = w' := fun w => ascii2 q true w (by omega) haq
  have P1 : ∀ w, Calls Tryd.prog 11 #[.string p] w fun e w' => e = .returned (.int .i64 0) ∧ Fr w w' := fun w => by
    have h := patternCheck_any p w (by omega); rw [hpe] at h; exact h
  have P2 : ∀ w, Calls Tryd.prog 11 #[.string q] w fun e w' => e = .returned (.int .i64 0) ∧ Fr w w' := fun w => by
    have h := patternCheck_any q w (by omega); rw [hqe] at h; exact h
  have PC : ∀ w, Tb w → Calls Tryd.prog 14 #[.string s] w fun e W' => ∃ v l, e = .returned (.tuple #[v, .int .i64 0]) ∧ l = LK.pc s.data.toList ∧ IsTx W' v l ∧ Fr w W' := fun w ht => by
    have h := likePieces_any s w (by omega) ht
    rw [if_neg (by omega), if_neg (by omega)] at h
    exact h
  have cl : ∀ i, LK.cut (LK.pc s.data.toList) i ≤ s.size := fun i => LK.cut_le s.data.toList i
  have ct : ∀ i, LK.pc ((s.extract 0 (LK.cut (LK.pc s.data.toList) i)).data.toList) = (LK.pc s.data.toList).take i := fun i => by
    rw [ext_pre, (LK.cut_take s.data.toList i).1, LK.pc_take]
  have cd : ∀ i, LK.pc ((s.extract (LK.cut (LK.pc s.data.toList) i) s.size).data.toList) = (LK.pc s.data.toList).drop i := fun i => by
    rw [rest_list s _ (cl i), (LK.cut_take s.data.toList i).2, LK.pc_drop]
  have hlen : (LK.pc s.data.toList).length ≤ 16 := by
    have h1 := LK.pc_len s.data.toList
    have h2 : s.data.toList.length = s.size := by rw [Array.length_toList]; rfl
    omega
  have fa := LK.fnd_all P Q (LK.pc s.data.toList)
  have h4 : ∀ x ∈ LK.pc s.data.toList, x.length ≤ 4 := LK.pc_four _
  obtain ⟨T, hTT⟩ : ∃ T, LK.pc s.data.toList = T := ⟨_, rfl⟩
  rw [hTT] at PC cl ct cd hlen fa m3 h4
  have HA1 : Hid _ := A1
  have HA2 : Hid _ := A2
  have HP1 : Hid _ := P1
  have HP2 : Hid _ := P2
  have HPC : Hid _ := PC
  have M1 : Hid _ := m1
  have M2 : Hid _ := m2
  have M3 : Hid _ := m3
  have E1 : Hid _ := e1
  have CL : Hid _ := cl
  have CT : Hid _ := ct
  have CD : Hid _ := cd
  have FA : Hid _ := fa
  have H4 : Hid _ := h4
  have y1 : p.size + q.size ≤ 9223372036854775807 := by omega
  clear A1 A2 P1 P2 PC m1 m2 m3 e1 cl ct cd fa hTT hap haq hpe hqe h4
  go_enter Tryd.func7, Tryd.ntmps7
  go_wp2_with fail
  refine c1.mono ?_
  rintro _ w1 ⟨rfl, f1⟩
  clear c1
  have t1 := hT.fr f1
  have c2 := HPC.out w1 t1
  go_wp2_with fail
  refine c2.mono ?_
  rintro _ w2 ⟨v, l, rfl, rfl, ⟨ad, cap, rfl, hcap, hcs⟩, f2⟩
  have HC : Hid _ := hcs
  clear c2 hcs
  go_wp2_with fail
  refine (HA1.out w2).mono ?_
  rintro _ _ ⟨rfl, rfl⟩
  go_wp2_with fail
  refine (HA2.out w2).mono ?_
  rintro _ _ ⟨rfl, rfl⟩
  go_wp2_with fail
  refine (HP1.out w2).mono ?_
  rintro _ w3 ⟨rfl, f3⟩
  go_wp2_with fail
  refine (HP2.out w3).mono ?_
  rintro _ w4 ⟨rfl, f4⟩
  have ff : Fr W w4 := ((f1.trans f2).trans f3).trans f4
  have f24 : Fr w2 w4 := f3.trans f4
  clear HA1 HA2 HP1 HP2 HPC
  go_wp2
  go_loopw [9, 10, 11] (fun fv av iv wr => ∃ i : Nat, iv = .int .i64 i ∧ i ≤ l.length + 1 ∧ av = .int .i64 (LK.cut l i) ∧ fv = .bool (LK.fnd P Q l i) ∧ Fr w4 wr) (fun _ _ iv _ => l.length + 1 - (intOf iv).toNat)
  case atStart => exact ⟨0, rfl, Nat.zero_le _, rfl, rfl, Fr.refl _⟩
  case round =>
    obtain ⟨i, rfl, hi, rfl, rfl, hfr⟩ := hrel
    have hm1 : i ≤ l.length → l.length + 1 - (i + 1) < l.length + 1 - i := fun h => by omega
    have hcl := CL.out i
    by_cases hlt : i ≤ l.length
    · have hltZ : (i : Int) ≤ (l.length : Int) := by omega
      have hclZ : (LK.cut l i : Int) ≤ (s.size : Int) := by omega
      have tr : Tb wr := (hT.fr ff).fr hfr
      have hsz1 : (s.extract 0 (LK.cut l i)).size ≤ 16 := by rw [ByteArray.size_extract]; omega
      have hsz2 : (s.extract (LK.cut l i) s.size).size ≤ 16 := by rw [ByteArray.size_extract]; omega
      have c3 := M1.out _ wr hsz1 tr
      rw [CT.out i] at c3
      have c4 := fun W1 (h : Tb W1) => M2.out _ W1 hsz2 h
      rw [CD.out i] at c4
      have hfs := LK.fnd_succ P Q l i
      have hce := LK.cut_end l i
      have hcs := fun x => @LK.cut_step l i x
      obtain ⟨A, hA⟩ : ∃ A, LK.mt P (l.take i) = A := ⟨_, rfl⟩
      obtain ⟨B, hB⟩ : ∃ B, LK.mt Q (l.drop i) = B := ⟨_, rfl⟩
      obtain ⟨F, hF⟩ : ∃ F, LK.fnd P Q l i = F := ⟨_, rfl⟩
      obtain ⟨C, hC⟩ : ∃ C, LK.cut l i = C := ⟨_, rfl⟩
      rw [hA] at c3
      rw [hB] at c4
      rw [hA, hB, hF] at hfs
      rw [hC] at c3 c4 hcl hclZ hce hcs
      rw [hF, hC]
      have HFS : Hid _ := hfs
      have HCE : Hid _ := hce
      have HCS : Hid _ := hcs
      have C4 : Hid _ := c4
      have Hm1 : Hid _ := hm1
      clear hfs hce hcs c4 hA hB hF hC hsz1 hsz2 hm1
      by_cases hl2 : i < l.length
      · have hl2Z : (i : Int) < (l.length : Int) := by omega
        obtain ⟨x, hx⟩ : ∃ x, l[i]? = some x := ⟨l[i], List.getElem?_eq_getElem hl2⟩
        obtain ⟨b, rfl, hb, hc⟩ : ∃ b, ad = some ⟨b, 0, none⟩ ∧ b < w2.heap.size ∧ ∀ i x, l[i]? = some x → w2.cell? ⟨b, i, none⟩ = some (sv x) := by
          rcases HC.out with h | h
          · rw [h] at hl2; simp at hl2
          · exact h
        have fr2 := f24.trans hfr
        have c0 := (Below.cell fr2 (p := ⟨b, i, none⟩) hb).trans (hc i x hx)
        have hx4 := H4.out x (List.mem_of_getElem? hx)
        have hcx := HCS.out x hx
        have hsx : (⟨x.toArray⟩ : ByteArray).size = x.length := rfl
        rw [← hsx] at hcx hx4
        unfold sv at c0
        have HCX : Hid _ := hcx
        clear hc hx hsx hcx
        generalize (⟨x.toArray⟩ : ByteArray) = sx at c0 HCX hx4
        have hbr : b < wr.heap.size := Nat.lt_of_lt_of_le hb fr2.size
        go_wp2_with fail
        refine c3.mono ?_
        rintro _ w5 ⟨rfl, f5⟩
        have c6 := C4.out w5 (tr.fr f5)
        have d0 := (Below.cell f5 (p := ⟨b, i, none⟩) hbr).trans c0
        clear c3 c0
        go_wp2_with fail
        refine c6.mono ?_
        rintro _ w6 ⟨rfl, f6⟩
        have d1 := (Below.cell f6 (p := ⟨b, i, none⟩) (Nat.lt_of_lt_of_le hbr f5.size)).trans d0
        clear c6 d0
        have frr : Fr w4 w6 := (hfr.trans f5).trans f6
        cases F <;> cases A <;> cases B <;>
          (go_wp2
           go_roundw
           case rel => exact ⟨i + 1, by simp, by omega, by rw [HCX.out]; simp, by rw [HFS.out]; rfl, frr⟩
           case measure => simp [intOf]; omega)
      · have hl2Z : ¬ (i : Int) < (l.length : Int) := by omega
        have hcx := HCE.out (by omega)
        have HCX : Hid _ := hcx
        clear hcx
        go_wp2_with fail
        refine c3.mono ?_
        rintro _ w5 ⟨rfl, f5⟩
        have c6 := C4.out w5 (tr.fr f5)
        clear c3
        go_wp2_with fail
        refine c6.mono ?_
        rintro _ w6 ⟨rfl, f6⟩
        clear c6
        have frr : Fr w4 w6 := (hfr.trans f5).trans f6
        cases F <;> cases A <;> cases B <;>
          (go_wp2
           go_roundw
           case rel => exact ⟨i + 1, by simp, by omega, by rw [HCX.out], by rw [HFS.out]; rfl, frr⟩
           case measure => simp [intOf]; omega)
    · have hltZ : ¬ (i : Int) ≤ (l.length : Int) := by omega
      obtain rfl : i = l.length + 1 := by omega
      have c5 := M3.out wr ((hT.fr ff).fr hfr)
      rw [E1.out] at c5
      rw [FA.out]
      generalize LK.mt (P ++ Q) l = R at c5 ⊢
      clear hm1
      go_wp2_with fail
      refine c5.mono ?_
      rintro _ w5 ⟨rfl, f5⟩
      clear c5
      cases R with
      | true => go_wp2; go_ret; exact ⟨rfl, ff.trans (hfr.trans f5)⟩
      | false => go_wp2; go_ret; exact ⟨rfl, ff.trans (hfr.trans f5)⟩

set_option maxRecDepth 100000 in
set_option maxHeartbeats 2000000 in
theorem outs (p q s : ByteArray) (W : World) (hT : Tb W) (b0 : p.size ≤ 140737488351232) (b1 : q.size ≤ 140737488351232) (b2 : s.size ≤ 140737488351232)
    (h : ¬ (s.size ≤ 16 ∧ asc p = true ∧ asc q = true ∧ p.size ≤ 16 ∧ q.size ≤ 16 ∧ perr p = 0 ∧ perr q = 0)) :
    Calls Tryd.prog 7 #[.string p, .string q, .string s] W fun r W' => r = .returned (.bool true) ∧ Fr W W' := by
  have c1 := begun_any W hT
  by_cases h3 : s.size ≤ 16
  · have HPC : Hid (∀ w, Tb w → Calls Tryd.prog 14 #[.string s] w fun e W' => ∃ v l, e = .returned (.tuple #[v, .int .i64 0]) ∧ l = LK.pc s.data.toList ∧ IsTx W' v l ∧ Fr w W') := fun w ht => by
      have h := likePieces_any s w (by omega) ht
      rw [if_neg (by omega), if_neg (by omega)] at h
      exact h
    cases hap : asc p with
    | false =>
      clear h
      go_enter Tryd.func7, Tryd.ntmps7
      go_wp2_with fail
      refine c1.mono ?_
      rintro _ w1 ⟨rfl, f1⟩
      clear c1
      have c2 := HPC.out w1 (hT.fr f1)
      go_wp2_with fail
      refine c2.mono ?_
      rintro _ w2 ⟨v, l, rfl, _, ⟨ad, cap, rfl, _, _⟩, f2⟩
      clear c2
      go_wp2_with fail
      refine (ascii2 p false w2 b0 hap).mono ?_
      rintro _ _ ⟨rfl, rfl⟩
      go_wp2
      go_ret
      exact ⟨rfl, f1.trans f2⟩
    | true =>
      cases haq : asc q with
      | false =>
        clear h
        go_enter Tryd.func7, Tryd.ntmps7
        go_wp2_with fail
        refine c1.mono ?_
        rintro _ w1 ⟨rfl, f1⟩
        clear c1
        have c2 := HPC.out w1 (hT.fr f1)
        go_wp2_with fail
        refine c2.mono ?_
        rintro _ w2 ⟨v, l, rfl, _, ⟨ad, cap, rfl, _, _⟩, f2⟩
        clear c2
        go_wp2_with fail
        refine (ascii2 p true w2 b0 hap).mono ?_
        rintro _ _ ⟨rfl, rfl⟩
        go_wp2_with fail
        refine (ascii2 q false w2 b1 haq).mono ?_
        rintro _ _ ⟨rfl, rfl⟩
        go_wp2
        go_ret
        exact ⟨rfl, f1.trans f2⟩
      | true =>
        by_cases h1 : p.size ≤ 16
        · have z1 : ¬ (16 : Int) < (p.size : Int) := by omega
          by_cases h2 : q.size ≤ 16
          · have z2 : ¬ (16 : Int) < (q.size : Int) := by omega
            by_cases hp : perr p = 0
            · by_cases hq : perr q = 0
              · exact absurd ⟨h3, hap, haq, h1, h2, hp, hq⟩ h
              · clear h
                obtain ⟨pp, hpp⟩ : ∃ pp, perr q = pp := ⟨_, rfl⟩
                rw [hpp] at hq
                have hz : ((pp : Int) != 0) = true := by simp [hq]
                have hz2 : ¬ ((pp : Int) = 0) := by omega
                have HPP : Hid _ := hpp
                have HP0 : Hid _ := hp
                clear hpp hp
                go_enter Tryd.func7, Tryd.ntmps7
                go_wp2_with fail
                refine c1.mono ?_
                rintro _ w1 ⟨rfl, f1⟩
                clear c1
                have c2 := HPC.out w1 (hT.fr f1)
                go_wp2_with fail
                refine c2.mono ?_
                rintro _ w2 ⟨v, l, rfl, _, ⟨ad, cap, rfl, _, _⟩, f2⟩
                clear c2
                go_wp2_with fail
                refine (ascii2 p true w2 b0 hap).mono ?_
                rintro _ _ ⟨rfl, rfl⟩
                go_wp2_with fail
                refine (ascii2 q true w2 b1 haq).mono ?_
                rintro _ _ ⟨rfl, rfl⟩
                have cp := patternCheck_any p w2 (by omega)
                rw [HP0.out] at cp
                go_wp2_with fail
                refine cp.mono ?_
                rintro _ w3 ⟨rfl, f3⟩
                clear cp
                have cq := patternCheck_any q w3 (by omega)
                rw [HPP.out] at cq
                go_wp2_with fail
                refine cq.mono ?_
                rintro _ w4 ⟨rfl, f4⟩
                clear cq
                go_wp2
                go_ret
                exact ⟨rfl, ((f1.trans f2).trans f3).trans f4⟩
            · clear h
              obtain ⟨pp, hpp⟩ : ∃ pp, perr p = pp := ⟨_, rfl⟩
              rw [hpp] at hp
              have hz : ((pp : Int) != 0) = true := by simp [hp]
              have hz2 : ¬ ((pp : Int) = 0) := by omega
              have HPP : Hid _ := hpp
              clear hpp
              go_enter Tryd.func7, Tryd.ntmps7
              go_wp2_with fail
              refine c1.mono ?_
              rintro _ w1 ⟨rfl, f1⟩
              clear c1
              have c2 := HPC.out w1 (hT.fr f1)
              go_wp2_with fail
              refine c2.mono ?_
              rintro _ w2 ⟨v, l, rfl, _, ⟨ad, cap, rfl, _, _⟩, f2⟩
              clear c2
              go_wp2_with fail
              refine (ascii2 p true w2 b0 hap).mono ?_
              rintro _ _ ⟨rfl, rfl⟩
              go_wp2_with fail
              refine (ascii2 q true w2 b1 haq).mono ?_
              rintro _ _ ⟨rfl, rfl⟩
              have cp := patternCheck_any p w2 (by omega)
              rw [HPP.out] at cp
              go_wp2_with fail
              refine cp.mono ?_
              rintro _ w3 ⟨rfl, f3⟩
              clear cp
              go_wp2
              go_ret
              exact ⟨rfl, (f1.trans f2).trans f3⟩
          · have z2 : (16 : Int) < (q.size : Int) := by omega
            clear h
            go_enter Tryd.func7, Tryd.ntmps7
            go_wp2_with fail
            refine c1.mono ?_
            rintro _ w1 ⟨rfl, f1⟩
            clear c1
            have c2 := HPC.out w1 (hT.fr f1)
            go_wp2_with fail
            refine c2.mono ?_
            rintro _ w2 ⟨v, l, rfl, _, ⟨ad, cap, rfl, _, _⟩, f2⟩
            clear c2
            go_wp2_with fail
            refine (ascii2 p true w2 b0 hap).mono ?_
            rintro _ _ ⟨rfl, rfl⟩
            go_wp2_with fail
            refine (ascii2 q true w2 b1 haq).mono ?_
            rintro _ _ ⟨rfl, rfl⟩
            go_wp2
            go_ret
            exact ⟨rfl, f1.trans f2⟩
        · have z1 : (16 : Int) < (p.size : Int) := by omega
          clear h
          go_enter Tryd.func7, Tryd.ntmps7
          go_wp2_with fail
          refine c1.mono ?_
          rintro _ w1 ⟨rfl, f1⟩
          clear c1
          have c2 := HPC.out w1 (hT.fr f1)
          go_wp2_with fail
          refine c2.mono ?_
          rintro _ w2 ⟨v, l, rfl, _, ⟨ad, cap, rfl, _, _⟩, f2⟩
          clear c2
          go_wp2_with fail
          refine (ascii2 p true w2 b0 hap).mono ?_
          rintro _ _ ⟨rfl, rfl⟩
          go_wp2_with fail
          refine (ascii2 q true w2 b1 haq).mono ?_
          rintro _ _ ⟨rfl, rfl⟩
          go_wp2
          go_ret
          exact ⟨rfl, f1.trans f2⟩
  · have HPC : Hid (∀ w, Tb w → Calls Tryd.prog 14 #[.string s] w fun e W' => ∃ v l, e = .returned (.tuple #[v, .int .i64 2]) ∧ l = [] ∧ IsTx W' v l ∧ Fr w W') := fun w ht => by
      have h := likePieces_any s w (by omega) ht
      rw [if_pos (by omega), if_pos (by omega)] at h
      exact h
    clear h
    go_enter Tryd.func7, Tryd.ntmps7
    go_wp2_with fail
    refine c1.mono ?_
    rintro _ w1 ⟨rfl, f1⟩
    clear c1
    have c2 := HPC.out w1 (hT.fr f1)
    go_wp2_with fail
    refine c2.mono ?_
    rintro _ w2 ⟨v, l, rfl, _, ⟨ad, cap, rfl, _, _⟩, f2⟩
    clear c2
    go_wp2
    go_ret
    exact ⟨rfl, f1.trans f2⟩

theorem asc_mem {S : ByteArray} (h : asc S = true) : ∀ b ∈ S.data.toList, b.toNat < 128 := fun b hb => of_decide_eq_true (List.all_eq_true.1 h b hb)
theorem app_list (a b : ByteArray) : (a ++ b).data.toList = a.data.toList ++ b.data.toList := by rw [ByteArray.data_append]; simp
theorem run_of {S : ByteArray} (h : perr S = 0) : (LK.run (LK.pc S.data.toList)).1 = false := by
  unfold perr at h
  split at h
  · cases h
  · cases hr : (LK.run (LK.pc S.data.toList)).1 with
    | false => rfl
    | true => rw [if_pos hr] at h; cases h
theorem perr_of {S : ByteArray} (h1 : S.size ≤ 32) (h2 : (LK.run (LK.pc S.data.toList)).1 = false) : perr S = 0 := by
  unfold perr; rw [if_neg (by omega), if_neg (by rw [h2]; exact Bool.false_ne_true)]

theorem walk (a0 a1 a2 : ByteArray) (W : World) (hT : Tb W) (b0 : a0.size ≤ 140737488351232) (b1 : a1.size ≤ 140737488351232) (b2 : a2.size ≤ 140737488351232) :
    Calls Tryd.prog 7 #[.string a0, .string a1, .string a2] W fun r W' => r = .returned (.bool true) ∧ Fr W W' := by
  by_cases h : a2.size ≤ 16 ∧ asc a0 = true ∧ asc a1 = true ∧ a0.size ≤ 16 ∧ a1.size ≤ 16 ∧ perr a0 = 0 ∧ perr a1 = 0
  · obtain ⟨h3, h4, h5, h1, h2, h6, h7⟩ := h
    have r0 := run_of h6
    have r1 := run_of h7
    have k1 : LK.run (LK.pc (a0 ++ a1).data.toList) = (false, prts a0 ++ prts a1) := by
      rw [app_list, LK.run_cat _ _ (asc_mem h4) r0, r1]; rfl
    have s1 : (a0 ++ a1).size ≤ 32 := by rw [ByteArray.size_append]; omega
    have m : ∀ (S : ByteArray) (P : List LK.Part), S.size ≤ 32 → (LK.run (LK.pc S.data.toList)).1 = false → prts S = P → ∀ (t : ByteArray) W1, t.size ≤ 16 → Tb W1 → Calls Tryd.prog 10 #[.string S, .string t] W1 fun r W' => r = .returned (.tuple #[.bool (LK.mt P (LK.pc t.data.toList)), .int .i64 0]) ∧ Fr W1 W' := by
      intro S P hs hr hP t W1 htt ht
      have hpe := perr_of hs hr
      have hme : merr S t = 0 := by unfold merr; rw [if_neg (by rw [hpe]; decide), if_neg (by omega)]
      have hmt : mtc S t = LK.mt P (LK.pc t.data.toList) := by unfold mtc; rw [hP]
      have hc := match_any S t W1 (by omega) (by omega) ht
      rw [hme, hmt] at hc
      exact hc
    exact main a0 a1 a2 _ (prts a0) (prts a1) W hT h1 h2 h3 h4 h5 h6 h7 rfl (m a0 _ (by omega) r0 rfl) (m a1 _ (by omega) r1 rfl) (fun W1 => m (a0 ++ a1) _ s1 (by rw [k1]) (by unfold prts; rw [k1]; rfl) a2 W1 h3)
  · exact outs a0 a1 a2 W hT b0 b1 b2 h

set_option maxRecDepth 100000 in
theorem lifted (os : Os) (started : os.Started) (H : Type) (enc : TypeId × Value → H) :
    ReturnsInHanded {} Tryd.checked os 7 .any (fun w args => (Rows.likeSplitsSpec.pre enc Tryd.prog Tryd.f7 [] false w args ∧ laidMetH Tryd.prog Rows.likeSplitsRow.laid w) ∧ sizedMet enc Tryd.prog Tryd.f7 (OpenSpec.ofChange Rows.likeSplitsSpec) false w args)
      (Rows.likeSplitsSpec.post enc Tryd.prog Tryd.f7 false true false false) := by
  refine returnsInHanded_of_change_and (C := Tryd.checked) (X := fun w _ => laidMetH Tryd.prog Rows.likeSplitsRow.laid w) (fun _ _ _ hh h => h.of_heap hh) own started (by kernel_rfl) Tryd.func7
    (ChangeSpec.witness_shaped (enc := enc) (C := Tryd.checked) (os := os) (X := fun w _ => laidMetH Tryd.prog Rows.likeSplitsRow.laid w) false (World.laidAll Tryd.prog os Rows.likeSplitsRow.laid) #[.string ByteArray.empty, .string ByteArray.empty, .string ByteArray.empty] 8 (World.laidAll_os _ _ _)
      (World.shaped_of_ZipB (by kernel_rfl) (by kernel_rfl)) (by kernel_rfl) (by kernel_rfl) (by kernel_rfl)
      (by rw [MakeChecks.laidMetH_plain _ _ _ (by kernel_rfl)]; exact laidMet_laidAll _ (by kernel_rfl) (by kernel_rfl))) ?_
  intro W base args ds gs before hval0 hW hcnd hsz0 hL _
  have hT : Tb W := tabs_of_laid hL
  have hval : ∀ (j : Nat) t v, Tryd.f7.params[j]? = some t → args[j]? = some v → Value.okWide Tryd.prog W .any base t v := hval0
  have hsz : (DataW.weightsEach Tryd.prog (Tryd.f7.params.toList ++ Rows.likeSplitsSpec.plain.varTypes Tryd.prog) (ds ++ gs)).all (· ≤ reachBytes) = true := hsz0
  have hW' := hW
  obtain ⟨p, q, hA0, hV, rfl, hfz, hnd⟩ := hW
  have hA : DataW.TrodAll enc Tryd.prog W 0 (fun _ => true) true Tryd.f7.params.toList args.toList ds p := hA0
  rw [Tryd.params7] at hA hval hsz
  obtain ⟨v0, vs0, d0, ds0, p0, q0, hargs, rfl, rfl, h0, r0⟩ := trodAll_cons hA
  obtain ⟨v1, vs1, d1, ds1, p1, q1, rfl, rfl, rfl, h1, r1⟩ := trodAll_cons r0
  obtain ⟨v2, vs2, d2, ds2, p2, q2, rfl, rfl, rfl, h2, r2⟩ := trodAll_cons r1
  obtain ⟨rfl, rfl, rfl⟩ := trodAll_nil r2
  obtain rfl : args = #[v0, v1, v2] := by cases args; simp_all
  obtain ⟨rfl, rfl⟩ := trodVars_none hV
  obtain ⟨a0, rfl, rfl, rfl, w0⟩ := open_string Tryd.underlying9 (hval 0 9 v0 rfl rfl) h0
  obtain ⟨a1, rfl, rfl, rfl, w1⟩ := open_string Tryd.underlying9 (hval 1 9 v1 rfl rfl) h1
  obtain ⟨a2, rfl, rfl, rfl, w2⟩ := open_string Tryd.underlying9 (hval 2 9 v2 rfl rfl) h2
  have b0 : a0.size ≤ 140737488351232 := by
    have h := sized_string hsz (j := 0) (t := 9) rfl rfl
    simpa [reachBytes] using h
  have b1 : a1.size ≤ 140737488351232 := by
    have h := sized_string hsz (j := 1) (t := 9) rfl rfl
    simpa [reachBytes] using h
  have b2 : a2.size ≤ 140737488351232 := by
    have h := sized_string hsz (j := 2) (t := 9) rfl rfl
    simpa [reachBytes] using h
  clear hA0 hval0 hsz0
  refine (walk a0 a1 a2 W hT b0 b1 b2).mono fun e W' ⟨he, bel⟩ => ?_
  subst he
  exact ⟨_, rfl, _, _, _, [], _, [], hW', trodAll_mk1 (shut_bool Tryd.underlying4 _), (trodAll_cons_mk (shut_string Tryd.underlying9 w0) (trodAll_cons_mk (shut_string Tryd.underlying9 w1) (trodAll_cons_mk (shut_string Tryd.underlying9 w2) trodAll_mk0))), rfl, Below.frame bel _, fun h => by cases h⟩

theorem over : Rows.likeSplitsRow.holds Tryd.pinned (OpenSpec.ofChange Rows.likeSplitsSpec) :=
  OpenClaim.holds_of_wide 7 Tryd.f7 rfl rfl rfl rfl rfl rfl rfl ⟨rfl, rfl, rfl, rfl, rfl⟩ rfl rfl rfl rfl rfl (by kernel_rfl) Tryd.func7 (by kernel_rfl)
    (of_decide_eq_true (by kernel_rfl)) (by unfold Func.isWrapper; first | (rw [if_pos (by decide +kernel)]; kernel_rfl) | (rw [if_neg (by decide +kernel)]; exact ⟨rfl, rfl⟩))
    (fun os started H enc _ => lifted os started H enc)

theorem card : Rows.LikeSplitsCardSaid :=
  Claim7.holds_tied_plain_at .later [] [.data, .pinned] true (true, "16a35cc793bfe44f891744ca83cbcb2362c0f7c3e5d28fcb30ada395105c9e56") false
    over (fun _ h => by cases h) (by kernel_rfl) (fun _ h => by cases h) likeSplits_row_tie rfl ⟨rfl, rfl⟩ (by kernel_rfl) rfl
    (fun f fn hf hfn => by
      obtain rfl : f = 7 := Option.some.inj ((show Tryd.prog.funcNamed "starling/starlinglaw.LikeSplits" = some 7 by kernel_rfl).symm.trans hf) |>.symm
      obtain rfl : fn = Tryd.f7 := (Option.some.inj (Tryd.func7.symm.trans hfn)).symm
      exact ⟨by kernel_rfl, fun j t ht => by
        rw [Tryd.params7] at ht
        have hm : t ∈ [9, 9, 9] := by simpa using Array.mem_of_getElem? ht
        have hall : ([9, 9, 9].all fun u => !Tryd.prog.wantsStandIn u) = true := by kernel_rfl
        exact (show Tryd.prog.wantsStandIn t = false by simpa using List.all_eq_true.1 hall t hm)⟩)
    (by kernel_rfl)

end likeSplitsProof
theorem likeSplits_holds : Rows.LikeSplitsCardSaid := likeSplitsProof.card
#print axioms likeSplits_holds
end Go.Proofs.YtgjgmaadogkjfaaDoor
