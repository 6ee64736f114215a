/-
  The document's DiskCheck, StoreCheck, IsHot, StepsCheck.
-/
import Derived.Test.YtklldfkaihpkiaaJdJ
namespace Go.Proofs.Ytklldfkaihpkiaa
open Go.ChangeShapes Go.WideShapes Go.ChangeAt Go.RowKit
set_option linter.unusedVariables false
set_option linter.unusedSimpArgs false
set_option maxRecDepth 100000
set_option maxHeartbeats 2000000

namespace JN
theorem any_dropD {l : List B} {i : Nat} (h : i < l.length) : (l.drop i).any (fun p => decide (260 < p.size)) = (decide (260 < l[i].size) || (l.drop (i + 1)).any (fun p => decide (260 < p.size))) := by
  rw [List.drop_eq_getElem_cons h, List.any_cons]
theorem blank_lastD {l : List B} (h : 0 < l.length) : blankEnd l = decide (l[l.length - 1].size = 0) := by
  unfold blankEnd
  rw [List.getLast?_eq_getElem?, List.getElem?_eq_getElem (by omega)]
  simp only
  by_cases e : l[l.length - 1].size = 0
  · simp [e]
  · simp [e]
end JN
theorem diskCheck_any (p q : Value) (d : JN.D) (w : World) (hr : IsD w p q d) (hb1 : d.pg.length ≤ 9223372036854775806) (hb2 : d.wt.length ≤ 9223372036854775806) :
    Calls Try.prog 25 #[.agg #[p, q]] w fun e w' => e = .returned (.int .i64 (JN.dchk d)) ∧ Fr w w' := by
  obtain ⟨pg, wt⟩ := d
  obtain ⟨hp, hq⟩ := hr
  simp only at hp hq hb1 hb2
  obtain ⟨ap, cp, rfl, hcp, hpc⟩ := hp
  obtain ⟨aq, cq, rfl, hcq, hqc⟩ := hq
  obtain ⟨m, hm⟩ : ∃ m, pg.length = m := ⟨_, rfl⟩
  rw [hm] at hcp hb1 ⊢
  obtain ⟨W0, hW0⟩ : ∃ W0, w.alloc (.cells #[.slice ap m cp, .slice aq wt.length cq] 25) = W0 := ⟨_, rfl⟩
  have f0 : Fr w W0 := by rw [← hW0]; exact (Fr.refl w).alloc _
  have b0 : Blk W0 w.heap.size #[.slice ap m cp, .slice aq wt.length cq] 25 := by rw [← hW0]; exact Blk.new _ _ _
  have HP : Hid (pg = [] ∨ ∃ b o, ap = some ⟨b, o, none⟩ ∧ At cdP W0 b o pg) := by
    rcases hpc with h | ⟨b, o, e, hb, h⟩
    · exact .inl h
    · exact .inr ⟨b, o, e, h.fr hb f0⟩
  have HQ : Hid (wt = [] ∨ ∃ b o, aq = some ⟨b, o, none⟩ ∧ At cdW W0 b o wt) := by
    rcases hqc with h | ⟨b, o, e, hb, h⟩
    · exact .inl h
    · exact .inr ⟨b, o, e, h.fr hb f0⟩
  obtain ⟨k0, k1, _, _⟩ := b0.two
  have HF := hideP f0
  have HM := hideP hm
  have HD : Hid (JN.dchk ⟨pg, wt⟩ = if 32 < m then 2 else if pg.any (fun p => decide (260 < p.size)) then 2 else if JN.blankEnd pg then 1 else if 48 < wt.length then 2 else JN.wchk wt) := by
    unfold Hid JN.dchk; rw [hm]
  generalize JN.dchk ⟨pg, wt⟩ = z at HD
  clear hpc hqc f0 b0 hm
  by_cases h1 : 32 < m
  · have h1' : (32 : Int) < (m : Int) := by omega
    go_enter Try.func25, Try.ntmps25
    go_wp2_with fail
    go_ret
    exact ⟨ret_int (by rw [HD.out, if_pos h1]; rfl), HF.out⟩
  have h1' : ¬ (32 : Int) < (m : Int) := by omega
  have HD1 : Hid (z = if pg.any (fun p => decide (260 < p.size)) then 2 else if JN.blankEnd pg then 1 else if 48 < wt.length then 2 else JN.wchk wt) := by
    unfold Hid; rw [HD.out, if_neg h1]
  clear HD
  go_enter Try.func25, Try.ntmps25
  go_wp2_with fail
  go_loop [3] (fun iv => ∃ i : Nat, iv = .int .i64 i ∧ i ≤ m ∧ pg.any (fun p => decide (260 < p.size)) = (pg.drop i).any (fun p => decide (260 < p.size))) (fun iv => m - (intOf iv).toNat)
  case atStart => exact ⟨0, rfl, Nat.zero_le _, rfl⟩
  case round =>
    obtain ⟨i, rfl, hi, hall⟩ := hrel
    by_cases hlt : i < m
    · have hlt2 : i < pg.length := by rw [HM.out]; exact hlt
      obtain ⟨b, o, rfl, hc⟩ : ∃ b o, ap = some ⟨b, o, none⟩ ∧ At cdP W0 b o pg := by
        rcases HP.out with h | h
        · subst h; simp at hlt2
        · exact h
      have c0 := hc.pg i hlt2
      rw [JN.any_dropD hlt2] at hall
      have hlt' : (i : Int) < (m : Int) := by omega
      generalize pg[i] = x at c0 hall
      have HA := hideP hall
      clear hall hc hlt2
      by_cases hx : 260 < x.size
      · have hx' : (260 : Int) < (x.size : Int) := by omega
        go_wp2_with fail
        go_ret
        exact ⟨ret_int (by rw [HD1.out, HA.out]; simp [hx]), HF.out⟩
      · have hx' : ¬ (260 : Int) < (x.size : Int) := by omega
        go_wp2_with fail
        go_round
        case rel => exact ⟨i + 1, by go_num, by omega, by rw [HA.out]; simp [hx]⟩
        case measure => simp [intOf]; omega
    · have HD2 : Hid (z = if JN.blankEnd pg then 1 else if 48 < wt.length then 2 else JN.wchk wt) := by
        unfold Hid
        rw [HD1.out, hall, List.drop_of_length_le (by rw [HM.out]; omega)]
        simp
      have hlt' : ¬ (i : Int) < (m : Int) := by omega
      clear hall HD1
      cases m with
      | succ n =>
        have hz : 0 < pg.length := by rw [HM.out]; omega
        obtain ⟨b, o, rfl, hc⟩ : ∃ b o, ap = some ⟨b, o, none⟩ ∧ At cdP W0 b o pg := by
          rcases HP.out with h | h
          · subst h; simp at hz
          · exact h
        have c0 := hc.pg n (by rw [HM.out]; omega)
        have hbl : JN.blankEnd pg = decide ((pg[n]'(by rw [HM.out]; omega)).size = 0) := by
          rw [JN.blank_lastD hz]
          simp only [HM.out, Nat.add_sub_cancel]
        rw [hbl] at HD2
        have hz' : (0 : Int) < (n : Int) + 1 := by omega
        generalize (pg[n]'(by rw [HM.out]; omega)) = x at c0 HD2
        clear hc hbl hz
        by_cases hx : x.size = 0
        · go_wp2_with fail
          go_ret
          exact ⟨ret_int (by rw [HD2.out]; simp [hx]), HF.out⟩
        · have HD3 : Hid (z = if 48 < wt.length then 2 else JN.wchk wt) := by unfold Hid; rw [HD2.out]; simp [hx]
          clear HD2
          have hx2 : ¬ ((x.size : Int) = 0) := by omega
          have hx3 : ((x.size : Int) == 0) = false := by simpa using hx2
          by_cases h48 : 48 < wt.length
          · have h48' : (48 : Int) < (wt.length : Int) := by omega
            go_wp2_with fail
            go_ret
            exact ⟨ret_int (by rw [HD3.out, if_pos h48]; rfl), HF.out⟩
          have h48' : ¬ (48 : Int) < (wt.length : Int) := by omega
          have HD4 : Hid (z = JN.wchk wt) := by unfold Hid; rw [HD3.out, if_neg h48]
          clear HD3
          go_wp2_with fail
          go_loop [4] (fun iv => ∃ i : Nat, iv = .int .i64 i ∧ i ≤ wt.length ∧ JN.wchk wt = JN.wchk (wt.drop i)) (fun iv => wt.length - (intOf iv).toNat)
          case atStart => exact ⟨0, rfl, Nat.zero_le _, rfl⟩
          case round =>
            obtain ⟨i, rfl, hi, hall⟩ := hrel
            by_cases hlt : i < wt.length
            · obtain ⟨b, o, rfl, hc⟩ : ∃ b o, aq = some ⟨b, o, none⟩ ∧ At cdW W0 b o wt := by
                rcases HQ.out with h | h
                · subst h; simp at hlt
                · exact h
              obtain ⟨c0, c1⟩ := hc.wr i hlt
              have HA : Hid (z = if wt[i].no < 0 ∨ 31 < wt[i].no then 3 else if 260 < wt[i].t.size then 2 else JN.wchk (wt.drop (i + 1))) := by
                unfold Hid
                rw [HD4.out, hall, List.drop_eq_getElem_cons hlt, JN.wchk]
              have HW : Hid (wt[i].no < 0 ∨ 31 < wt[i].no ∨ 260 < wt[i].t.size ∨ JN.wchk wt = JN.wchk (wt.drop (i + 1))) := by
                unfold Hid
                by_cases g1 : wt[i].no < 0
                · exact .inl g1
                by_cases g2 : 31 < wt[i].no
                · exact .inr (.inl g2)
                by_cases g3 : 260 < wt[i].t.size
                · exact .inr (.inr (.inl g3))
                · right; right; right
                  rw [hall, List.drop_eq_getElem_cons hlt, JN.wchk, if_neg (by omega), if_neg g3]
              have hlt' : (i : Int) < (wt.length : Int) := by omega
              generalize wt[i].no = x1 at c0 HA HW
              generalize wt[i].t = x2 at c1 HA HW
              clear hall hc
              by_cases g1 : x1 < 0
              · go_wp2_with fail
                go_ret
                exact ⟨ret_int (by rw [HA.out, if_pos (.inl g1)]; rfl), HF.out⟩
              by_cases g2 : 31 < x1
              · go_wp2_with fail
                go_ret
                exact ⟨ret_int (by rw [HA.out, if_pos (.inr g2)]; rfl), HF.out⟩
              by_cases g3 : 260 < x2.size
              · have g3' : (260 : Int) < (x2.size : Int) := by omega
                go_wp2_with fail
                go_ret
                exact ⟨ret_int (by rw [HA.out, if_neg (by omega), if_pos g3]; rfl), HF.out⟩
              · have g3' : ¬ (260 : Int) < (x2.size : Int) := by omega
                go_wp2_with fail
                go_round
                case rel => exact ⟨i + 1, by go_num, by omega, by
                  rcases HW.out with h | h | h | h
                  · exact absurd h g1
                  · exact absurd h g2
                  · exact absurd h g3
                  · exact h⟩
                case measure => simp [intOf]; omega
            · have hlt' : ¬ (i : Int) < (wt.length : Int) := by omega
              have HZ : Hid (z = 0) := by
                unfold Hid
                rw [HD4.out, hall, List.drop_of_length_le (by omega)]; rfl
              clear hall
              go_wp2_with fail
              go_ret
              exact ⟨ret_int (by rw [HZ.out]; rfl), HF.out⟩
      | zero =>
        have he : pg = [] := List.length_eq_zero_iff.1 HM.out
        have HD3 : Hid (z = if 48 < wt.length then 2 else JN.wchk wt) := by unfold Hid; rw [HD2.out, he]; simp [JN.blankEnd]
        clear HD2 he
        by_cases h48 : 48 < wt.length
        · have h48' : (48 : Int) < (wt.length : Int) := by omega
          go_wp2_with fail
          go_ret
          exact ⟨ret_int (by rw [HD3.out, if_pos h48]; rfl), HF.out⟩
        have h48' : ¬ (48 : Int) < (wt.length : Int) := by omega
        have HD4 : Hid (z = JN.wchk wt) := by unfold Hid; rw [HD3.out, if_neg h48]
        clear HD3
        go_wp2_with fail
        go_loop [4] (fun iv => ∃ i : Nat, iv = .int .i64 i ∧ i ≤ wt.length ∧ JN.wchk wt = JN.wchk (wt.drop i)) (fun iv => wt.length - (intOf iv).toNat)
        case atStart => exact ⟨0, rfl, Nat.zero_le _, rfl⟩
        case round =>
          obtain ⟨i, rfl, hi, hall⟩ := hrel
          by_cases hlt : i < wt.length
          · obtain ⟨b, o, rfl, hc⟩ : ∃ b o, aq = some ⟨b, o, none⟩ ∧ At cdW W0 b o wt := by
              rcases HQ.out with h | h
              · subst h; simp at hlt
              · exact h
            obtain ⟨c0, c1⟩ := hc.wr i hlt
            have HA : Hid (z = if wt[i].no < 0 ∨ 31 < wt[i].no then 3 else if 260 < wt[i].t.size then 2 else JN.wchk (wt.drop (i + 1))) := by
              unfold Hid
              rw [HD4.out, hall, List.drop_eq_getElem_cons hlt, JN.wchk]
            have HW : Hid (wt[i].no < 0 ∨ 31 < wt[i].no ∨ 260 < wt[i].t.size ∨ JN.wchk wt = JN.wchk (wt.drop (i + 1))) := by
              unfold Hid
              by_cases g1 : wt[i].no < 0
              · exact .inl g1
              by_cases g2 : 31 < wt[i].no
              · exact .inr (.inl g2)
              by_cases g3 : 260 < wt[i].t.size
              · exact .inr (.inr (.inl g3))
              · right; right; right
                rw [hall, List.drop_eq_getElem_cons hlt, JN.wchk, if_neg (by omega), if_neg g3]
            have hlt' : (i : Int) < (wt.length : Int) := by omega
            generalize wt[i].no = x1 at c0 HA HW
            generalize wt[i].t = x2 at c1 HA HW
            clear hall hc
            by_cases g1 : x1 < 0
            · go_wp2_with fail
              go_ret
              exact ⟨ret_int (by rw [HA.out, if_pos (.inl g1)]; rfl), HF.out⟩
            by_cases g2 : 31 < x1
            · go_wp2_with fail
              go_ret
              exact ⟨ret_int (by rw [HA.out, if_pos (.inr g2)]; rfl), HF.out⟩
            by_cases g3 : 260 < x2.size
            · have g3' : (260 : Int) < (x2.size : Int) := by omega
              go_wp2_with fail
              go_ret
              exact ⟨ret_int (by rw [HA.out, if_neg (by omega), if_pos g3]; rfl), HF.out⟩
            · have g3' : ¬ (260 : Int) < (x2.size : Int) := by omega
              go_wp2_with fail
              go_round
              case rel => exact ⟨i + 1, by go_num, by omega, by
                rcases HW.out with h | h | h | h
                · exact absurd h g1
                · exact absurd h g2
                · exact absurd h g3
                · exact h⟩
              case measure => simp [intOf]; omega
          · have hlt' : ¬ (i : Int) < (wt.length : Int) := by omega
            have HZ : Hid (z = 0) := by
              unfold Hid
              rw [HD4.out, hall, List.drop_of_length_le (by omega)]; rfl
            clear hall
            go_wp2_with fail
            go_ret
            exact ⟨ret_int (by rw [HZ.out]; rfl), HF.out⟩
end Go.Proofs.Ytklldfkaihpkiaa
