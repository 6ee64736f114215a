/-
  The document's own CheckValue, CheckRow, EntriesCheck and SchemasOf.
-/
import Derived.Test.YtefojbfihnnpdaaDoorCtYs
import Derived.Test.YtefojbfihnnpdaaDoorLfT
import Derived.Test.YtefojbfihnnpdaaDoorCtYo
import Derived.Test.YtefojbfihnnpdaaDoorCtV
namespace Go.Proofs.YtefojbfihnnpdaaDoor
open Go.ChangeShapes Go.WideShapes Go.ChangeAt Go.RowKit
set_option linter.unusedVariables false
set_option linter.unusedSimpArgs false
set_option maxRecDepth 100000
set_option maxRecDepth 100000 in
set_option maxHeartbeats 1000000 in
theorem rcheck_any (k n : Int) (s : ByteArray) (w : World) :
    Calls Tryd.prog 39 #[.agg #[.int .i64 k, .int .i64 n, .string s]] w fun e w' => e = .returned (.int .i64 (VM.chk ⟨k, n, s⟩)) ∧ Fr w w' := by
  have hk : k < 0 ∨ k = 0 ∨ k = 1 ∨ k = 2 ∨ k = 3 ∨ 3 < k := by omega
  by_cases hz : s.size = 0
  · obtain rfl : s = ⟨#[]⟩ := by
      have := (toList_nil s).2 hz
      rw [ByteArray.toList_eq] at this
      cases s
      simp_all
    clear hz
    rcases hk with hk | rfl | rfl | rfl | rfl | hk
    all_goals
      go_enter Tryd.func39, Tryd.ntmps39
      go_wp2
      all_goals
        go_ret
        refine ⟨ret_int ?_, (Fr.refl _).alloc _⟩
        try simp only [Bool.or_eq_true, Bool.and_eq_true, beq_iff_eq, bne_iff_ne, decide_eq_true_eq, Bool.not_eq_true', Bool.or_eq_false_iff, beq_eq_false_iff_ne] at *
        unfold VM.chk
        simp only [show (⟨#[]⟩ : ByteArray).size = 0 from rfl]
        repeat' split
        all_goals first | rfl | omega | (exfalso; simp_all)
  · have h1 : (s.toList == []) = false := by simp only [beq_eq_false_iff_ne, ne_eq, toList_nil]; exact hz
    have h2 : (s.toList != []) = true := by simp only [bne_iff_ne, ne_eq, toList_nil]; exact hz
    have h3 : ¬ s.toList = [] := by rw [toList_nil]; exact hz
    rcases hk with hk | rfl | rfl | rfl | rfl | hk
    all_goals
      go_enter Tryd.func39, Tryd.ntmps39
      go_wp2
      all_goals
        clear h1 h2 h3
        go_ret
        refine ⟨ret_int ?_, (Fr.refl _).alloc _⟩
        try simp only [Bool.or_eq_true, Bool.and_eq_true, beq_iff_eq, bne_iff_ne, decide_eq_true_eq, Bool.not_eq_true', Bool.or_eq_false_iff, beq_eq_false_iff_ne, toList_nil] at *
        unfold VM.chk
        simp only
        repeat' split
        all_goals first | rfl | omega | (exfalso; simp_all)
set_option maxRecDepth 100000 in
set_option maxHeartbeats 1000000 in
theorem rcheckAll_any (v : Value) (l : List VM.Vl) (w : World) (hr : IsRow w v l) (hbig : l.length ≤ 9223372036854775807) :
    Calls Tryd.prog 58 #[v] w fun e w' => e = .returned (.int .i64 (VM.chkAll l)) ∧ Fr w w' := by
  obtain ⟨a, cap, rfl, hcs⟩ := hr
  have HC : Hid _ := hcs
  clear hcs
  go_enter Tryd.func58, Tryd.ntmps58
  go_wp2_with fail
  go_loopw [3] (fun iv wr => ∃ i : Nat, iv = .int .i64 i ∧ i ≤ l.length ∧ VM.chkAll l = VM.chkAll (l.drop i) ∧ Fr w wr) (fun iv _ => l.length - (intOf iv).toNat)
  case atStart => exact ⟨0, rfl, Nat.zero_le _, rfl, Fr.refl _⟩
  case round =>
    obtain ⟨i, rfl, hi, hall, hfr⟩ := hrel
    by_cases hlt : i < l.length
    · obtain ⟨b, o, rfl, hb, hc⟩ : ∃ b o, a = some ⟨b, o, none⟩ ∧ b < w.heap.size ∧ CellsAt w b o l := by
        rcases HC.out with h | h
        · subst h; simp at hlt
        · exact h
      obtain ⟨c0, c1, c2⟩ := (hc.fr hb hfr) i hlt
      have HA : Hid _ := hall
      have HF : Hid _ := hfr
      clear hall hfr hc
      have hchk := fun W => rcheck_any l[i].k l[i].n l[i].s W
      generalize hx : l[i] = x at c0 c1 c2 hchk
      obtain ⟨k, n, s⟩ := x
      simp only at c0 c1 c2 hchk
      have HX : Hid _ := hx
      clear hx
      go_wp2_with (go_at_call 39; refine (hchk _).mono ?_)
      rintro e w1 ⟨rfl, hf1⟩
      have hfr' : Fr w w1 := Fr.trans HF.out hf1
      have hdrop : VM.chkAll (l.drop i) = if VM.chk ⟨k, n, s⟩ = 0 then VM.chkAll (l.drop (i + 1)) else VM.chk ⟨k, n, s⟩ := by
        rw [List.drop_eq_getElem_cons hlt, HX.out]
        rfl
      have HD : Hid _ := HA.out.trans hdrop
      clear hdrop HA HF hf1 c0 c1 c2
      by_cases he : VM.chk ⟨k, n, s⟩ = 0
      · have HD' : Hid _ := HD.out.trans (if_pos he)
        clear HD
        rw [he]
        go_wp2_with fail
        go_roundw
        case rel => exact ⟨i + 1, by go_num, by omega, HD'.out, hfr'⟩
        case measure => simp [intOf]; omega
      · have HD' : Hid _ := HD.out.trans (if_neg he)
        clear HD
        generalize hy : VM.chk ⟨k, n, s⟩ = y at *
        have hne : ((y : Int) != 0) = true := by simp; omega
        have hne2 : ¬ ((y : Int) = 0) := by omega
        go_wp2_with fail
        go_ret
        refine ⟨ret_int ?_, hfr'⟩
        rw [HD'.out]
    · have hnil : VM.chkAll l = 0 := by
        rw [hall, List.drop_of_length_le (by omega)]
        rfl
      have HN : Hid _ := hnil
      have hi' : i = l.length := by omega
      clear hall hnil
      subst hi'
      go_wp2_with fail
      go_ret
      refine ⟨ret_int ?_, hfr⟩
      rw [HN.out]
      rfl

theorem cell_fr {w w' : World} {g j : Nat} {x : Value} (f : Fr w w') (h : w.cell? ⟨g, j, none⟩ = some x) : w'.cell? ⟨g, j, none⟩ = some x :=
  (Below.cell f (World.block_lt_of_cell? _ _ h)).trans h

set_option maxHeartbeats 1000000 in
theorem refCheckRow_any (v : Value) (l : List VM.Vl) (w : World) (hr : IsRow w v l) (hbig : l.length ≤ 9223372036854775807) :
    Calls Tryd.prog 46 #[v] w fun e w' => e = .returned (.int .i64 (VM.chkRow l)) ∧ Fr w w' := by
  have hca := rcheckAll_any v l w hr hbig
  obtain ⟨a, cap, rfl, hcs⟩ := hr
  have HR : Hid (VM.chkRow l = if 8 < l.length then 2 else VM.chkAll l) := rfl
  generalize VM.chkRow l = r at *
  generalize VM.chkAll l = c at *
  clear hcs
  by_cases h8 : 8 < l.length
  · have h8' : (8 : Int) < (l.length : Int) := by omega
    have HE : Hid _ := HR.out.trans (if_pos h8)
    clear HR h8
    go_enter Tryd.func46, Tryd.ntmps46
    go_wp2_with fail
    go_ret
    exact ⟨ret_int (by rw [HE.out]; rfl), Fr.refl _⟩
  · have h8' : (l.length : Int) ≤ 8 := by omega
    have HE : Hid _ := HR.out.trans (if_neg h8)
    clear HR h8
    go_enter Tryd.func46, Tryd.ntmps46
    go_wp2_with (go_at_call 58; refine hca.mono ?_)
    rintro _ w1 ⟨rfl, hf1⟩
    go_wp2_with fail
    go_ret
    exact ⟨ret_int (by rw [HE.out]), hf1⟩

theorem one_three {last : Int} {e : LF.En} (h : e.1 < 1) : LF.one last e = 3 := if_pos h
theorem one_four {last : Int} {e : LF.En} (h : 1 ≤ e.1) (h2 : e.1 ≤ last) : LF.one last e = 4 := by unfold LF.one; rw [if_neg (by omega), if_pos h2]
theorem one_row {last : Int} {e : LF.En} (h : 1 ≤ e.1) (h2 : last < e.1) : LF.one last e = VM.chkRow e.2 := by unfold LF.one; rw [if_neg (by omega), if_neg (by omega)]
theorem chkE_bad {last : Int} {e : LF.En} {l : List LF.En} {c : Nat} (h : LF.one last e = c) (hc : c ≠ 0) : LF.chkE last (e :: l) = c := by rw [LF.chkE_cons, h, if_neg hc]
theorem chkE_go {last : Int} {e : LF.En} {l : List LF.En} (h : LF.one last e = 0) : LF.chkE last (e :: l) = LF.chkE e.1 l := by rw [LF.chkE_cons, if_pos h]

set_option maxHeartbeats 2000000 in
theorem entriesCheck_any (v : Value) (l : List LF.En) (w : World) (hv : IsEn w v l) (hl : l.length ≤ 9223372036854775806) (hb : ∀ e ∈ l, LF.wideE e ∧ e.2.length ≤ 9223372036854775807) :
    Calls Tryd.prog 25 #[v] w fun e w' => e = .returned (.int .i64 (LF.chk l)) ∧ Fr w w' := by
  obtain ⟨a, cap, rfl, hcs⟩ := hv
  have HC := hideP hcs
  have HB := hideP hb
  clear hcs hb
  by_cases h40 : 40 < l.length
  · have h40' : (40 : Int) < (l.length : Int) := by omega
    have e1 : LF.chk l = 2 := if_pos h40
    rw [e1]
    clear e1 h40
    go_enter Tryd.func25, Tryd.ntmps25
    go_wp2_with fail
    go_ret
    exact ⟨rfl, Fr.refl _⟩
  · have h40' : (l.length : Int) ≤ 40 := by omega
    have e1 : LF.chk l = LF.chkE 0 l := if_neg h40
    rw [e1]
    clear e1
    generalize hR : LF.chkE 0 l = R
    have HR := hideP hR
    clear hR
    go_enter Tryd.func25, Tryd.ntmps25
    go_wp2_with fail
    go_loopw [3] (fun iv wr => ∃ (i : Nat), iv = .int .i64 i ∧ i ≤ l.length ∧ LF.chkE 0 l = LF.chkE (LF.lst 0 (l.take i)) (l.drop i) ∧ Fr w wr) (fun iv _ => l.length - (intOf iv).toNat)
    case atStart => exact ⟨0, rfl, Nat.zero_le _, rfl, Fr.refl _⟩
    case round =>
      obtain ⟨i, rfl, hi, hall, hfr⟩ := hrel
      have HFR := hideP hfr
      by_cases hlt : i < l.length
      · obtain ⟨b, o, rfl, hb, hc⟩ : ∃ b o, a = some ⟨b, o, none⟩ ∧ b < w.heap.size ∧ EnAt w b o l := by
          rcases HC.out with h | h
          · subst h; simp at hlt
          · exact h
        obtain ⟨c0', rv, c1', hrow⟩ := hc i hlt
        have c0 := (Below.cell hfr hb).trans c0'
        have c1 := (Below.cell hfr hb).trans c1'
        have hprev : ∀ j, i = j + 1 → ∃ p, wr.cell? ⟨b, o + j * 2, none⟩ = some (.int .i64 p) ∧ LF.lst 0 (l.take i) = p := fun j hj => by
          subst hj
          obtain ⟨p0, _⟩ := hc j (by omega)
          refine ⟨_, (Below.cell hfr hb).trans p0, ?_⟩
          rw [List.take_succ_eq_append_getElem (by omega), LF.lst_snoc]
        have hzero : i = 0 → LF.lst 0 (l.take i) = 0 := fun h => by subst h; rfl
        have hwd := HB.out l[i] (List.getElem_mem hlt)
        have htk : l.take (i + 1) = l.take i ++ [l[i]] := List.take_succ_eq_append_getElem hlt
        have hdr : l.drop i = l[i] :: l.drop (i + 1) := List.drop_eq_getElem_cons hlt
        rw [hdr] at hall
        have hck := fun W (f : Fr w W) => refCheckRow_any rv l[i].2 W (hrow.fr f) hwd.2
        generalize l[i] = x at *
        obtain ⟨id, r⟩ := x
        simp only at c0 c1 hrow hwd hck
        have HROW := hideP hrow
        obtain ⟨ar, capr, rfl, _⟩ := hrow
        have hlt' : (i : Int) < (l.length : Int) := by omega
        have hck' := hck wr.drew (Fr.drew hfr)
        generalize hlast : LF.lst 0 (l.take i) = last at *
        have HTK : Hid (LF.lst 0 (l.take (i + 1)) = id) := by unfold Hid; rw [htk, LF.lst_snoc]
        have HALL := hideP hall
        clear c0' c1' hwd htk hdr hc hfr hlast hall hck
        by_cases h1 : id < 1
        · have HX : Hid (R = 3) := by unfold Hid; rw [← HR.out, HALL.out]; exact chkE_bad (one_three h1) (by decide)
          go_wp2_with fail
          go_ret
          refine ⟨ret_int ?_, HFR.out⟩
          rw [HX.out]
          rfl
        · have h1' : 1 ≤ id := by omega
          have hcr : last < id → (∀ c : Nat, VM.chkRow r = c → c ≠ 0 → R = c) ∧ (VM.chkRow r = 0 → LF.chkE 0 l = LF.chkE id (l.drop (i + 1))) := fun h2 => by
            refine ⟨fun c hc hne => ?_, fun hc => ?_⟩
            · rw [← HR.out, HALL.out]
              exact chkE_bad ((one_row (e := (id, r)) h1' h2).trans hc) hne
            · rw [HALL.out]
              exact chkE_go ((one_row (e := (id, r)) h1' h2).trans hc)
          have HCR := hideP hcr
          have HCA := hideP hck'
          clear h1 hcr hck'
          by_cases hz : i = 0
          · have hl0 : last < id := by have := hzero hz; omega
            have hip : (0 < (i : Int)) = False := by simp; omega
            have hip2 : (0 < i) = False := by simp; omega
            obtain ⟨hR1, hR2⟩ := HCR.out hl0
            have HR1 := hideP hR1
            have HR2 := hideP hR2
            clear hR1 hR2 hzero hprev HALL HCR hz
            go_wp2_with fail
            first
              | go_region
              | fail
            all_goals
              go_wp2_with fail
              refine HCA.out.mono ?_
              rintro _ w2 ⟨rfl, f2⟩
              have F2 := hideP (Fr.trans (Fr.drew HFR.out) f2)
              clear f2
              by_cases hc0 : VM.chkRow r = 0
              · have HD := hideP (HR2.out hc0)
                rw [hc0]
                go_wp2_with fail
                go_roundw
                case rel => exact ⟨i + 1, by go_num, by omega, by rw [HTK.out]; exact HD.out, F2.out⟩
                case measure => simp [intOf]; omega
              · have HD := hideP (HR1.out _ rfl hc0)
                generalize VM.chkRow r = c at *
                have q1 : ((c : Int) != 0) = true := by simp; omega
                have q2 : ¬ ((c : Int) = 0) := by omega
                go_wp2_with fail
                go_ret
                refine ⟨ret_int ?_, F2.out⟩
                rw [HD.out]
          · obtain ⟨j, hj⟩ : ∃ j, i = j + 1 := ⟨i - 1, by omega⟩
            obtain ⟨p, hp, hlp⟩ := hprev j hj
            subst hlp
            have hip : (0 : Int) < (i : Int) := by omega
            have hip2 : 0 < i := by omega
            have hjI : (i : Int) - 1 = (j : Int) := by omega
            have hjl : (j : Int) < (l.length : Int) := by omega
            have HJ := hideP hj
            have hjn : j < l.length := by omega
            clear hprev hzero hz hj
            by_cases h2 : id ≤ last
            · have HX : Hid (R = 4) := by unfold Hid; rw [← HR.out, HALL.out]; exact chkE_bad (one_four (e := (id, r)) h1' h2) (by decide)
              go_wp2_with fail
              first
                | go_region
                | fail
              all_goals
                go_wp2_with fail
                go_ret
                refine ⟨ret_int ?_, Fr.drew HFR.out⟩
                rw [HX.out]
                rfl
            · have h2' : last < id := by omega
              obtain ⟨hR1, hR2⟩ := HCR.out h2'
              have HR1 := hideP hR1
              have HR2 := hideP hR2
              clear hR1 hR2 HALL HCR h2
              go_wp2_with fail
              first
                | go_region
                | fail
              all_goals
                go_wp2_with fail
                refine HCA.out.mono ?_
                rintro _ w2 ⟨rfl, f2⟩
                have F2 := hideP (Fr.trans (Fr.drew HFR.out) f2)
                clear f2
                by_cases hc0 : VM.chkRow r = 0
                · have HD := hideP (HR2.out hc0)
                  rw [hc0]
                  go_wp2_with fail
                  go_roundw
                  case rel => exact ⟨i + 1, by go_num, by omega, by rw [HTK.out]; exact HD.out, F2.out⟩
                  case measure => simp [intOf]; omega
                · have HD := hideP (HR1.out _ rfl hc0)
                  generalize VM.chkRow r = c at *
                  have q1 : ((c : Int) != 0) = true := by simp; omega
                  have q2 : ¬ ((c : Int) = 0) := by omega
                  go_wp2_with fail
                  go_ret
                  refine ⟨ret_int ?_, F2.out⟩
                  rw [HD.out]
      · obtain rfl : i = l.length := by omega
        rw [List.drop_of_length_le (Nat.le_refl _)] at hall
        have HX : Hid (R = 0) := by unfold Hid; rw [← HR.out, hall]; rfl
        clear hall hfr
        go_wp2_with fail
        go_ret
        refine ⟨ret_int ?_, HFR.out⟩
        rw [HX.out]
        rfl
end Go.Proofs.YtefojbfihnnpdaaDoor
namespace Go.Proofs.YtefojbfihnnpdaaDoor
open Go.ChangeShapes Go.WideShapes Go.ChangeAt Go.RowKit
set_option linter.unusedVariables false
set_option linter.unusedSimpArgs false
set_option maxRecDepth 100000
set_option maxHeartbeats 4000000

/-- a row of columns stays where a table's form is changed -/
theorem own_set {w : World} {B n N i : Nat} {v z : Value} {xs : List Value} {arr : Array Value} (h : w.ownsRow B 44 4 v n xs) (hb : Blk w N arr 39) : (w.setCell ⟨N, i, none⟩ z).ownsRow B 44 4 v n xs := by
  refine own_keep h fun k cur _ hk => ?_
  have hne : N ≠ k := by
    rintro rfl
    unfold Blk at hb
    rw [hb] at hk
    simp at hk
  simp only [World.setCell, Array.getElem?_modify]
  rw [if_neg hne]
theorem schemasOf_bad (v : Value) (l : List LF.En) (w : World) (h : IsEnC w v l) (hw : WE l) (h0 : LF.chk l ≠ 0) :
    Calls Tryd.prog 12 #[v] w fun e w' => OfAns w.heap.size l e w' ∧ Fr w w' := by
  have cc := entriesCheck_any v l w h.en hw.1 (fun e he => (hw.2 e he).1)
  have hz : CT.ofE l = LF.chk l := by unfold CT.ofE; rw [if_pos h0]
  have HZ := hideP hz
  obtain ⟨a, cap, rfl, hpc⟩ := h
  generalize LF.chk l = x at *
  have e1 : ((x : Int) != 0) = true := by simp; omega
  have e2 : ¬ ((x : Int) = 0) := by omega
  clear hpc hw hz
  go_enter Tryd.func12, Tryd.ntmps12
  go_wp2_with fail
  refine cc.mono ?_
  rintro _ w1 ⟨rfl, f1⟩
  go_wp2_with fail
  go_ret2
  exact ⟨.inr ⟨by rw [HZ.out]; exact h0, by rw [HZ.out]; rfl⟩, f1⟩
theorem schemasOf_good (v : Value) (l : List LF.En) (w : World) (h : IsEnC w v l) (hw : WE l) (h0 : LF.chk l = 0) :
    Calls Tryd.prog 12 #[v] w fun e w' => OfAns w.heap.size l e w' ∧ Fr w w' := by
  have cc := entriesCheck_any v l w h.en hw.1 (fun e he => (hw.2 e he).1)
  rw [h0] at cc
  have hz : CT.ofE l = if l.all CT.tabB = true then CT.chk (l.map CT.tabA) else 1 := by unfold CT.ofE; rw [if_neg (by simp [h0])]
  obtain ⟨hl40, hl8⟩ := CT.chk_short h0
  have hws : WS (l.map CT.tabA) := by
    intro s hs
    obtain ⟨e, he, rfl⟩ := List.mem_map.1 hs
    exact CT.tabA_wide e (hw.2 e he).2 (hl8 e he)
  obtain ⟨a, cap, rfl, hpc⟩ := h
  have HC := hideP hpc
  have HW := hideP hw
  have HZ := hideP hz
  have HL8 := hideP hl8
  have HWs := hideP hws
  clear hpc hw hz h0 hl8 hws
  obtain ⟨i0, hi0, hz0, hz1, hz2⟩ := info_parts Tryd.infoSc
  obtain ⟨j0, hj0, jz0, jz1, jz2⟩ := info_parts Tryd.infoCol
  go_enter Tryd.func12, Tryd.ntmps12
  go_wp2_with fail
  refine cc.mono ?_
  rintro _ w1 ⟨rfl, f1⟩
  have F1 := hideP f1
  clear cc f1
  go_wp2_with fail
  go_loopw [5, 6, 7, 8, 9, 10, 11] (fun tv iv _ _ _ _ _ wr => ∃ (i : Nat) (ps : List (CT.Sc × Sl)), iv = .int .i64 i ∧ i ≤ l.length ∧ Fr w wr ∧ OSc w.heap.size tv ps wr ∧ ps.map (·.1) = (l.take i).map CT.tabA ∧ (l.take i).all CT.tabB = true) (fun _ iv _ _ _ _ _ _ => l.length - (intOf iv).toNat)
  case atStart => exact ⟨0, [], rfl, Nat.zero_le _, F1.out, ⟨World.ownsRow_nil _ _ _ _, fun p hp => by simp at hp⟩, rfl, rfl⟩
  case round =>
    obtain ⟨i, ps, rfl, hi, hfr, hos, hps, hall⟩ := hrel
    generalize wr = wo at *
    have hel : ps.length = i := by
      have := congrArg List.length hps
      rw [List.length_map, List.length_map, List.length_take] at this
      omega
    obtain ⟨av, ocap, rfl⟩ := own_slice hos.own
    have HFr := hideP hfr
    have HOs := hideP hos
    have HPs := hideP hps
    have HAl := hideP hall
    have HEl := hideP hel
    rw [hel]
    clear hfr hos hps hel hall
    by_cases hlt : i < l.length
    · have hlt' : (i : Int) < (l.length : Int) := by omega
      obtain ⟨b, o, rfl, hb, hc⟩ : ∃ b o, a = some ⟨b, o, none⟩ ∧ b < w.heap.size ∧ EnC w b o l := by
        rcases HC.out with h | h
        · rw [h] at hlt; simp at hlt
        · exact h
      obtain ⟨c0, ra, rc, c1, hrc, hrr⟩ := (hc.fr hb HFr.out) i hlt
      have hwe := HW.out.2 l[i] (List.getElem_mem hlt)
      have h8 := HL8.out l[i] (List.getElem_mem hlt)
      have htk : l.take (i + 1) = l.take i ++ [l[i]] := List.take_succ_eq_append_getElem hlt
      have hal2 : (l.take (i + 1)).all CT.tabB = CT.tabB l[i] := by rw [htk, List.all_append, HAl.out]; simp
      have hmp : (l.take (i + 1)).map CT.tabA = (l.take i).map CT.tabA ++ [CT.tabA l[i]] := by rw [htk, List.map_append]; rfl
      have hno : CT.tabB l[i] = false → CT.ofE l = 1 := fun h => by
        have : l.all CT.tabB = false := by
          cases e : l.all CT.tabB with
          | false => rfl
          | true => rw [List.all_eq_true.1 e l[i] (List.getElem_mem hlt)] at h; cases h
        rw [HZ.out, this]; rfl
      generalize l[i] = en at *
      obtain ⟨eid, er⟩ := en
      simp only at c0 c1 hrc hrr h8
      have HA2 := hideP hal2
      have HMp := hideP hmp
      have HNo := hideP hno
      clear hc hb htk hal2 hmp hno
      cases er with
      | nil =>
        have HB := hideP (HNo.out rfl)
        simp only [List.length_nil] at c1
        go_wp2_with fail
        go_ret2
        exact ⟨.inr ⟨by rw [HB.out]; decide, by rw [HB.out]; rfl⟩, HFr.out⟩
      | cons x r =>
        obtain ⟨rb, ro, rfl, hrb, hcl⟩ : ∃ b' o', ra = some ⟨b', o', none⟩ ∧ b' < wo.heap.size ∧ CellsAt wo b' o' (x :: r) := by
          rcases hrr with h | h
          · cases h
          · exact h
        have hx0 := hcl 0 (by simp)
        simp only [List.getElem_cons_zero, Nat.zero_mul, Nat.add_zero] at hx0
        obtain ⟨p0, p1, p2⟩ := hx0
        have hsz := hwe.2
        have HCl := hideP (fun W (f : Fr wo W) k (hk : k < (x :: r).length) => (hcl.fr hrb f) k hk)
        simp only [List.length_cons] at c1 hrc h8
        have n0 : ¬ ((r.length : Int) + 1 = 0) := by omega
        have n1 : (((r.length : Int) + 1) == 0) = false := by simp; omega
        have n2 : (0 : Int) < (r.length : Int) + 1 := by omega
        have HSz := hideP (fun y (hy : y ∈ r) => hsz y (by simp [hy]))
        clear hrr hwe hsz hcl
        by_cases hxk : x.k = 2
        · rw [hxk] at p0
          have HTB : Hid (CT.tabB (eid, x :: r) = r.all CT.colB) := by unfold Hid CT.tabB; simp [hxk]
          have HTA : Hid (CT.tabA (eid, x :: r) = ⟨eid, x.s, r.map CT.colA⟩) := rfl
          rw [HTB.out] at HA2 HNo
          rw [HTA.out] at HMp
          generalize x.s = xs at *
          have HP := hideP (show wo.cell? ⟨b, o + i * 2, none⟩ = some (.int .i64 eid) ∧ wo.cell? ⟨rb, ro + 2, none⟩ = some (.string xs) from ⟨c0, p2⟩)
          have hz := Fr.drew (Fr.refl wo)
          have HNb := hideP (Blk.new wo #[.int .i64 0, .string ⟨#[]⟩, .slice none 0 0] 39)
          have HNd := hideP (Blk.new wo.drew #[.int .i64 0, .string ⟨#[]⟩, .slice none 0 0] 39)
          have g0 := HNb.out.cell 0 rfl
          have g1 := HNb.out.cell 1 rfl
          have g2 := HNb.out.cell 2 rfl
          have g3 := HNd.out.cell 0 rfl
          have g4 := HNd.out.cell 1 rfl
          have g5 := HNd.out.cell 2 rfl
          go_upto_region 11 with fail
          go_cut [8] from 38 to 47 (fun s8 wx => s8 = .pointer (some ⟨wo.heap.size, 0, none⟩) ∧ Blk wx wo.heap.size #[.int .i64 eid, .string xs, .slice none 0 0] 39 ∧ Fr wo wx)
          case first =>
            go_region_held3 (fun W => W.cell? ⟨b, o + i * 2, none⟩ = some (.int .i64 eid) ∧ W.cell? ⟨rb, ro + 2, none⟩ = some (.string xs)) (first | exact HP.out | exact s2_after hz HP.out | exact s2_after (Fr.alloc (Fr.refl wo) _) HP.out | exact s2_after (Fr.drew (Fr.alloc (Fr.refl wo) _)) HP.out | exact s2_after (Fr.alloc hz _) HP.out | exact s2_after ((Fr.alloc hz _).put3 _ (Nat.le_refl _) _ _ _) HP.out | exact s2_after ((Fr.drew (Fr.alloc (Fr.refl wo) _)).put3 _ (Nat.le_refl _) _ _ _) HP.out) (first | fail)
            all_goals (go_wp2_with fail; go_meet)
            all_goals first
              | exact ⟨rfl, (Blk.new wo _ _).fr (Fr.drew (Fr.refl _)), Fr.drew ((Fr.refl wo).alloc _)⟩
              | exact ⟨rfl, Blk.new wo.drew _ _, (Fr.drew (Fr.refl wo)).alloc _⟩
          case rest =>
            obtain ⟨w8, rfl⟩ : ∃ x, x = wc := ⟨_, rfl⟩
            obtain ⟨rfl, hb8, f8⟩ := hcut
            have HB8 := hideP hb8
            have F8 := hideP f8
            clear hb8 f8 g0 g1 g2 g3 g4 g5 HNb HNd HP hz c0 c1 p0 p1 p2 n0 n1 n2
            go_wp2_with fail
            go_loopw [9, 10, 11] (fun kv _ _ wq => ∃ (m : Nat) (a2 : Option Addr) (c2 : Nat), kv = .int .i64 ((m : Int) + 1) ∧ m ≤ r.length ∧ Fr wo wq ∧ Blk wq wo.heap.size #[.int .i64 eid, .string xs, .slice a2 m c2] 39 ∧ wq.ownsRow wo.heap.size 44 4 (.slice a2 m c2) m (flat cdC ((r.take m).map CT.colA)) ∧ (r.take m).all CT.colB = true) (fun kv _ _ _ => r.length + 1 - (intOf kv).toNat)
            case atStart => exact ⟨0, none, 0, rfl, Nat.zero_le _, F8.out, HB8.out, World.ownsRow_nil _ _ _ _, rfl⟩
            case round =>
              obtain ⟨m, a2, c2, rfl, hm, hfq, hbq, hoq, haq⟩ := hrel
              have HFq := hideP hfq
              have HBq := hideP hbq
              have HOq := hideP hoq
              have HAq := hideP haq
              clear hfq hbq hoq haq
              by_cases hml : m < r.length
              · have hml' : (m : Int) + 1 < (r.length : Int) + 1 := by omega
                obtain ⟨d0, d1, d2⟩ := HCl.out wr HFq.out (m + 1) (by simp; omega)
                simp only [List.getElem_cons_succ] at d0 d1 d2
                have hmz : ((m : Int) + 1).toNat = m + 1 := by omega
                have hs := HSz.out r[m] (List.getElem_mem hml)
                have hco := fun W => colOf_any r[m] W hs
                have htk : r.take (m + 1) = r.take m ++ [r[m]] := List.take_succ_eq_append_getElem hml
                have hmp : (r.take (m + 1)).map CT.colA = (r.take m).map CT.colA ++ [CT.colA r[m]] := by rw [htk, List.map_append]; rfl
                have hal : (r.take (m + 1)).all CT.colB = CT.colB r[m] := by rw [htk, List.all_append, HAq.out]; simp
                have hbad : CT.colB r[m] = false → r.all CT.colB = false := fun h => by
                  cases e : r.all CT.colB with
                  | false => rfl
                  | true => rw [List.all_eq_true.1 e r[m] (List.getElem_mem hml)] at h; cases h
                generalize CT.colA r[m] = ca at *
                generalize CT.colB r[m] = cb at *
                generalize r[m].k = y0 at *
                generalize r[m].n = y1 at *
                generalize r[m].s = y2 at *
                have HMq := hideP hmp
                have HAl2 := hideP hal
                have HBad := hideP hbad
                clear htk hmp hal hbad hs
                cases cb with
                | false =>
                  have HB := hideP (HNo.out (HBad.out rfl))
                  simp only [if_false, if_neg (show ¬ (false = true) by decide)] at hco
                  go_wp2_with fail
                  refine (hco _).mono ?_
                  rintro _ w3 ⟨rfl, f3⟩
                  have F3 := hideP (HFq.out.trans f3)
                  clear f3
                  go_wp2_with fail
                  go_ret2
                  exact ⟨.inr ⟨by rw [HB.out]; decide, by rw [HB.out]; rfl⟩, (HFr.out.trans F3.out).alloc _⟩
                | true =>
                  simp only [if_true] at hco
                  obtain ⟨n_, k_, nn_, u_⟩ := ca
                  simp only at hco
                  go_wp2_with fail
                  refine (hco _).mono ?_
                  rintro _ w3 ⟨rfl, f3⟩
                  obtain ⟨wL, hwL⟩ : ∃ wL, w3.alloc (.cells #[.string n_, .int .i64 k_, .bool nn_, .bool u_] 44) = wL := ⟨_, rfl⟩
                  have fL : Fr wr wL := by rw [← hwL]; exact f3.alloc _
                  have bc : Blk wL w3.heap.size #[.string n_, .int .i64 k_, .bool nn_, .bool u_] 44 := by rw [← hwL]; exact Blk.new w3 _ _
                  have HFL := hideP fL
                  have HBL := hideP (HBq.out.fr fL)
                  have t2 := HBL.out.cell 2 rfl
                  have z0 := bc.cell 0 rfl
                  have z1 := bc.cell 1 rfl
                  have z2 := bc.cell 2 rfl
                  have z3 := bc.cell 3 rfl
                  have HLit := hideP (lit_one cdC wL ⟨n_, k_, nn_, u_⟩ 44)
                  have HOL := hideP (own_fr HOq.out (fL.alloc (.cells #[.string n_, .int .i64 k_, .bool nn_, .bool u_] 44)))
                  have hwl : wo.heap.size ≤ wL.heap.size := (HFq.out.trans fL).size
                  clear f3 fL bc hco d0 d1 d2
                  go_wp2_with (at_builtin; refine wpList_append_L cdC rfl _ _ 37 44 j0 _ 32 rfl Tryd.underlying37 hj0 jz0 jz1 jz2 rfl wo.heap.size _ m _ rfl HOL.out (.slice (some ⟨wL.heap.size, 0, none⟩) 1 1) [⟨n_, k_, nn_, u_⟩] rfl HLit.out ?c3 ?c4 ?c5 ?_)
                  case c3 => unfold maxLen; simp; omega
                  case c4 => simp; omega
                  case c5 => simp; omega
                  intro v2 wB own2 gr2
                  obtain ⟨a3, c3, rfl⟩ := own_slice own2
                  have HBB := hideP (show Blk wB wo.heap.size #[.int .i64 eid, .string xs, .slice a2 m c2] 39 from (HBL.out.old _).grown gr2 (fun e => by
                    obtain ⟨cur, hcur⟩ := own_block HOL.out _ e
                    have hh := HBL.out.old (.cells #[.string n_, .int .i64 k_, .bool nn_, .bool u_] 44)
                    unfold Blk at hh
                    rw [hh] at hcur
                    simp at hcur))
                  have u2 := HBB.out.cell 2 rfl
                  have u3 := HBB.out.frozen 2
                  have FB := hideP (show Fr wo wB from Below.grown (HFq.out.trans (HFL.out.alloc (.cells #[.string n_, .int .i64 k_, .bool nn_, .bool u_] 44))) gr2 (by have := (HFq.out.trans HFL.out).size; simp; omega) (own_base HOL.out))
                  have HO2 := hideP (own_set (i := 2) (z := .slice a3 (m + 1) c3) own2 HBB.out)
                  have HB2 := hideP (show Blk (wB.setCell ⟨wo.heap.size, 2, none⟩ (.slice a3 (m + 1) c3)) wo.heap.size #[.int .i64 eid, .string xs, .slice a3 (m + 1) c3] 39 from by simpa using HBB.out.set 2 (.slice a3 (m + 1) c3))
                  have FS := hideP (FB.out.setC wo.heap.size 2 (.slice a3 (m + 1) c3) (Nat.le_refl _))
                  have HO3 : Hid ((wB.setCell ⟨wo.heap.size, 2, none⟩ (.slice a3 (m + 1) c3)).ownsRow wo.heap.size 44 4 (.slice a3 (m + 1) c3) (m + 1) (flat cdC ((r.take (m + 1)).map CT.colA))) := by
                    unfold Hid
                    rw [HMq.out]
                    first | exact HO2.out | (rw [List.map_take]; exact HO2.out) | simpa [List.map_take] using HO2.out
                  clear own2 gr2 z0 z1 z2 z3 t2 HO2 hwL
                  go_wp2_with fail
                  go_roundw
                  case rel => exact ⟨m + 1, a3, c3, by go_num, by omega, FS.out, HB2.out, HO3.out, HAl2.out⟩
                  case measure => simp [intOf]; omega
              · obtain rfl : m = r.length := by omega
                have hml' : ((r.length : Int) + 1 < (r.length : Int) + 1) = False := by simp
                have e9 : r.take r.length = r := List.take_length
                rw [e9] at HOq HAq
                rw [HAq.out] at HA2
                have z0 := HBq.out.cell 0 rfl
                have z1 := HBq.out.cell 1 rfl
                have z2 := HBq.out.cell 2 rfl
                have HLit := hideP (lit_one cdS wr ((⟨eid, xs, r.map CT.colA⟩, (a2, r.length, c2)) : CT.Sc × Sl) 39)
                have FL := (Fr.refl wr).alloc (.cells #[.int .i64 eid, .string xs, .slice a2 r.length c2] 39)
                have HOL := hideP (HOs.out.fr (HFq.out.trans FL))
                have hoL := HOL.out.own
                rw [HEl.out] at hoL
                have HOW := hideP hoL
                have hcl2 : (wr.alloc (.cells #[.int .i64 eid, .string xs, .slice a2 r.length c2] 39)).ownsRow w.heap.size 44 4 (.slice a2 r.length c2) (r.map CT.colA).length (flat cdC (r.map CT.colA)) := by
                  rw [List.length_map]
                  exact own_fr (own_low HOq.out HFr.out.size) FL
                have HCL := hideP hcl2
                have hwl : w.heap.size ≤ wr.heap.size := (HFr.out.trans HFq.out).size
                have HFL := hideP (HFr.out.trans (HFq.out.trans FL))
                clear FL hcl2 hoL e9
                go_wp2_with (at_builtin; refine wpList_append_L cdS rfl _ _ 22 39 i0 _ 48 rfl Tryd.underlying22 hi0 hz0 hz1 hz2 rfl w.heap.size _ i _ rfl HOW.out (.slice (some ⟨wr.heap.size, 0, none⟩) 1 1) [(⟨eid, xs, r.map CT.colA⟩, (a2, r.length, c2))] rfl HLit.out ?c3 ?c4 ?c5 ?_)
                case c3 => unfold maxLen; simp; omega
                case c4 => simp; omega
                case c5 => simp; omega
                intro v2 wB own2 gr2
                have HN : Hid (OSc w.heap.size v2 (ps ++ [(⟨eid, xs, r.map CT.colA⟩, (a2, r.length, c2))]) wB) := by
                  have h := HOL.out
                  rw [HEl.out] at h
                  exact OSc.snoc h HCL.out (by rw [HEl.out]; exact own2) gr2
                have FB : Hid (Fr w wB) := Below.grown HFL.out gr2 (by simp; omega) (own_base HOW.out)
                have HP2 : Hid ((ps ++ [((⟨eid, xs, r.map CT.colA⟩, (a2, r.length, c2)) : CT.Sc × Sl)]).map (·.1) = (l.take (i + 1)).map CT.tabA) := by
                  unfold Hid
                  rw [HMp.out, List.map_append, HPs.out]
                  rfl
                clear own2 gr2 z0 z1 z2
                go_wp2_with fail
                go_roundw
                case rel => exact ⟨i + 1, _, by go_num, by omega, FB.out, HN.out, HP2.out, HA2.out⟩
                case measure => simp [intOf]; omega
        · have HB : Hid (CT.ofE l = 1) := HNo.out (by unfold CT.tabB; simp [hxk])
          have e1 : (x.k != 2) = true := by simpa using hxk
          generalize x.k = xk at *
          go_wp2_with fail
          go_ret2
          exact ⟨.inr ⟨by rw [HB.out]; decide, by rw [HB.out]; rfl⟩, HFr.out⟩
    · obtain rfl : i = l.length := by omega
      have hlt' : ((l.length : Int) < (l.length : Int)) = False := by simp
      have e9 : l.take l.length = l := List.take_length
      rw [e9] at HPs HAl
      clear e9
      have his := HOs.out.is
      rw [HPs.out] at his
      have ck := schemasCheck_any _ (l.map CT.tabA) wo his HWs.out
      rw [HEl.out] at ck
      have hz2' : CT.ofE l = CT.chk (l.map CT.tabA) := by rw [HZ.out, if_pos HAl.out]
      obtain ⟨z, hzz⟩ : ∃ z, CT.chk (l.map CT.tabA) = z := ⟨_, rfl⟩
      rw [hzz] at ck hz2'
      have HZ2 := hideP hz2'
      clear his hz2' hzz
      go_wp2_with fail
      refine ck.mono ?_
      rintro _ w3 ⟨rfl, f3⟩
      have F3 : Hid (Fr wo w3) := f3
      clear f3 ck
      by_cases hz3 : z = 0
      · subst hz3
        go_wp2_with fail
        go_ret2
        refine ⟨.inl ⟨HZ2.out, _, ps, rfl, ?_, HPs.out⟩, HFr.out.trans F3.out⟩
        have h := HOs.out.fr F3.out
        rw [HEl.out] at h
        exact h
      · have e1 : ((z : Int) != 0) = true := by simp; omega
        have e2 : ¬ ((z : Int) = 0) := by omega
        go_wp2_with fail
        go_ret2
        exact ⟨.inr ⟨by rw [HZ2.out]; exact hz3, by rw [HZ2.out]; rfl⟩, HFr.out.trans F3.out⟩
theorem schemasOf_any (v : Value) (l : List LF.En) (w : World) (h : IsEnC w v l) (hw : WE l) :
    Calls Tryd.prog 12 #[v] w fun e w' => OfAns w.heap.size l e w' ∧ Fr w w' := by
  by_cases h0 : LF.chk l = 0
  · exact schemasOf_good v l w h hw h0
  · exact schemasOf_bad v l w h hw h0
end Go.Proofs.YtefojbfihnnpdaaDoor
