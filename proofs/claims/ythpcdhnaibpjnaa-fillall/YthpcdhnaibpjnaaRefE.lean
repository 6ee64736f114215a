/-
  What the document's own EntriesCheck answers.
-/
import Derived.Test.YthpcdhnaibpjnaaRefRow
import Derived.Test.YthpcdhnaibpjnaaLfT
namespace Go.Proofs.Ythpcdhnaibpjnaa
open Go.ChangeShapes Go.WideShapes Go.ChangeAt Go.RowKit
set_option linter.unusedVariables false
set_option linter.unusedSimpArgs false
set_option maxRecDepth 100000

theorem one_three {last : Int} {e : LF.En} (h : e.1 < 1) : LF.one last e = 3 := if_pos h
theorem one_four {last : Int} {e : LF.En} (h : 1 ≤ e.1) (h2 : e.1 ≤ last) : LF.one last e = 4 := by unfold LF.one; rw [if_neg (by omega), if_pos h2]
theorem one_row {last : Int} {e : LF.En} (h : 1 ≤ e.1) (h2 : last < e.1) : LF.one last e = VM.chkRow e.2 := by unfold LF.one; rw [if_neg (by omega), if_neg (by omega)]
theorem chkE_bad {last : Int} {e : LF.En} {l : List LF.En} {c : Nat} (h : LF.one last e = c) (hc : c ≠ 0) : LF.chkE last (e :: l) = c := by rw [LF.chkE_cons, h, if_neg hc]
theorem chkE_go {last : Int} {e : LF.En} {l : List LF.En} (h : LF.one last e = 0) : LF.chkE last (e :: l) = LF.chkE e.1 l := by rw [LF.chkE_cons, if_pos h]

set_option maxHeartbeats 2000000 in
theorem entriesCheck_any (v : Value) (l : List LF.En) (w : World) (hv : IsEn w v l) (hl : l.length ≤ 9223372036854775806) (hb : ∀ e ∈ l, LF.wideE e ∧ e.2.length ≤ 9223372036854775807) :
    Calls Try.prog 10 #[v] w fun e w' => e = .returned (.int .i64 (LF.chk l)) ∧ Fr w w' := by
  obtain ⟨a, cap, rfl, hcs⟩ := hv
  have HC := hideP hcs
  have HB := hideP hb
  clear hcs hb
  by_cases h40 : 40 < l.length
  · have h40' : (40 : Int) < (l.length : Int) := by omega
    have e1 : LF.chk l = 2 := if_pos h40
    rw [e1]
    clear e1 h40
    go_enter Try.func10, Try.ntmps10
    go_wp2_with fail
    go_ret
    exact ⟨rfl, Fr.refl _⟩
  · have h40' : (l.length : Int) ≤ 40 := by omega
    have e1 : LF.chk l = LF.chkE 0 l := if_neg h40
    rw [e1]
    clear e1
    generalize hR : LF.chkE 0 l = R
    have HR := hideP hR
    clear hR
    go_enter Try.func10, Try.ntmps10
    go_wp2_with fail
    go_loopw [3] (fun iv wr => ∃ (i : Nat), iv = .int .i64 i ∧ i ≤ l.length ∧ LF.chkE 0 l = LF.chkE (LF.lst 0 (l.take i)) (l.drop i) ∧ Fr w wr) (fun iv _ => l.length - (intOf iv).toNat)
    case atStart => exact ⟨0, rfl, Nat.zero_le _, rfl, Fr.refl _⟩
    case round =>
      obtain ⟨i, rfl, hi, hall, hfr⟩ := hrel
      have HFR := hideP hfr
      by_cases hlt : i < l.length
      · obtain ⟨b, o, rfl, hb, hc⟩ : ∃ b o, a = some ⟨b, o, none⟩ ∧ b < w.heap.size ∧ EnAt w b o l := by
          rcases HC.out with h | h
          · subst h; simp at hlt
          · exact h
        obtain ⟨c0', rv, c1', hrow⟩ := hc i hlt
        have c0 := (Below.cell hfr hb).trans c0'
        have c1 := (Below.cell hfr hb).trans c1'
        have hprev : ∀ j, i = j + 1 → ∃ p, wr.cell? ⟨b, o + j * 2, none⟩ = some (.int .i64 p) ∧ LF.lst 0 (l.take i) = p := fun j hj => by
          subst hj
          obtain ⟨p0, _⟩ := hc j (by omega)
          refine ⟨_, (Below.cell hfr hb).trans p0, ?_⟩
          rw [List.take_succ_eq_append_getElem (by omega), LF.lst_snoc]
        have hzero : i = 0 → LF.lst 0 (l.take i) = 0 := fun h => by subst h; rfl
        have hwd := HB.out l[i] (List.getElem_mem hlt)
        have htk : l.take (i + 1) = l.take i ++ [l[i]] := List.take_succ_eq_append_getElem hlt
        have hdr : l.drop i = l[i] :: l.drop (i + 1) := List.drop_eq_getElem_cons hlt
        rw [hdr] at hall
        have hck := fun W (f : Fr w W) => refCheckRow_any rv l[i].2 W (hrow.fr f) hwd.2
        generalize l[i] = x at *
        obtain ⟨id, r⟩ := x
        simp only at c0 c1 hrow hwd hck
        have HROW := hideP hrow
        obtain ⟨ar, capr, rfl, _⟩ := hrow
        have hlt' : (i : Int) < (l.length : Int) := by omega
        have hck' := hck wr.drew (Fr.drew hfr)
        generalize hlast : LF.lst 0 (l.take i) = last at *
        have HTK : Hid (LF.lst 0 (l.take (i + 1)) = id) := by unfold Hid; rw [htk, LF.lst_snoc]
        have HALL := hideP hall
        clear c0' c1' hwd htk hdr hc hfr hlast hall hck
        by_cases h1 : id < 1
        · have HX : Hid (R = 3) := by unfold Hid; rw [← HR.out, HALL.out]; exact chkE_bad (one_three h1) (by decide)
          go_wp2_with fail
          go_ret
          refine ⟨ret_int ?_, HFR.out⟩
          rw [HX.out]
          rfl
        · have h1' : 1 ≤ id := by omega
          have hcr : last < id → (∀ c : Nat, VM.chkRow r = c → c ≠ 0 → R = c) ∧ (VM.chkRow r = 0 → LF.chkE 0 l = LF.chkE id (l.drop (i + 1))) := fun h2 => by
            refine ⟨fun c hc hne => ?_, fun hc => ?_⟩
            · rw [← HR.out, HALL.out]
              exact chkE_bad ((one_row (e := (id, r)) h1' h2).trans hc) hne
            · rw [HALL.out]
              exact chkE_go ((one_row (e := (id, r)) h1' h2).trans hc)
          have HCR := hideP hcr
          have HCA := hideP hck'
          clear h1 hcr hck'
          by_cases hz : i = 0
          · have hl0 : last < id := by have := hzero hz; omega
            have hip : (0 < (i : Int)) = False := by simp; omega
            have hip2 : (0 < i) = False := by simp; omega
            obtain ⟨hR1, hR2⟩ := HCR.out hl0
            have HR1 := hideP hR1
            have HR2 := hideP hR2
            clear hR1 hR2 hzero hprev HALL HCR hz
            go_wp2_with fail
            first
              | go_region
              | fail
            all_goals
              go_wp2_with fail
              refine HCA.out.mono ?_
              rintro _ w2 ⟨rfl, f2⟩
              have F2 := hideP (Fr.trans (Fr.drew HFR.out) f2)
              clear f2
              by_cases hc0 : VM.chkRow r = 0
              · have HD := hideP (HR2.out hc0)
                rw [hc0]
                go_wp2_with fail
                go_roundw
                case rel => exact ⟨i + 1, by go_num, by omega, by rw [HTK.out]; exact HD.out, F2.out⟩
                case measure => simp [intOf]; omega
              · have HD := hideP (HR1.out _ rfl hc0)
                generalize VM.chkRow r = c at *
                have q1 : ((c : Int) != 0) = true := by simp; omega
                have q2 : ¬ ((c : Int) = 0) := by omega
                go_wp2_with fail
                go_ret
                refine ⟨ret_int ?_, F2.out⟩
                rw [HD.out]
          · obtain ⟨j, hj⟩ : ∃ j, i = j + 1 := ⟨i - 1, by omega⟩
            obtain ⟨p, hp, hlp⟩ := hprev j hj
            subst hlp
            have hip : (0 : Int) < (i : Int) := by omega
            have hip2 : 0 < i := by omega
            have hjI : (i : Int) - 1 = (j : Int) := by omega
            have hjl : (j : Int) < (l.length : Int) := by omega
            have HJ := hideP hj
            have hjn : j < l.length := by omega
            clear hprev hzero hz hj
            by_cases h2 : id ≤ last
            · have HX : Hid (R = 4) := by unfold Hid; rw [← HR.out, HALL.out]; exact chkE_bad (one_four (e := (id, r)) h1' h2) (by decide)
              go_wp2_with fail
              first
                | go_region
                | fail
              all_goals
                go_wp2_with fail
                go_ret
                refine ⟨ret_int ?_, Fr.drew HFR.out⟩
                rw [HX.out]
                rfl
            · have h2' : last < id := by omega
              obtain ⟨hR1, hR2⟩ := HCR.out h2'
              have HR1 := hideP hR1
              have HR2 := hideP hR2
              clear hR1 hR2 HALL HCR h2
              go_wp2_with fail
              first
                | go_region
                | fail
              all_goals
                go_wp2_with fail
                refine HCA.out.mono ?_
                rintro _ w2 ⟨rfl, f2⟩
                have F2 := hideP (Fr.trans (Fr.drew HFR.out) f2)
                clear f2
                by_cases hc0 : VM.chkRow r = 0
                · have HD := hideP (HR2.out hc0)
                  rw [hc0]
                  go_wp2_with fail
                  go_roundw
                  case rel => exact ⟨i + 1, by go_num, by omega, by rw [HTK.out]; exact HD.out, F2.out⟩
                  case measure => simp [intOf]; omega
                · have HD := hideP (HR1.out _ rfl hc0)
                  generalize VM.chkRow r = c at *
                  have q1 : ((c : Int) != 0) = true := by simp; omega
                  have q2 : ¬ ((c : Int) = 0) := by omega
                  go_wp2_with fail
                  go_ret
                  refine ⟨ret_int ?_, F2.out⟩
                  rw [HD.out]
      · obtain rfl : i = l.length := by omega
        rw [List.drop_of_length_le (Nat.le_refl _)] at hall
        have HX : Hid (R = 0) := by unfold Hid; rw [← HR.out, hall]; rfl
        clear hall hfr
        go_wp2_with fail
        go_ret
        refine ⟨ret_int ?_, HFR.out⟩
        rw [HX.out]
        rfl
end Go.Proofs.Ythpcdhnaibpjnaa
