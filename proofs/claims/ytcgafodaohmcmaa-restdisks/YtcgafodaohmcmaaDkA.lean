/-
  What Check of package disk answers, for every disk.
-/
import Derived.Test.YtcgafodaohmcmaaDkP
namespace Go.Proofs.Ytcgafodaohmcmaa
open Go.ChangeShapes Go.WideShapes Go.ChangeAt Go.RowKit
set_option linter.unusedVariables false
set_option linter.unusedSimpArgs false
set_option maxRecDepth 100000

namespace JN
def long (p : B) : Bool := decide (260 < p.size)
def pchk (l : List B) : Nat := if 32 < l.length then 2 else if l.any long then 2 else if blankEnd l then 1 else 0
def w1 (no : Int) (t : B) : Nat := if no < 0 ∨ 31 < no then 3 else if 260 < t.size then 2 else 0
theorem wchk_cons (w : W) (l : List W) : wchk (w :: l) = if w1 w.no w.t = 0 then wchk l else w1 w.no w.t := by
  rw [wchk, w1]
  by_cases h : w.no < 0 ∨ 31 < w.no
  · simp [h]
  · by_cases h2 : 260 < w.t.size <;> simp [h, h2]
theorem dchk_eq (d : D) : dchk d = if pchk d.pg = 0 then (if 48 < d.wt.length then 2 else wchk d.wt) else pchk d.pg := by
  unfold dchk pchk
  have : d.pg.any (fun p => decide (260 < p.size)) = d.pg.any long := rfl
  rw [this]
  by_cases h1 : 32 < d.pg.length
  · simp [h1]
  · by_cases h2 : d.pg.any long = true
    · simp [h1, h2]
    · by_cases h3 : blankEnd d.pg = true <;> simp [h1, h2, h3]
theorem blank_last (l : List B) (h : 0 < l.length) : blankEnd l = ((l[l.length - 1]).size == 0) := by
  unfold blankEnd
  rw [List.getLast?_eq_getElem?, List.getElem?_eq_getElem (by omega)]
theorem any_drop {l : List B} {i : Nat} (hi : i < l.length) : (l.drop i).any long = (long l[i] || (l.drop (i + 1)).any long) := by
  rw [List.drop_eq_getElem_cons hi, List.any_cons]
end JN

theorem emp_is (x : ByteArray) : x.toList.isEmpty = (x.size == 0) := by
  rw [ByteArray.toList_eq]
  have hl : x.data.toList.length = x.size := by rw [Array.length_toList]; rfl
  rw [← hl]
  cases x.data.toList <;> rfl
set_option maxHeartbeats 400000 in
theorem isLong_any (s : ByteArray) (w : World) : Calls Try.prog 22 #[.string s] w fun e w' => e = .returned (.bool (JN.long s)) ∧ w' = w := by
  go_enter Try.func22, Try.ntmps22
  go_wp2
  go_ret
  exact ⟨ret_bool (by unfold JN.long; simp; omega), rfl⟩
def plc (no : Int) : Bool := decide (0 ≤ no ∧ no < 32)
set_option maxHeartbeats 400000 in
theorem isPlace_any (no : Int) (w : World) : Calls Try.prog 21 #[.int .i64 no] w fun e w' => e = .returned (.bool (plc no)) ∧ w' = w := by
  by_cases h0 : 0 ≤ no
  · by_cases h1 : no < 32
    all_goals
      go_enter Try.func21, Try.ntmps21
      go_wp2
      go_ret
      exact ⟨ret_bool (by unfold plc; simp [h0, h1]), rfl⟩
  · go_enter Try.func21, Try.ntmps21
    go_wp2
    go_ret
    exact ⟨ret_bool (by unfold plc; simp; omega), rfl⟩
set_option maxHeartbeats 400000 in
theorem checkWrite_any (no : Int) (s : ByteArray) (w : World) : Calls Try.prog 11 #[.int .i64 no, .string s] w fun e w' => e = .returned (.int .i64 (JN.w1 no s)) ∧ w' = w := by
  by_cases h0 : no < 0 ∨ 31 < no
  · have hp : plc no = false := by unfold plc; simp; omega
    have c1 := isPlace_any no w
    rw [hp] at c1
    go_enter Try.func11, Try.ntmps11
    go_wp2_with fail
    refine c1.mono ?_
    rintro _ w1 ⟨rfl, rfl⟩
    go_wp2
    go_ret
    exact ⟨ret_int (by rw [JN.w1, if_pos h0]; rfl), rfl⟩
  · have hp : plc no = true := by unfold plc; simp; omega
    have c1 := isPlace_any no w
    rw [hp] at c1
    by_cases h1 : 260 < s.size
    · have hl : JN.long s = true := by unfold JN.long; simp [h1]
      have c2 := isLong_any s w
      rw [hl] at c2
      clear hl
      go_enter Try.func11, Try.ntmps11
      go_wp2_with fail
      refine c1.mono ?_
      rintro _ w1 ⟨rfl, rfl⟩
      go_wp2_with fail
      refine c2.mono ?_
      rintro _ w1 ⟨rfl, rfl⟩
      go_wp2
      go_ret
      exact ⟨ret_int (by rw [JN.w1, if_neg h0, if_pos h1]; rfl), rfl⟩
    · have hl : JN.long s = false := by unfold JN.long; simp; omega
      have c2 := isLong_any s w
      rw [hl] at c2
      clear hl
      go_enter Try.func11, Try.ntmps11
      go_wp2_with fail
      refine c1.mono ?_
      rintro _ w1 ⟨rfl, rfl⟩
      go_wp2_with fail
      refine c2.mono ?_
      rintro _ w1 ⟨rfl, rfl⟩
      go_wp2
      go_ret
      exact ⟨ret_int (by rw [JN.w1, if_neg h0, if_neg h1]; rfl), rfl⟩

set_option maxHeartbeats 1000000 in
theorem indexFunc_any (v : Value) (l : List JN.B) (w : World) (hr : IsL cdP w v l) (hbig : l.length ≤ 9223372036854775806) :
    Calls Try.prog 27 #[v, .func (.func 22) #[] #[]] w fun e w' => (∃ r : Int, e = .returned (.int .i64 r) ∧ decide (0 ≤ r) = l.any JN.long) ∧ w' = w := by
  obtain ⟨a, cap, rfl, hcap, hcs⟩ := hr
  have HC : Hid _ := hideP hcs
  clear hcs
  go_enter Try.func27, Try.ntmps27
  go_wp2_with fail
  go_loop [5, 8] (fun _ iv => ∃ i : Nat, iv = .int .i64 i ∧ i ≤ l.length ∧ l.any JN.long = (l.drop i).any JN.long) (fun _ iv => l.length - (intOf iv).toNat)
  case atStart => exact ⟨0, rfl, Nat.zero_le _, rfl⟩
  case round =>
    obtain ⟨i, rfl, hi, hall⟩ := hrel
    by_cases hlt : i < l.length
    · obtain ⟨b, o, rfl, hb, hc⟩ : ∃ b o, a = some ⟨b, o, none⟩ ∧ b < w.heap.size ∧ At cdP w b o l := by
        rcases HC.out with h | h
        · subst h; simp at hlt
        · exact h
      have c0 := hc.pg i hlt
      have HA : Hid (l.any JN.long = (JN.long l[i] || (l.drop (i + 1)).any JN.long)) := hall.trans (JN.any_drop hlt)
      clear hall hc
      have hchk := isLong_any l[i] w
      generalize l[i] = x at c0 hchk HA
      generalize hy : JN.long x = y at hchk HA
      clear hy
      go_wp2_with fail
      refine hchk.mono ?_
      rintro _ w1 ⟨rfl, rfl⟩
      cases y with
      | true =>
        go_wp2_with fail
        go_ret
        exact ⟨⟨_, rfl, by rw [HA.out]; simp⟩, rfl⟩
      | false =>
        go_wp2_with fail
        go_round
        case rel => exact ⟨i + 1, by go_num, by omega, by rw [HA.out]; simp⟩
        case measure => simp [intOf]; omega
    · have HN : Hid (l.any JN.long = false) := by
        unfold Hid
        rw [hall, List.drop_of_length_le (by omega)]
        rfl
      clear hall
      go_wp2_with fail
      go_ret
      exact ⟨⟨_, rfl, by rw [HN.out]; decide⟩, rfl⟩
set_option maxHeartbeats 1000000 in
theorem containsFunc_any (v : Value) (l : List JN.B) (w : World) (hr : IsL cdP w v l) (hbig : l.length ≤ 9223372036854775806) :
    Calls Try.prog 25 #[v, .func (.func 22) #[] #[]] w fun e w' => e = .returned (.bool (l.any JN.long)) ∧ w' = w := by
  have c := indexFunc_any v l w hr hbig
  clear hr
  go_enter Try.func25, Try.ntmps25
  go_wp2_with fail
  refine c.mono ?_
  rintro _ w1 ⟨⟨r, rfl, hd⟩, rfl⟩
  have HD : Hid _ := hideP hd
  clear hd
  go_wp2_with fail
  go_ret
  exact ⟨ret_bool (by rw [← HD.out]), rfl⟩

set_option maxHeartbeats 1000000 in
theorem checkPages_any (v : Value) (l : List JN.B) (w : World) (hr : IsL cdP w v l) (hbig : l.length ≤ 9223372036854775806) :
    Calls Try.prog 20 #[v] w fun e w' => e = .returned (.int .i64 (JN.pchk l)) ∧ w' = w := by
  have c := containsFunc_any v l w hr hbig
  obtain ⟨a, cap, rfl, hcap, hcs⟩ := hr
  have HC : Hid _ := hideP hcs
  clear hcs
  by_cases h1 : 32 < l.length
  · have h1' : (32 : Int) < (l.length : Int) := by omega
    clear c
    go_enter Try.func20, Try.ntmps20
    go_wp2_with fail
    go_ret
    exact ⟨ret_int (by rw [JN.pchk, if_pos h1]; rfl), rfl⟩
  · have h1' : ¬ (32 : Int) < (l.length : Int) := by omega
    have HP : Hid (JN.pchk l = if l.any JN.long then 2 else if JN.blankEnd l then 1 else 0) := by unfold Hid; rw [JN.pchk, if_neg h1]
    generalize hy : l.any JN.long = y at c HP
    clear hy
    go_enter Try.func20, Try.ntmps20
    go_wp2_with fail
    refine c.mono ?_
    rintro _ w1 ⟨rfl, rfl⟩
    cases y with
    | true =>
      go_wp2_with fail
      go_ret
      exact ⟨ret_int (by rw [HP.out]; rfl), rfl⟩
    | false =>
      by_cases h0 : l = []
      · subst h0
        go_wp2_with fail
        go_ret
        exact ⟨ret_int (by rw [HP.out]; rfl), rfl⟩
      · obtain ⟨b, o, rfl, hb, hc⟩ : ∃ b o, a = some ⟨b, o, none⟩ ∧ b < w1.heap.size ∧ At cdP w1 b o l := by
          rcases HC.out with h | h
          · exact absurd h h0
          · exact h
        have hpos : 0 < l.length := List.length_pos_iff.2 h0
        have hpos' : (0 : Int) < (l.length : Int) := by omega
        have c0 := hc.pg (l.length - 1) (by omega)
        have HB : Hid _ := hideP (JN.blank_last l hpos)
        generalize l[l.length - 1] = x at c0 HB
        obtain ⟨n, hn⟩ : ∃ n, l.length = n + 1 := ⟨l.length - 1, by omega⟩
        rw [hn] at c0 h1' hpos'
        simp only [Nat.add_sub_cancel] at c0
        rw [hn]
        clear hc HC hn hcap
        by_cases hx : x.size = 0
        · have ex : x = ⟨#[]⟩ := JN.size0 hx
          subst ex
          go_wp2_with fail
          go_ret
          exact ⟨ret_int (by rw [HP.out, HB.out]; rfl), rfl⟩
        · have ex : (ByteArray.toList x).isEmpty = false := by rw [emp_is]; simpa using hx
          go_wp2_with fail
          go_ret
          exact ⟨ret_int (by rw [HP.out, HB.out]; simp [hx]), rfl⟩

set_option maxHeartbeats 1000000 in
theorem check_any (p q : Value) (d : JN.D) (w : World) (hr : IsD w p q d) (hb1 : d.pg.length ≤ 9223372036854775806) :
    Calls Try.prog 10 #[.agg #[p, q]] w fun e w' => e = .returned (.int .i64 (JN.dchk d)) ∧ Fr w w' := by
  obtain ⟨pg, wt⟩ := d
  obtain ⟨hp, hq⟩ := hr
  simp only at hp hq hb1
  have c := fun W (f : Fr w W) => checkPages_any p pg W (hp.fr f) hb1
  clear hp
  obtain ⟨a, cap, rfl, hcap, hcs⟩ := hq
  have HC : Hid _ := hideP hcs
  clear hcs
  have HD : Hid _ := hideP (JN.dchk_eq ⟨pg, wt⟩)
  simp only at HD
  generalize hz : JN.dchk ⟨pg, wt⟩ = z at HD
  clear hz
  generalize hy : JN.pchk pg = y at c HD
  clear hy
  by_cases h0 : y = 0
  · subst h0
    by_cases h1 : 48 < wt.length
    · have h1' : (48 : Int) < (wt.length : Int) := by omega
      go_enter Try.func10, Try.ntmps10
      go_wp2_with fail
      refine (c _ ((Fr.refl w).alloc _)).mono ?_
      rintro _ w1 ⟨rfl, rfl⟩
      go_wp2_with fail
      go_ret
      exact ⟨ret_int (by rw [HD.out, if_pos trivial, if_pos h1]; rfl), (Fr.refl w).alloc _⟩
    · have h1' : ¬ (48 : Int) < (wt.length : Int) := by omega
      go_enter Try.func10, Try.ntmps10
      go_wp2_with fail
      refine (c _ ((Fr.refl w).alloc _)).mono ?_
      rintro _ w1 ⟨rfl, rfl⟩
      go_wp2_with fail
      go_loopw [5, 6, 20] (fun _ _ iv wr => ∃ i : Nat, iv = .int .i64 i ∧ i ≤ wt.length ∧ JN.wchk wt = JN.wchk (wt.drop i) ∧ Fr w wr) (fun _ _ iv _ => wt.length - (intOf iv).toNat)
      case atStart => exact ⟨0, rfl, Nat.zero_le _, rfl, (Fr.refl w).alloc _⟩
      case round =>
        obtain ⟨i, rfl, hi, hall, hfr⟩ := hrel
        by_cases hlt : i < wt.length
        · obtain ⟨b, o, rfl, hb, hc⟩ : ∃ b o, a = some ⟨b, o, none⟩ ∧ b < w.heap.size ∧ At cdW w b o wt := by
            rcases HC.out with h | h
            · subst h; simp at hlt
            · exact h
          obtain ⟨c0, c1⟩ := (hc.fr hb hfr).wr i hlt
          have HA : Hid (JN.wchk wt = if JN.w1 wt[i].no wt[i].t = 0 then JN.wchk (wt.drop (i + 1)) else JN.w1 wt[i].no wt[i].t) := by
            unfold Hid
            rw [hall, List.drop_eq_getElem_cons hlt, JN.wchk_cons]
          have HF : Hid _ := hideP hfr
          clear hall hfr hc
          have hchk := fun W => checkWrite_any wt[i].no wt[i].t W
          generalize wt[i].no = x1 at c0 hchk HA
          generalize wt[i].t = x2 at c1 hchk HA
          generalize hu : JN.w1 x1 x2 = u at hchk HA
          clear hu
          go_wp2_with fail
          refine (hchk _).mono ?_
          rintro _ w2 ⟨rfl, rfl⟩
          have hf2 := HF.out.alloc (.cells #[.int .i64 x1, .string x2] 27)
          by_cases hu : u = 0
          · subst hu
            go_wp2_with fail
            go_roundw
            case rel => exact ⟨i + 1, by go_num, by omega, by rw [HA.out]; rfl, hf2⟩
            case measure => simp [intOf]; omega
          · have hne : ((u : Int) != 0) = true := by simp; omega
            have hne2 : ¬ ((u : Int) = 0) := by omega
            go_wp2_with fail
            go_ret
            exact ⟨ret_int (by rw [HD.out, if_pos trivial, if_neg h1, HA.out, if_neg hu]), hf2⟩
        · have HN : Hid (JN.wchk wt = 0) := by
            unfold Hid
            rw [hall, List.drop_of_length_le (by omega)]
            rfl
          clear hall
          go_wp2_with fail
          go_ret
          exact ⟨ret_int (by rw [HD.out, if_pos trivial, if_neg h1, HN.out]; rfl), hfr⟩
  · have hne : ((y : Int) != 0) = true := by simp; omega
    have hne2 : ¬ ((y : Int) = 0) := by omega
    go_enter Try.func10, Try.ntmps10
    go_wp2_with fail
    refine (c _ ((Fr.refl w).alloc _)).mono ?_
    rintro _ w1 ⟨rfl, rfl⟩
    go_wp2_with fail
    go_ret
    exact ⟨ret_int (by rw [HD.out, if_neg h0]), (Fr.refl w).alloc _⟩
end Go.Proofs.Ytcgafodaohmcmaa
