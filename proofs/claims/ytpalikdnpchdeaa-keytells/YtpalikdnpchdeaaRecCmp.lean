/-
  What Compare of package record answers, for every two rows.
-/
import Derived.Test.YtpalikdnpchdeaaOrd
namespace Go.Proofs.Ytpalikdnpchdeaa
open Go.ChangeShapes Go.WideShapes Go.ChangeAt Go.RowKit
set_option linter.unusedVariables false
set_option linter.unusedSimpArgs false

theorem rows_step {l m : List VM.Vl} {i : Nat} (h1 : i < l.length) (h2 : i < m.length) : CM.rows (l.drop i) (m.drop i) = if CM.cmp l[i] m[i] ≠ 0 then CM.cmp l[i] m[i] else CM.rows (l.drop (i + 1)) (m.drop (i + 1)) := by
  rw [List.drop_eq_getElem_cons h1, List.drop_eq_getElem_cons h2]
  rfl
theorem rows_long {l m : List VM.Vl} {i : Nat} (h1 : i < l.length) (h2 : m.length ≤ i) : CM.rows (l.drop i) (m.drop i) = 1 := by
  rw [List.drop_eq_getElem_cons h1, List.drop_of_length_le h2]
  rfl
theorem rows_short {l m : List VM.Vl} {i : Nat} (h1 : l.length ≤ i) (h2 : i < m.length) : CM.rows (l.drop i) (m.drop i) = -1 := by
  rw [List.drop_of_length_le h1, List.drop_eq_getElem_cons h2]
  rfl
theorem rows_even {l m : List VM.Vl} {i : Nat} (h1 : l.length ≤ i) (h2 : m.length ≤ i) : CM.rows (l.drop i) (m.drop i) = 0 := by
  rw [List.drop_of_length_le h1, List.drop_of_length_le h2]
  rfl

set_option maxRecDepth 100000 in
set_option maxHeartbeats 2000000 in
theorem compareFunc_any (v u : Value) (l m : List VM.Vl) (w : World) (hv : IsRow w v l) (hu : IsRow w u m) (hl : l.length ≤ 8) (hm : m.length ≤ 8) :
    Calls Try.prog 41 #[v, u, .func (.func 42) #[] #[]] w fun e w' => e = .returned (.int .i64 (CM.rows l m)) ∧ Fr w w' := by
  obtain ⟨a, cap, rfl, hcs⟩ := hv
  obtain ⟨a2, cap2, rfl, hcs2⟩ := hu
  have HC : Hid _ := hcs
  have HC2 : Hid _ := hcs2
  clear hcs hcs2
  go_enter Try.func41, Try.ntmps41
  go_wp2_with fail
  go_loopw [13] (fun iv wr => ∃ i : Nat, iv = .int .i64 i ∧ i ≤ l.length ∧ i ≤ m.length ∧ CM.rows l m = CM.rows (l.drop i) (m.drop i) ∧ Fr w wr) (fun iv _ => l.length - (intOf iv).toNat)
  case atStart => exact ⟨0, rfl, by omega, by omega, rfl, Fr.refl _⟩
  case round =>
    obtain ⟨i, rfl, hi, hi2, hr, hfr⟩ := hrel
    by_cases hlt : i < l.length
    · obtain ⟨b, o, rfl, hb, hc⟩ : ∃ b o, a = some ⟨b, o, none⟩ ∧ b < w.heap.size ∧ CellsAt w b o l := by
        rcases HC.out with h | h
        · subst h; simp at hlt
        · exact h
      obtain ⟨c0, c1, c2⟩ := (hc.fr hb hfr) i hlt
      by_cases hlt2 : i < m.length
      · obtain ⟨b2, o2, rfl, hb2, hc2⟩ : ∃ b o, a2 = some ⟨b, o, none⟩ ∧ b < w.heap.size ∧ CellsAt w b o m := by
          rcases HC2.out with h | h
          · subst h; simp at hlt2
          · exact h
        have hge : w.heap.size ≤ wr.heap.size := hfr.size
        have hca : ∀ o : Obj, CellsAt (wr.alloc o) b2 o2 m := fun o => (hc2.fr hb2 (hfr.alloc o))
        rw [rows_step hlt hlt2] at hr
        have hclo := fun W => cmpClo_any l[i] m[i] W
        generalize hx : l[i] = x at c0 c1 c2 hclo hr
        have hmi := fun o => (hca o) i hlt2
        generalize hy : m[i] = y at hmi hclo hr
        obtain ⟨xk, xn, xs⟩ := x
        obtain ⟨yk, yn, ys⟩ := y
        unfold VM.Vl.val at hclo
        simp only at c0 c1 c2 hclo hmi
        obtain ⟨d0, d1, d2⟩ := hmi (.cells #[.int .i64 xk, .int .i64 xn, .string xs] 52)
        generalize CM.cmp ⟨xk, xn, xs⟩ ⟨yk, yn, ys⟩ = z at *
        have HR : Hid _ := hr
        have HF : Hid _ := (Fr.alloc (Fr.alloc hfr (.cells #[.int .i64 xk, .int .i64 xn, .string xs] 52)) (.cells #[.int .i64 yk, .int .i64 yn, .string ys] 52))
        have hlt' : (i : Int) < (m.length : Int) := by omega
        clear hr hfr hc hc2 hx hy hmi hca
        go_wp2_with (go_at_call 42; refine (hclo _).mono ?_)
        rintro e w1 ⟨rfl, hf1⟩
        have HF1 : Hid _ := Fr.trans HF.out hf1
        clear hf1 HF hclo c0 c1 c2 d0 d1 d2
        by_cases hz : z = 0
        · subst hz
          have HR1 : Hid _ := HR.out.trans (if_neg (by simp))
          clear HR
          go_wp2_with fail
          go_roundw
          case rel => exact ⟨i + 1, by go_num, by omega, by omega, HR1.out, HF1.out⟩
          case measure => simp [intOf]; omega
        · have q : (z != 0) = true := by simp [hz]
          have HR1 : Hid _ := HR.out.trans (if_pos hz)
          clear HR
          go_wp2_with fail
          go_ret
          rw [HR1.out]
          exact ⟨rfl, HF1.out⟩
      · have HR : Hid _ := hr.trans (rows_long hlt (by omega))
        have hlt' : (m.length : Int) ≤ (i : Int) := by omega
        generalize l[i] = x at c0 c1 c2
        obtain ⟨xk, xn, xs⟩ := x
        simp only at c0 c1 c2
        clear hr hc
        go_wp2_with fail
        go_ret
        rw [HR.out]
        exact ⟨rfl, hfr.alloc _⟩
    · obtain rfl : i = l.length := by omega
      by_cases hlt2 : l.length < m.length
      · have HR : Hid _ := hr.trans (rows_short (by omega) hlt2)
        have hlt' : (l.length : Int) < (m.length : Int) := by omega
        clear hr
        go_wp2_with fail
        go_ret
        rw [HR.out]
        exact ⟨rfl, hfr⟩
      · have HR : Hid _ := hr.trans (rows_even (by omega) (by omega))
        have hlt' : ¬ (l.length : Int) < (m.length : Int) := by omega
        clear hr
        go_wp2_with fail
        go_ret
        rw [HR.out]
        exact ⟨rfl, hfr⟩

set_option maxRecDepth 100000 in
set_option maxHeartbeats 1000000 in
theorem recCompare_any (v u : Value) (l m : List VM.Vl) (w : World) (hv : IsRow w v l) (hu : IsRow w u m) (hl : l.length ≤ 9223372036854775807) (hm : m.length ≤ 9223372036854775807) :
    Calls Try.prog 18 #[v, u] w fun e w' =>
      e = .returned (.tuple #[.int .i64 (if VM.chkRow l = 0 ∧ VM.chkRow m = 0 then CM.rows l m else 0), .int .i64 ((if VM.chkRow l = 0 then VM.chkRow m else VM.chkRow l : Nat) : Int)]) ∧ Fr w w' := by
  have h1 := checkRow_any v l w hv hl
  have h2 := fun W hf => checkRow_any u m W (hu.fr hf) hm
  by_cases hc : VM.chkRow l = 0
  · rw [hc] at h1
    by_cases hd : VM.chkRow m = 0
    · rw [hd] at h2
      rw [if_pos ⟨hc, hd⟩, if_pos hc, hd]
      have hcf := fun W hf => compareFunc_any v u l m W (hv.fr hf) (hu.fr hf) (WM.chkRow_ok hc).1 (WM.chkRow_ok hd).1
      clear hv hu
      go_enter Try.func18, Try.ntmps18
      go_wp2_with (go_at_call 24; refine h1.mono ?_)
      rintro e w1 ⟨rfl, hf1⟩
      have h2' := h2 w1 hf1
      have HF1 : Hid _ := hf1
      clear h1 h2 hf1
      go_wp2_with (go_at_call 24; refine h2'.mono ?_)
      rintro e w2 ⟨rfl, hf2⟩
      have hf3 : Fr w w2 := Fr.trans HF1.out hf2
      have hcf' := hcf w2 hf3
      have HF3 : Hid _ := hf3
      clear hf2 hf3 h2' hcf
      go_wp2_with (go_at_call 41; refine hcf'.mono ?_)
      rintro e w3 ⟨rfl, hf4⟩
      have HF4 : Hid _ := Fr.trans HF3.out hf4
      clear hf4 hcf'
      go_wp2_with fail
      go_ret2
      exact ⟨rfl, HF4.out⟩
    · rw [if_neg (fun h => hd h.2), if_pos hc]
      clear hv hu
      generalize VM.chkRow m = c at *
      have q1 : ((c : Int) != 0) = true := by simp; omega
      have q2 : ¬ ((c : Int) = 0) := by omega
      go_enter Try.func18, Try.ntmps18
      go_wp2_with (go_at_call 24; refine h1.mono ?_)
      rintro e w1 ⟨rfl, hf1⟩
      have h2' := h2 w1 hf1
      have HF1 : Hid _ := hf1
      clear h1 h2 hf1
      go_wp2_with (go_at_call 24; refine h2'.mono ?_)
      rintro e w2 ⟨rfl, hf2⟩
      have HF3 : Hid _ := Fr.trans HF1.out hf2
      clear hf2 h2'
      go_wp2_with fail
      go_ret2
      exact ⟨rfl, HF3.out⟩
  · rw [if_neg (fun h => hc h.1), if_neg hc]
    clear hv hu h2
    generalize VM.chkRow l = c at *
    have q1 : ((c : Int) != 0) = true := by simp; omega
    have q2 : ¬ ((c : Int) = 0) := by omega
    go_enter Try.func18, Try.ntmps18
    go_wp2_with (go_at_call 24; refine h1.mono ?_)
    rintro e w1 ⟨rfl, hf1⟩
    go_wp2_with fail
    go_ret2
    exact ⟨rfl, hf1⟩
end Go.Proofs.Ytpalikdnpchdeaa
