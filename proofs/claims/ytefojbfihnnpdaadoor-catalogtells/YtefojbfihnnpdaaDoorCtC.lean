/-
  What isKind, checkTable and Check of package catalog answer.
-/
import Derived.Test.YtefojbfihnnpdaaDoorCdK
import Derived.Test.YtefojbfihnnpdaaDoorCtM
namespace Go.Proofs.YtefojbfihnnpdaaDoor
open Go.ChangeShapes Go.WideShapes Go.ChangeAt Go.RowKit
set_option linter.unusedVariables false
set_option linter.unusedSimpArgs false
set_option maxRecDepth 100000
set_option maxHeartbeats 2000000

def cdC : Cd CT.Cl := ⟨4, fun c => [.string c.n, .int .i64 c.k, .bool c.nn, .bool c.u], by decide, fun _ => rfl, fun x u h => by simp at h; rcases h with rfl | rfl | rfl | rfl <;> rfl⟩
/-- where a slice lies, how long it is, and its room -/
abbrev Sl := Option Addr × Nat × Nat
def slV (s : Sl) : Value := .slice s.1 s.2.1 s.2.2
def cdS : Cd (CT.Sc × Sl) := ⟨3, fun p => [.int .i64 p.1.id, .string p.1.n, slV p.2], by decide, fun _ => rfl, fun x u h => by simp at h; rcases h with rfl | rfl | rfl <;> rfl⟩
theorem At.co {w : World} {b o : Nat} {l : List CT.Cl} (h : At cdC w b o l) (i : Nat) (hi : i < l.length) :
    w.cell? ⟨b, o + i * 4, none⟩ = some (.string l[i].n) ∧ w.cell? ⟨b, o + i * 4 + 1, none⟩ = some (.int .i64 l[i].k) ∧ w.cell? ⟨b, o + i * 4 + 2, none⟩ = some (.bool l[i].nn) ∧ w.cell? ⟨b, o + i * 4 + 3, none⟩ = some (.bool l[i].u) :=
  ⟨h (i * 4) _ (by have := flat_get cdC l i 0 hi (by decide); simpa [cdC] using this),
   h (i * 4 + 1) _ (by have := flat_get cdC l i 1 hi (by decide); simpa [cdC] using this),
   h (i * 4 + 2) _ (by have := flat_get cdC l i 2 hi (by decide); simpa [cdC] using this),
   h (i * 4 + 3) _ (by have := flat_get cdC l i 3 hi (by decide); simpa [cdC] using this)⟩
theorem At.sc {w : World} {b o : Nat} {l : List (CT.Sc × Sl)} (h : At cdS w b o l) (i : Nat) (hi : i < l.length) :
    w.cell? ⟨b, o + i * 3, none⟩ = some (.int .i64 l[i].1.id) ∧ w.cell? ⟨b, o + i * 3 + 1, none⟩ = some (.string l[i].1.n) ∧ w.cell? ⟨b, o + i * 3 + 2, none⟩ = some (slV l[i].2) :=
  ⟨h (i * 3) _ (by have := flat_get cdS l i 0 hi (by decide); simpa [cdS] using this),
   h (i * 3 + 1) _ (by have := flat_get cdS l i 1 hi (by decide); simpa [cdS] using this),
   h (i * 3 + 2) _ (by have := flat_get cdS l i 2 hi (by decide); simpa [cdS] using this)⟩
/-- a slice of tables' forms stands for a list -/
def IsSc (w : World) (v : Value) (l : List CT.Sc) : Prop := ∃ ps : List (CT.Sc × Sl), IsL cdS w v ps ∧ ps.map (·.1) = l ∧ ∀ p ∈ ps, IsL cdC w (slV p.2) p.1.c
theorem IsSc.fr {w w' : World} {v : Value} {l : List CT.Sc} (h : IsSc w v l) (f : Fr w w') : IsSc w' v l := by
  obtain ⟨ps, h1, h2, h3⟩ := h
  exact ⟨ps, h1.fr f, h2, fun p hp => (h3 p hp).fr f⟩
/-- names that fit into memory -/
def WC (l : List CT.Cl) : Prop := ∀ c ∈ l, c.n.size ≤ 140737488355327
def WS (l : List CT.Sc) : Prop := ∀ s ∈ l, s.n.size ≤ 140737488355327 ∧ WC s.c ∧ s.c.length ≤ 9223372036854775806
theorem isKind_any (k : Int) (w : World) : Calls Tryd.prog 48 #[.int .i64 k] w fun e w' => e = .returned (.bool (!decide (k < 0 ∨ 3 < k))) ∧ w' = w := by
  by_cases h1 : k < 0
  · have h1' : ¬ 0 ≤ k := by omega
    have h2 : (0 ≤ k) = False := by simp; omega
    have HE : Hid ((!decide (k < 0 ∨ 3 < k)) = false) := by unfold Hid; simp; omega
    generalize (!decide (k < 0 ∨ 3 < k)) = q at HE
    go_enter Tryd.func48, Tryd.ntmps48
    go_wp2_with fail
    go_ret
    exact ⟨by rw [HE.out]; rfl, by first | rfl | trivial⟩
  · by_cases h2 : 3 < k
    · have h3 : (k ≤ 3) = False := by simp; omega
      have h4 : 0 ≤ k := by omega
      have HE : Hid ((!decide (k < 0 ∨ 3 < k)) = false) := by unfold Hid; simp; omega
      generalize (!decide (k < 0 ∨ 3 < k)) = q at HE
      go_enter Tryd.func48, Tryd.ntmps48
      go_wp2_with fail
      go_ret
      exact ⟨by rw [HE.out]; rfl, by first | rfl | trivial⟩
    · have h3 : k ≤ 3 := by omega
      have h4 : 0 ≤ k := by omega
      have HE : Hid ((!decide (k < 0 ∨ 3 < k)) = true) := by unfold Hid; simp; omega
      generalize (!decide (k < 0 ∨ 3 < k)) = q at HE
      go_enter Tryd.func48, Tryd.ntmps48
      go_wp2_with fail
      go_ret
      exact ⟨by rw [HE.out]; rfl, by first | rfl | trivial⟩
theorem checkTable_any (id : Int) (n : ByteArray) (v : Value) (l : List CT.Cl) (w : World) (h : IsL cdC w v l) (hn : n.size ≤ 140737488355327) (hw : WC l) (hlen : l.length ≤ 9223372036854775806) :
    Calls Tryd.prog 34 #[.agg #[.int .i64 id, .string n, v]] w fun e w' => e = .returned (.int .i64 (CT.chkT n l)) ∧ Fr w w' := by
  obtain ⟨a, cap, rfl, hcap, hcs⟩ := h
  have cn := fun W => namesIs_any n W hn
  have HC := hideP hcs
  have HW := hideP hw
  obtain ⟨m, hm⟩ : ∃ m, l.length = m := ⟨_, rfl⟩
  have HM := hideP hm
  rw [hm] at hcap hlen ⊢
  have HB := hideP (Blk.new w #[.int .i64 id, .string n, .slice a m cap] 39)
  have HT : Hid (CT.chkT n l = if CT.nm n = false ∨ l = [] then 1 else if 6 < m then 2 else CT.chkC [] l) := by unfold Hid CT.chkT; rw [hm]
  have hcn : LX.nm n.data.toList = CT.nm n := rfl
  rw [hcn] at cn
  obtain ⟨z, hz⟩ : ∃ z, CT.chkT n l = z := ⟨_, rfl⟩
  rw [hz] at HT ⊢
  generalize CT.nm n = q at cn HT
  clear hcs hw hm hz hcn
  have hmm := @run_makeMap Tryd.prog
  cases q with
  | false =>
    go_enter Tryd.func34, Tryd.ntmps34
    go_wp2_with fail
    refine (cn _).mono ?_
    rintro _ w1 ⟨rfl, f1⟩
    go_wp2_with fail
    go_ret
    exact ⟨ret_int (by rw [HT.out, if_pos (.inl (by first | rfl | trivial))]; rfl), ((Fr.refl w).alloc _).trans f1⟩
  | true =>
    cases m with
    | zero =>
      have he : l = [] := List.length_eq_zero_iff.1 HM.out
      go_enter Tryd.func34, Tryd.ntmps34
      go_wp2_with fail
      refine (cn _).mono ?_
      rintro _ w1 ⟨rfl, f1⟩
      have k2 := (HB.out.fr f1).cell 2 rfl
      go_wp2_with fail
      go_ret
      exact ⟨ret_int (by rw [HT.out, if_pos (.inr he)]; rfl), ((Fr.refl w).alloc _).trans f1⟩
    | succ m =>
      have hne : ¬ l = [] := fun e => by have := HM.out; rw [e] at this; simp at this
      replace HT := hideP (HT.out.trans (if_neg (by simp [hne])))
      by_cases h6 : 6 < m + 1
      · have h6' : (6 : Int) < (m : Int) + 1 := by omega
        replace HT := hideP (HT.out.trans (if_pos h6))
        go_enter Tryd.func34, Tryd.ntmps34
        go_wp2_with fail
        refine (cn _).mono ?_
        rintro _ w1 ⟨rfl, f1⟩
        have k2 := (HB.out.fr f1).cell 2 rfl
        go_wp2_with fail
        go_ret
        exact ⟨ret_int (by rw [HT.out]; rfl), ((Fr.refl w).alloc _).trans f1⟩
      · have h6' : ¬ (6 : Int) < (m : Int) + 1 := by omega
        replace HT := hideP (HT.out.trans (if_neg h6))
        have hm0 : ¬ ((m : Int) + 1 = 0) := by omega
        have hm1 : (((m : Int) + 1) == 0) = false := by simp; omega
        go_enter Tryd.func34, Tryd.ntmps34
        go_wp2_with fail
        refine (cn _).mono ?_
        rintro _ w1 ⟨rfl, f1⟩
        have k2 := (HB.out.fr f1).cell 2 rfl
        have k3 := ((HB.out.fr f1).old (.map #[] 0)).cell 2 rfl
        have F1 : Hid (Fr w w1) := ((Fr.refl w).alloc _).trans f1
        have F2 : Hid (Fr w (w1.alloc (.map #[] 0))) := F1.out.alloc _
        have HS0 : Hid (Sn (w1.alloc (.map #[] 0)) w1.heap.size []) := Sn.made w1
        have hsz : w.heap.size ≤ w1.heap.size := F1.out.size
        clear f1
        go_wp2_with fail
        clear k2 k3 hmm
        go_loopw [5, 24] (fun _ iv wr => ∃ i : Nat, iv = .int .i64 i ∧ i ≤ m + 1 ∧ Fr w wr ∧ Sn wr w1.heap.size ((l.take i).map fun c => CT.bs c.n) ∧ z = CT.chkC ((l.take i).map fun c => CT.bs c.n) (l.drop i)) (fun _ iv _ => m + 1 - (intOf iv).toNat)
        case atStart => exact ⟨0, rfl, Nat.zero_le _, F2.out, HS0.out, HT.out⟩
        case round =>
          obtain ⟨i, rfl, hi, hfr, hsn, hall⟩ := hrel
          have HFr := hideP hfr
          have HSn := hideP hsn
          clear hfr hsn
          by_cases hlt : i < m + 1
          · have hlt2 : i < l.length := by rw [HM.out]; exact hlt
            have hlt' : (i : Int) < (m : Int) + 1 := by omega
            obtain ⟨b, o, rfl, hb, hc⟩ : ∃ b o, a = some ⟨b, o, none⟩ ∧ b < w.heap.size ∧ At cdC w b o l := by
              rcases HC.out with h | h
              · exact absurd h hne
              · exact h
            obtain ⟨c0, c1, c2, c3⟩ := (hc.fr hb HFr.out).co i hlt2
            have hwn := HW.out l[i] (List.getElem_mem hlt2)
            have htk : (l.take (i + 1)).map (fun c => CT.bs c.n) = (l.take i).map (fun c => CT.bs c.n) ++ [CT.bs l[i].n] := by
              rw [List.take_succ_eq_append_getElem hlt2, List.map_append]; rfl
            rw [List.drop_eq_getElem_cons hlt2, CT.chkC, ← htk] at hall
            have hll : ((l.take i).map fun c => CT.bs c.n).length ≤ 1000 := by rw [List.length_map, List.length_take]; omega
            have cnm := fun W => namesIs_any l[i].n W hwn
            have cad := fun W (hs : Sn W w1.heap.size ((l.take i).map fun c => CT.bs c.n)) => seenAdd_any w1.heap.size _ l[i].n W hs hll hwn
            rw [show l[i].n.data.toList = CT.bs l[i].n from rfl] at cad
            have hq : LX.nm l[i].n.data.toList = CT.nm l[i].n := rfl
            rw [hq] at cnm
            rw [← htk] at cad
            clear htk
            generalize ((l.take i).map fun c => CT.bs c.n) = seen at hall cad HSn
            generalize htk : ((l.take (i + 1)).map fun c => CT.bs c.n) = seen' at hall cad
            have HTk := hideP htk
            generalize l[i].k = x1 at c1 hall
            generalize l[i].nn = x2 at c2
            generalize l[i].u = x3 at c3
            have cik := fun W => isKind_any x1 W
            obtain ⟨qk, hqk⟩ : ∃ q, decide (x1 < 0 ∨ 3 < x1) = q := ⟨_, rfl⟩
            rw [hqk] at cik
            generalize CT.nm l[i].n = q at cnm hall
            obtain ⟨qs, hqs⟩ : ∃ q, decide (CT.bs l[i].n ∈ seen) = q := ⟨_, rfl⟩
            rw [hqs] at cad
            have ho1 : q = false → z = 1 := fun e => by rw [hall, if_pos e]
            have ho2 : q = true → qk = true → z = 7 := fun e e2 => by rw [hall, if_neg (by simp [e]), if_pos (by rw [e2] at hqk; exact of_decide_eq_true hqk)]
            have ho3 : q = true → qk = false → qs = true → z = 6 := fun e e2 e3 => by rw [hall, if_neg (by simp [e]), if_neg (by rw [e2] at hqk; exact of_decide_eq_false hqk), if_pos (by rw [e3] at hqs; exact of_decide_eq_true hqs)]
            have ho4 : q = true → qk = false → qs = false → z = CT.chkC seen' (l.drop (i + 1)) := fun e e2 e3 => by rw [hall, if_neg (by simp [e]), if_neg (by rw [e2] at hqk; exact of_decide_eq_false hqk), if_neg (by rw [e3] at hqs; exact of_decide_eq_false hqs)]
            have HO1 := hideP ho1
            have HO2 := hideP ho2
            have HO3 := hideP ho3
            have HO4 := hideP ho4
            generalize l[i].n = x0 at c0 cnm cad
            clear hall hqk hqs ho1 ho2 ho3 ho4 hc htk hq hwn hll
            have HBC := hideP (Blk.new wr #[.string x0, .int .i64 x1, .bool x2, .bool x3] 44)
            cases q with
            | false =>
              have HZ := hideP (HO1.out rfl)
              clear HO1 HO2 HO3 HO4
              go_wp2_with fail
              refine (cnm _).mono ?_
              rintro _ w3 ⟨rfl, f3⟩
              go_wp2_with fail
              go_ret
              exact ⟨ret_int (by rw [HZ.out]; rfl), (HFr.out.alloc _).trans f3⟩
            | true =>
              replace HO2 := hideP (HO2.out rfl)
              replace HO3 := hideP (HO3.out rfl)
              replace HO4 := hideP (HO4.out rfl)
              clear HO1
              go_wp2_with fail
              refine (cnm _).mono ?_
              rintro _ w3 ⟨rfl, f3⟩
              have HB3 := hideP (HBC.out.fr f3)
              have F3 : Hid (Fr w w3) := (HFr.out.alloc _).trans f3
              have HSn3 := hideP ((HSn.out.alloc _).fr f3)
              have d0 := HB3.out.cell 0 rfl
              have d1 := HB3.out.cell 1 rfl
              clear f3 c0 c1 c2 c3 HBC HSn
              cases qk with
              | true =>
                have HZ := hideP (HO2.out rfl)
                clear HO2 HO3 HO4
                go_wp2_with fail
                refine (cik _).mono ?_
                rintro _ w4 ⟨rfl, rfl⟩
                go_wp2_with fail
                go_ret
                exact ⟨ret_int (by rw [HZ.out]; rfl), F3.out⟩
              | false =>
                replace HO3 := hideP (HO3.out rfl)
                replace HO4 := hideP (HO4.out rfl)
                clear HO2
                go_wp2_with fail
                refine (cik _).mono ?_
                rintro _ w4 ⟨rfl, rfl⟩
                go_wp2_with fail
                refine (cad _ HSn3.out).mono ?_
                rintro _ w5 ⟨rfl, hs5, g5⟩
                have F5 : Hid (Fr w w5) := Below.grown F3.out g5 F3.out.size (fun j hj => by cases hj; exact hsz)
                have HS5 := hideP hs5
                clear hs5 g5
                cases qs with
                | true =>
                  have HZ := hideP (HO3.out rfl)
                  clear HO3 HO4
                  go_wp2_with fail
                  go_ret
                  exact ⟨ret_int (by rw [HZ.out]; rfl), F5.out⟩
                | false =>
                  have HZ := hideP (HO4.out rfl)
                  clear HO3 HO4
                  go_wp2_with fail
                  go_roundw
                  case rel => exact ⟨i + 1, by go_num, by omega, F5.out, by rw [HTk.out]; exact HS5.out, by rw [HTk.out]; exact HZ.out⟩
                  case measure => simp [intOf]; omega
          · have HZ : Hid (z = 0) := by unfold Hid; rw [hall, List.drop_of_length_le (by rw [HM.out]; omega)]; rfl
            have hlt' : ¬ (i : Int) < (m : Int) + 1 := by omega
            clear hall
            go_wp2_with fail
            go_ret
            exact ⟨ret_int (by rw [HZ.out]; rfl), HFr.out⟩
end Go.Proofs.YtefojbfihnnpdaaDoor
