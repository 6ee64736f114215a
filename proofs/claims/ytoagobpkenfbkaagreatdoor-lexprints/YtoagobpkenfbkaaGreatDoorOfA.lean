/-
  isDecimal, intOf, unquoted, textOf of package value.
-/
import Derived.Test.YtoagobpkenfbkaaGreatDoorSho
import Derived.Test.YtoagobpkenfbkaaGreatDoorOfM
namespace Go.Proofs.YtoagobpkenfbkaaGreatDoor
open Go.ChangeShapes Go.WideShapes Go.ChangeAt Go.RowKit Go.Shelf
set_option linter.unusedVariables false
set_option linter.unusedSimpArgs false

theorem dl_size (D : ByteArray) : D.data.toList.length = D.size := by rw [Array.length_toList]; rfl
theorem dl_mk (l : List UInt8) : (⟨l.toArray⟩ : ByteArray).data.toList = l := rfl
theorem dl_eq (D : ByteArray) : (⟨D.data.toList.toArray⟩ : ByteArray) = D := by cases D; simp
theorem trim_len (l p : List UInt8) : (Lib.trimPrefix l p).length ≤ l.length := by unfold Lib.trimPrefix; split <;> simp
theorem trimS_len (l p : List UInt8) : (Lib.trimSuffix l p).length ≤ l.length := by unfold Lib.trimSuffix; split <;> simp
theorem all_get (D : ByteArray) (h : ∀ j (h : j < D.size), VS.dig D[j] = true) : D.data.toList.all VS.dig = true := by
  rw [List.all_eq_true]
  intro x hx
  obtain ⟨j, hj, rfl⟩ := List.getElem_of_mem hx
  have hj2 : j < D.size := by rw [← dl_size]; exact hj
  have := h j hj2
  rw [Array.getElem_toList]
  exact this
theorem all_bad (D : ByteArray) (j : Nat) (h : j < D.size) (hb : VS.dig D[j] = false) : D.data.toList.all VS.dig = false := by
  rw [Bool.eq_false_iff]
  intro ha
  rw [List.all_eq_true] at ha
  have := ha D[j] (by
    have : D[j] = D.data.toList[j]'(by rw [dl_size]; exact h) := by rw [Array.getElem_toList]; rfl
    rw [this]
    exact List.getElem_mem _)
  rw [hb] at this
  cases this
theorem head_get (D : ByteArray) (h : 0 < D.size) : ∃ r, D.data.toList = D[0] :: r ∧ (r = [] ↔ D.size = 1) := by
  have hl := dl_size D
  cases he : D.data.toList with
  | nil => rw [he] at hl; simp at hl; omega
  | cons b r =>
    refine ⟨r, ?_, ?_⟩
    · have : D[0] = D.data.toList[0]'(by rw [dl_size]; exact h) := by rw [Array.getElem_toList]; rfl
      rw [this]
      simp [he]
    · rw [he] at hl
      simp only [List.length_cons] at hl
      constructor
      · rintro rfl; simp at hl; omega
      · intro h1
        exact List.eq_nil_of_length_eq_zero (by omega)

set_option maxRecDepth 100000 in
set_option maxHeartbeats 2000000 in
theorem isDecimal_any (S : ByteArray) (w : World) (hs : S.size ≤ 9223372036854775807) :
    Calls Tryz.prog 79 #[.string S] w fun e w' => e = .returned (.bool (VS.isDec S.data.toList)) ∧ Fr w w' := by
  have hcp := Tryz.strings_CutPrefix S ⟨#[45]⟩ w
  have hcp2 : (⟨#[45]⟩ : ByteArray).data.toList = [45] := rfl
  rw [hcp2] at hcp
  obtain ⟨D, hD⟩ : ∃ D : ByteArray, (⟨(Lib.trimPrefix S.data.toList [45]).toArray⟩ : ByteArray) = D := ⟨_, rfl⟩
  have hDl : D.data.toList = Lib.trimPrefix S.data.toList [45] := by rw [← hD]
  have hDs : D.size ≤ 9223372036854775807 := by
    rw [← dl_size, hDl]
    have := trim_len S.data.toList [45]
    rw [dl_size] at this
    omega
  have HI : Hid (VS.isDec S.data.toList = VS.dgs (Lib.hasPrefix S.data.toList [45]) D.data.toList) := by unfold Hid; rw [hDl]; exact VS.isDec_by _
  rw [hD] at hcp
  generalize Lib.hasPrefix S.data.toList [45] = bl at *
  rw [HI.out]
  clear HI hD hDl hcp2
  go_enter Tryz.func79, Tryz.ntmps79
  go_wp2_with fail
  refine hcp.mono ?_
  rintro _ w1 ⟨rfl, rfl⟩
  clear hcp
  by_cases hz : D.size = 0
  · obtain rfl : D = ⟨#[]⟩ := by
      have := (toList_nil D).2 hz
      rw [ByteArray.toList_eq] at this
      cases D
      simp_all
    go_wp2_with fail
    go_ret
    exact ⟨rfl, Fr.refl _⟩
  · have z1 : (D.toList == []) = false := by simp only [beq_eq_false_iff_ne, ne_eq, toList_nil]; exact hz
    have z2 : ¬ D.toList = [] := by rw [toList_nil]; exact hz
    have z3 : 0 < D.size := by omega
    obtain ⟨r, hr, hr1⟩ := head_get D z3
    have HG : Hid (VS.dgs bl D.data.toList = (!(D[0].toNat == 48 && (bl || !r.isEmpty)) && D.data.toList.all VS.dig)) := by unfold Hid; rw [hr]; rfl
    have HR : Hid _ := hr1
    clear hr hr1 hz
    have go : (D[0].toNat = 48 → bl = false ∧ D.size = 1) → Hid (VS.dgs bl D.data.toList = D.data.toList.all VS.dig) := by
      intro h
      unfold Hid
      rw [HG.out]
      by_cases h48 : D[0].toNat = 48
      · obtain ⟨h1, h2⟩ := h h48
        have hrn : r = [] := HR.out.2 h2
        rw [h1, hrn]
        simp
      · rw [show (D[0].toNat == 48) = false from beq_false_of_ne h48]
        simp
    by_cases h48 : D[0].toNat = 48
    · have h1 : ((D[0].toNat : Int) == 48) = true := by rw [h48]; rfl
      have h2 : (D[0].toNat : Int) = 48 := by omega
      cases bl with
      | true =>
        have HB : Hid (VS.dgs true D.data.toList = false) := by unfold Hid; rw [HG.out, h48]; rfl
        clear HG go
        go_wp2_with fail
        go_ret
        exact ⟨by rw [HB.out]; rfl, Fr.refl _⟩
      | false =>
        by_cases h5 : D.size = 1
        · have HGO : Hid _ := (go (fun _ => ⟨rfl, h5⟩)).out
          have h6 : ¬ (1 : Int) < (D.size : Int) := by omega
          clear go HG
          go_wp2_with fail
          go_loopw [28] (fun iv wr => ∃ i : Nat, iv = .int .i64 i ∧ i ≤ D.size ∧ (∀ j (h : j < D.size), j < i → VS.dig D[j] = true) ∧ Fr w1 wr) (fun iv _ => D.size - (intOf iv).toNat)
          case atStart => exact ⟨0, rfl, Nat.zero_le _, fun j _ h => absurd h (Nat.not_lt_zero _), Fr.refl _⟩
          case round =>
            obtain ⟨i, rfl, hi, hall, hfr⟩ := hrel
            have HA : Hid _ := hall
            have HF : Hid _ := hfr
            clear hall hfr h1 h2
            by_cases hlt : i < D.size
            · have hltZ : (i : Int) < (D.size : Int) := by omega
              by_cases c1 : D[i].toNat < 48
              · have q1 : (D[i].toNat : Int) < 48 := by omega
                have HB : Hid (VS.dgs false D.data.toList = false) := by
                  unfold Hid
                  rw [HGO.out]
                  exact all_bad D i hlt (by unfold VS.dig; simp; omega)
                go_wp2_with fail
                go_ret
                exact ⟨by rw [HB.out]; rfl, HF.out⟩
              · have q1 : ¬ (D[i].toNat : Int) < 48 := by omega
                by_cases c2 : 57 < D[i].toNat
                · have q2 : (57 : Int) < (D[i].toNat : Int) := by omega
                  have HB : Hid (VS.dgs false D.data.toList = false) := by
                    unfold Hid
                    rw [HGO.out]
                    exact all_bad D i hlt (by unfold VS.dig; simp; omega)
                  go_wp2_with fail
                  go_ret
                  exact ⟨by rw [HB.out]; rfl, HF.out⟩
                · have q2 : ¬ (57 : Int) < (D[i].toNat : Int) := by omega
                  have hdi : VS.dig D[i] = true := by unfold VS.dig; simp; omega
                  have HD : Hid _ := hdi
                  clear hdi
                  go_wp2_with fail
                  go_roundw
                  case rel =>
                    refine ⟨i + 1, by simp, hlt, fun j hj h => ?_, HF.out⟩
                    by_cases e : j = i
                    · subst e; exact HD.out
                    · exact HA.out j hj (by omega)
                  case measure => simp [intOf]; omega
            · have hltZ : ¬ (i : Int) < (D.size : Int) := by omega
              have HB : Hid (VS.dgs false D.data.toList = true) := by
                unfold Hid
                rw [HGO.out]
                exact all_get D (fun j hj => HA.out j hj (by omega))
              go_wp2_with fail
              go_ret
              exact ⟨by rw [HB.out]; rfl, HF.out⟩
        · have h6 : (1 : Int) < (D.size : Int) := by omega
          have hrn : r.isEmpty = false := by
            cases r with
            | nil => exact absurd (HR.out.1 rfl) h5
            | cons _ _ => rfl
          have HB : Hid (VS.dgs false D.data.toList = false) := by unfold Hid; rw [HG.out, h48, hrn]; rfl
          clear HG go hrn
          go_wp2_with fail
          go_ret
          exact ⟨by rw [HB.out]; rfl, Fr.refl _⟩
    · have h1 : ((D[0].toNat : Int) == 48) = false := by rw [beq_eq_false_iff_ne]; omega
      have h2 : ¬ (D[0].toNat : Int) = 48 := by omega
      have HGO : Hid _ := (go (fun h => absurd h h48)).out
      clear go HG
      go_wp2_with fail
      go_loopw [28] (fun iv wr => ∃ i : Nat, iv = .int .i64 i ∧ i ≤ D.size ∧ (∀ j (h : j < D.size), j < i → VS.dig D[j] = true) ∧ Fr w1 wr) (fun iv _ => D.size - (intOf iv).toNat)
      case atStart => exact ⟨0, rfl, Nat.zero_le _, fun j _ h => absurd h (Nat.not_lt_zero _), Fr.refl _⟩
      case round =>
        obtain ⟨i, rfl, hi, hall, hfr⟩ := hrel
        have HA : Hid _ := hall
        have HF : Hid _ := hfr
        clear hall hfr h1 h2
        by_cases hlt : i < D.size
        · have hltZ : (i : Int) < (D.size : Int) := by omega
          by_cases c1 : D[i].toNat < 48
          · have q1 : (D[i].toNat : Int) < 48 := by omega
            have HB : Hid (VS.dgs bl D.data.toList = false) := by
              unfold Hid
              rw [HGO.out]
              exact all_bad D i hlt (by unfold VS.dig; simp; omega)
            go_wp2_with fail
            go_ret
            exact ⟨by rw [HB.out]; rfl, HF.out⟩
          · have q1 : ¬ (D[i].toNat : Int) < 48 := by omega
            by_cases c2 : 57 < D[i].toNat
            · have q2 : (57 : Int) < (D[i].toNat : Int) := by omega
              have HB : Hid (VS.dgs bl D.data.toList = false) := by
                unfold Hid
                rw [HGO.out]
                exact all_bad D i hlt (by unfold VS.dig; simp; omega)
              go_wp2_with fail
              go_ret
              exact ⟨by rw [HB.out]; rfl, HF.out⟩
            · have q2 : ¬ (57 : Int) < (D[i].toNat : Int) := by omega
              have hdi : VS.dig D[i] = true := by unfold VS.dig; simp; omega
              have HD : Hid _ := hdi
              clear hdi
              go_wp2_with fail
              go_roundw
              case rel =>
                refine ⟨i + 1, by simp, hlt, fun j hj h => ?_, HF.out⟩
                by_cases e : j = i
                · subst e; exact HD.out
                · exact HA.out j hj (by omega)
              case measure => simp [intOf]; omega
        · have hltZ : ¬ (i : Int) < (D.size : Int) := by omega
          have HB : Hid (VS.dgs bl D.data.toList = true) := by
            unfold Hid
            rw [HGO.out]
            exact all_get D (fun j hj => HA.out j hj (by omega))
          go_wp2_with fail
          go_ret
          exact ⟨by rw [HB.out]; rfl, HF.out⟩

/-- a value that was read -/
def rdV (r : VS.Rd) : Value := .agg #[.int .i64 r.k, .int .i64 r.n, .string ⟨r.s.toArray⟩]

/-- a box of a value that may be written -/
structure Bx (w : World) (g : Nat) (k n : Int) (s : ByteArray) : Prop where
  at_ : w.heap[g]? = some (.cells #[.int .i64 k, .int .i64 n, .string s] 48 (0, 0))
theorem Bx.new (w : World) (k n : Int) (s : ByteArray) : Bx (w.alloc (.cells #[.int .i64 k, .int .i64 n, .string s] 48)) w.heap.size k n s := ⟨by
  show (w.heap.push _)[w.heap.size]? = _
  rw [Array.getElem?_push_size]⟩
theorem Bx.lt {w : World} {g : Nat} {k n : Int} {s : ByteArray} (h : Bx w g k n s) : g < w.heap.size := (Array.getElem?_eq_some_iff.1 h.at_).1
theorem Bx.fr {w w' : World} {g : Nat} {k n : Int} {s : ByteArray} (h : Bx w g k n s) (f : Fr w w') : Bx w' g k n s := ⟨(f.block _ h.lt).trans h.at_⟩
theorem Bx.c0 {w : World} {g : Nat} {k n : Int} {s : ByteArray} (h : Bx w g k n s) : w.cell? ⟨g, 0, none⟩ = some (.int .i64 k) := (Lib.cell_of_heap h.at_ _).trans rfl
theorem Bx.c1 {w : World} {g : Nat} {k n : Int} {s : ByteArray} (h : Bx w g k n s) : w.cell? ⟨g, 1, none⟩ = some (.int .i64 n) := (Lib.cell_of_heap h.at_ _).trans rfl
theorem Bx.c2 {w : World} {g : Nat} {k n : Int} {s : ByteArray} (h : Bx w g k n s) : w.cell? ⟨g, 2, none⟩ = some (.string s) := (Lib.cell_of_heap h.at_ _).trans rfl
theorem Bx.z {w : World} {g : Nat} {k n : Int} {s : ByteArray} (h : Bx w g k n s) (i : Nat) : w.frozen? ⟨g, i, none⟩ = false := Lib.frozen_of_heap h.at_ i
/-- a value stored into a box that is new -/
theorem fr_set3 {w w' : World} (f : Fr w w') {g : Nat} (hg : w.heap.size ≤ g) (a b c : Value) : Fr w (((w'.setCell ⟨g, 0, none⟩ a).setCell ⟨g, 1, none⟩ b).setCell ⟨g, 2, none⟩ c) :=
  Below.setCell (p := ⟨g, 2, none⟩) (Below.setCell (p := ⟨g, 1, none⟩) (Below.setCell (p := ⟨g, 0, none⟩) f hg a) hg b) hg c

theorem fr_bytes (w : World) (t : ByteArray) : Fr w (Lib.bytesWorld w 5 t) := Joins.below_bytesWorld _ w _ t (Nat.le_refl _)

set_option maxRecDepth 100000 in
set_option maxHeartbeats 1000000 in
theorem intOf_any (S : ByteArray) (w : World) (hs : S.size ≤ 140737488355327) (hd : VS.isDec S.data.toList = true) (hT : Tb w) :
    Calls Tryz.prog 80 #[.string S] w fun e w' => e = .returned (.tuple #[rdV (VS.int S.data.toList), .int .i64 (VS.int S.data.toList).e]) ∧ Fr w w' := by
  obtain ⟨W0, hW0⟩ : ∃ W0, w.alloc (.cells #[.int .i64 0, .int .i64 0, .string ⟨#[]⟩] 48) = W0 := ⟨_, rfl⟩
  have f0 : Fr w W0 := by rw [← hW0]; exact (Fr.refl w).alloc _
  have hb0 : Bx W0 w.heap.size 0 0 ⟨#[]⟩ := by rw [← hW0]; exact Bx.new _ _ _ _
  obtain ⟨ev, hv, hev⟩ := (hT.fr f0).rng
  rcases VS.parse_dec hd with hp | ⟨n, hp⟩
  · have HI : Hid (VS.int S.data.toList = VS.bad 8) := by unfold Hid VS.int; rw [hp]
    have hpi := Tryz.strconv_ParseInt_10_at64_range S (by omega) hp ev W0 hv hev
    generalize VS.int S.data.toList = r at *
    have HW : Hid _ := hW0
    clear hp hW0 hv hev
    go_enter Tryz.func80, Tryz.ntmps80
    go_wp2_with fail
    rw [HW.out]
    refine hpi.mono ?_
    rintro _ w1 ⟨N, rfl, _, _, f1⟩
    have hb1 := hb0.fr f1
    have d0 := hb1.c0
    have d1 := hb1.c1
    have d2 := hb1.c2
    have z0 := hb1.z 0
    have z1 := hb1.z 1
    have z2 := hb1.z 2
    have F1 : Hid (Fr w w1) := f0.trans f1
    clear f1 hpi hb0 f0 HW hb1
    go_wp2_with fail
    refine bodyPost_ret (v := .tuple #[.agg #[.int .i64 0, .int .i64 0, .string ⟨#[]⟩], .int .i64 8]) (by simp [results, Tryz.results80, go_sem, d0, d1, d2]) rfl ?_
    exact ⟨by rw [HI.out]; rfl, fr_set3 F1.out (Nat.le_refl _) _ _ _⟩
  · have HI : Hid (VS.int S.data.toList = ⟨1, n, [], 0⟩) := by unfold Hid VS.int; rw [hp]
    have hpi := Tryz.strconv_ParseInt_10_at64_ok S (by omega) n hp W0
    generalize VS.int S.data.toList = r at *
    have HW : Hid _ := hW0
    clear hp hW0 hv hev
    go_enter Tryz.func80, Tryz.ntmps80
    go_wp2_with fail
    rw [HW.out]
    refine hpi.mono ?_
    rintro _ w1 ⟨rfl, hw1⟩
    have f1 : Fr W0 w1 := by
      rcases hw1 with rfl | ⟨t, rfl⟩
      · exact Fr.refl _
      · exact fr_bytes _ _
    have hb1 := hb0.fr f1
    have d0 := hb1.c0
    have d1 := hb1.c1
    have d2 := hb1.c2
    have z0 := hb1.z 0
    have z1 := hb1.z 1
    have z2 := hb1.z 2
    have F1 : Hid (Fr w w1) := f0.trans f1
    clear f1 hpi hb0 f0 HW hb1 hw1
    go_wp2_with fail
    refine bodyPost_ret (v := .tuple #[.agg #[.int .i64 1, .int .i64 n, .string ⟨#[]⟩], .int .i64 0]) (by simp [results, Tryz.results80, go_sem, d0, d1, d2]) rfl ?_
    exact ⟨by rw [HI.out]; rfl, fr_set3 F1.out (Nat.le_refl _) _ _ _⟩

set_option maxRecDepth 100000 in
set_option maxHeartbeats 1000000 in
theorem unquoted_any (S : ByteArray) (w : World) (hs : S.size ≤ 140737488355327) :
    Calls Tryz.prog 81 #[.string S] w fun e w' => e = .returned (.tuple #[.string ⟨(Lib.trimSuffix (Lib.trimPrefix S.data.toList [39]) [39]).toArray⟩, .bool (Lib.hasPrefix S.data.toList [39] && Lib.hasSuffix (Lib.trimPrefix S.data.toList [39]) [39])]) ∧ Fr w w' := by
  have hcp := Tryz.strings_CutPrefix S ⟨#[39]⟩ w
  rw [show (⟨#[39]⟩ : ByteArray).data.toList = [39] from rfl] at hcp
  obtain ⟨D, hD⟩ : ∃ D : ByteArray, (⟨(Lib.trimPrefix S.data.toList [39]).toArray⟩ : ByteArray) = D := ⟨_, rfl⟩
  have hDl : Lib.trimPrefix S.data.toList [39] = D.data.toList := by rw [← hD]
  have hDs : D.size ≤ 9223372036854775807 := by
    rw [← dl_size, ← hDl]
    have := trim_len S.data.toList [39]
    rw [dl_size] at this
    omega
  have hcs := Tryz.strings_CutSuffix D ⟨#[39]⟩ w hDs
  rw [show (⟨#[39]⟩ : ByteArray).data.toList = [39] from rfl] at hcs
  rw [hD] at hcp
  rw [hDl]
  generalize (⟨(Lib.trimSuffix D.data.toList [39]).toArray⟩ : ByteArray) = E at *
  generalize Lib.hasSuffix D.data.toList [39] = q at *
  generalize Lib.hasPrefix S.data.toList [39] = p at *
  clear hD hDl
  cases p <;> cases q
  all_goals
    go_enter Tryz.func81, Tryz.ntmps81
    go_wp2_with fail
    refine hcp.mono ?_
    rintro _ w1 ⟨rfl, rfl⟩
    go_wp2_with fail
    refine hcs.mono ?_
    rintro _ w1 ⟨rfl, rfl⟩
    clear hcp hcs
    go_wp2_with fail
    go_ret2
    exact ⟨rfl, Fr.refl _⟩

set_option maxRecDepth 100000 in
set_option maxHeartbeats 1000000 in
theorem textOf_none (k : Int) (s : ByteArray) (w : World) : Calls Tryz.prog 83 #[.int .i64 k, .string s, .bool false] w fun e w' => e = .returned (.tuple #[rdV (VS.bad 1), .int .i64 1]) ∧ Fr w w' := by
  go_enter Tryz.func83, Tryz.ntmps83
  go_wp2_with fail
  refine bodyPost_ret (v := .tuple #[.agg #[.int .i64 0, .int .i64 0, .string ⟨#[]⟩], .int .i64 1]) (by simp [results, Tryz.results83, go_sem]) rfl ?_
  exact ⟨rfl, (Fr.refl w).alloc _⟩
set_option maxRecDepth 100000 in
set_option maxHeartbeats 1000000 in
theorem textOf_some (k : Int) (s : ByteArray) (w : World) (hk : k = 2 ∨ k = 3) : Calls Tryz.prog 83 #[.int .i64 k, .string s, .bool true] w fun e w' => e = .returned (.tuple #[rdV (VS.txt k (some s.data.toList)), .int .i64 (VS.txt k (some s.data.toList)).e]) ∧ Fr w w' := by
  have hck := fun W => check_any k 0 s W
  have hc : VM.chk ⟨k, 0, s⟩ = if 16 < s.size then 2 else 0 := by
    unfold VM.chk
    simp only
    rw [if_neg (by omega), if_neg (by rintro (⟨h, _⟩ | ⟨_, h⟩); exact h rfl; exact h hk)]
  rw [hc] at hck
  have HT : Hid (VS.txt k (some s.data.toList) = if 16 < s.size then VS.bad 2 else ⟨k, 0, s.data.toList, 0⟩) := by unfold Hid VS.txt; simp only; rw [dl_size]
  generalize VS.txt k (some s.data.toList) = r at *
  obtain ⟨W0, hW0⟩ : ∃ W0, (w.alloc (.cells #[.int .i64 0, .int .i64 0, .string ⟨#[]⟩] 48)).alloc (.cells #[.int .i64 k, .int .i64 0, .string s] 48) = W0 := ⟨_, rfl⟩
  have f0 : Fr w W0 := by rw [← hW0]; exact ((Fr.refl w).alloc _).alloc _
  have hb0 : Bx W0 w.heap.size 0 0 ⟨#[]⟩ := by rw [← hW0]; exact (Bx.new _ _ _ _).fr ((Fr.refl _).alloc _)
  have hb1 : Bx W0 (w.heap.size + 1) k 0 s := by
    rw [← hW0]
    have := Bx.new (w.alloc (.cells #[.int .i64 0, .int .i64 0, .string ⟨#[]⟩] 48)) k 0 s
    rwa [World.size_alloc] at this
  have HW : Hid _ := hW0
  have HE : Hid (rdV ⟨k, 0, s.data.toList, 0⟩ = .agg #[.int .i64 k, .int .i64 0, .string s]) := by unfold Hid rdV; simp only
  clear hc hW0
  go_enter Tryz.func83, Tryz.ntmps83
  go_wp2_with fail
  rw [HW.out]
  refine (hck _).mono ?_
  rintro _ w1 ⟨rfl, f1⟩
  have hx0 := hb0.fr f1
  have hx1 := hb1.fr f1
  have d0 := hx0.c0
  have d1 := hx0.c1
  have d2 := hx0.c2
  have z0 := hx0.z 0
  have z1 := hx0.z 1
  have z2 := hx0.z 2
  have e0 := hx1.c0
  have e1 := hx1.c1
  have e2 := hx1.c2
  have F1 : Hid (Fr w w1) := f0.trans f1
  clear f1 hck hb0 hb1 f0 HW hx0 hx1
  by_cases hl : 16 < s.size
  · rw [if_pos hl] at HT
    rw [if_pos hl]
    go_wp2_with fail
    refine bodyPost_ret (v := .tuple #[.agg #[.int .i64 0, .int .i64 0, .string ⟨#[]⟩], .int .i64 2]) (by simp [results, Tryz.results83, go_sem, d0, d1, d2]) rfl ?_
    exact ⟨by rw [HT.out]; rfl, fr_set3 F1.out (Nat.le_refl _) _ _ _⟩
  · rw [if_neg hl] at HT
    rw [if_neg hl]
    go_wp2_with fail
    refine bodyPost_ret (v := .tuple #[.agg #[.int .i64 k, .int .i64 0, .string s], .int .i64 0]) (by simp [results, Tryz.results83, go_sem, d0, d1, d2]) rfl ?_
    exact ⟨by rw [HT.out, HE.out]; rfl, fr_set3 F1.out (Nat.le_refl _) _ _ _⟩
end Go.Proofs.YtoagobpkenfbkaaGreatDoor
