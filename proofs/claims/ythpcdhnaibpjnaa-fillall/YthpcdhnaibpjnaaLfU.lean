/-
  What read of package leaf answers, for every text and every last Id.
-/
import Derived.Test.YthpcdhnaibpjnaaLfT
namespace Go.Proofs.Ythpcdhnaibpjnaa
open Go.ChangeShapes Go.WideShapes Go.ChangeAt Go.RowKit
set_option linter.unusedVariables false
set_option linter.unusedSimpArgs false
set_option maxRecDepth 100000

def put2 (w : World) (g : Nat) (a b : Value) : World := (w.setCell ⟨g, 0, none⟩ a).setCell ⟨g, 1, none⟩ b
theorem put2_heap {w : World} {g : Nat} {x y : Value} {T : TypeId} (h : w.heap[g]? = some (.cells #[x, y] T (0, 0))) (a b : Value) : (put2 w g a b).heap[g]? = some (.cells #[a, b] T (0, 0)) := by
  unfold put2
  simp only [World.setCell, Array.getElem?_modify, if_pos, h]
  rfl
theorem Mv.put2 {r : Nat} {a b : World} (h : Mv r a b) {g : Nat} (hg : a.heap.size ≤ g) (x y : Value) : Mv r a (put2 b g x y) :=
  (h.setNew ⟨g, 0, none⟩ hg x).setNew ⟨g, 1, none⟩ hg y
theorem put2_other {w : World} {g k : Nat} {x y : Value} (h : k ≠ g) : (put2 w g x y).heap[k]? = w.heap[k]? := by
  unfold put2
  rw [Below.heap_setCell _ _ _ _ (by simpa using h), Below.heap_setCell _ _ _ _ (by simpa using h)]

/-- what read answers -/
def EnAs (s : ByteArray) (c : Nat) (last : Int) (w : World) (e : Ending) (w' : World) : Prop :=
  match LF.en last s.data.toList with
  | .error k => e = .returned (.tuple #[.agg #[.int .i64 0, .slice none 0 0], .int .i64 0, .int .i64 (k : Nat)])
  | .ok ((id, r), t) => ∃ v, e = .returned (.tuple #[.agg #[.int .i64 id, v], .int .i64 (s.size - t.length), .int .i64 0]) ∧ IsRowB 0 w' v r ∧ LsAt w' c id
theorem zagN_zag (n : Nat) : zagN (n : Int) = RM.zag n := rfl

set_option maxHeartbeats 2000000 in
theorem lread_any (s : ByteArray) (c : Nat) (last : Int) (w : World) (hs : s.size ≤ 9223372036854775807) (h : LsAt w c last) :
    Calls Try.prog 24 #[.string s, .func (.func 43) #[] #[.pointer (some ⟨c, 0, none⟩)]] w fun e w' => EnAs s c last w e w' ∧ Mv c w w' := by
  have hlen : s.data.toList.length = s.size := by rw [Array.length_toList]; rfl
  have hrd := fun W => readSigned_any s W (by unfold maxLen; omega)
  have hcl := h.lt
  let wa := w.alloc (.cells #[.int .i64 0, .slice none 0 0] 43)
  have hMa : Mv c w wa := (Mv.refl c w).alloc _
  have hLa : LsAt wa c last := h.fr ((Fr.refl w).alloc _)
  have htop : wa.heap[w.heap.size]? = some (.cells #[.int .i64 0, .slice none 0 0] 43 (0, 0)) := alloc_heap w _
  have hsa : wa.heap.size = w.heap.size + 1 := alloc_size _ _
  have hrk := RM.rd_le s.data.toList
  have hrn := NM.rd_lt s.data.toList
  unfold rdsv at hrd
  obtain ⟨n, k, er, hD⟩ : ∃ n k er, NM.rd s.data.toList 0 0 = (n, k, er) := ⟨_, _, _, rfl⟩
  have hnu : RM.nu s.data.toList = if er = 0 then .ok (n, s.data.toList.drop k) else .error er := by
    unfold RM.nu
    rw [hD]
  have hbad : er ≠ 0 → n = 0 ∧ k = 0 := fun he => by
    have := NM.rd_bad s.data.toList 0 0 (by rw [hD]; exact he)
    rw [hD] at this
    exact this
  rw [hD] at hrd hrk hrn
  simp only at hrd hrk hrn
  rw [hlen] at hrk
  by_cases he : er = 0
  · rw [if_pos he] at hnu
    subst he
    have hsg : LF.sg s.data.toList = .ok (RM.zag n, s.data.toList.drop k) := by unfold LF.sg; rw [hnu]
    rw [zagN_zag] at hrd
    have hwide := LM.zag_wide hrn
    generalize hid : RM.zag n = id at *
    have hck := risingClo_any id last c wa hLa
    have hen : LF.en last s.data.toList = if LF.rs last id = 0 then (match RM.row (s.data.toList.drop k) with | .error e => .error e | .ok (r, u) => .ok ((id, r), u)) else .error (LF.rs last id) := by
      unfold LF.en
      rw [hsg]
      simp only
      unfold LF.rs
      split
      · simp
      split
      · simp
      · simp only [if_true]
        cases RM.row (s.data.toList.drop k) with
        | error e => rfl
        | ok p => rfl
    clear hnu hbad hsg hD hrn hid
    by_cases hrs : LF.rs last id = 0
    · rw [if_pos hrs] at hen
      rw [hrs] at hck
      simp only [if_true] at hck
      have hex : (s.extract k s.size).data.toList = s.data.toList.drop k := by
        rw [Lib.extract_eq]
        simp only
        rw [List.take_of_length_le]
        rw [List.length_drop, hlen]
        exact Nat.le_refl _
      have hexs : (s.extract k s.size).size = s.size - k := by
        have := congrArg List.length hex
        rw [List.length_drop, hlen] at this
        rw [← this, Array.length_toList]
        rfl
      have hrr := fun W => recRead_any (s.extract k s.size) W (by omega)
      unfold ReadsAs at hrr
      rw [hex, hexs] at hrr
      have hkI : (k : Int) ≤ (s.size : Int) := by omega
      match hx : RM.row (s.data.toList.drop k) with
      | .error qe =>
        rw [hx] at hen hrr
        simp only at hen hrr
        have hne := RM.row_err hx
        have q1 : ((qe : Int) != 0) = true := by simp; omega
        have q2 : ¬ ((qe : Int) = 0) := by omega
        have HEN := hideP hen
        have HMA := hideP hMa
        have HTOP := hideP htop
        have HSA := hideP hsa
        have HCL := hideP hcl
        clear hx hen hne hlen hex hexs h hLa hMa htop hsa hwide
        go_enter Try.func24, Try.ntmps24
        go_wp2_with fail
        refine (hrd _).mono ?_
        rintro _ w1 ⟨rfl, rfl⟩
        go_wp2_with fail
        refine hck.mono ?_
        rintro _ w2 ⟨rfl, hls, hmv⟩
        have HB := hideP ((hmv.2 _ (by rw [HSA.out]; omega) (by have := HCL.out; omega)).trans HTOP.out)
        have HM2 := hideP (Mv.trans HMA.out hmv)
        clear hck hmv hls hrd
        go_wp2_with fail
        refine (hrr _).mono ?_
        rintro _ w3 ⟨rfl, hf3⟩
        have hbk := (hf3.block _ (Array.getElem?_eq_some_iff.1 HB.out).1).trans HB.out
        have HM3 := hideP (Mv.trans HM2.out ⟨fun B _ h2 => Below.mono hf3 h2, fun b hb _ => hf3.block b hb⟩)
        have k0 : w3.cell? ⟨w.heap.size, 0, none⟩ = some (.int .i64 0) := by rw [Lib.cell_of_heap hbk]; rfl
        have k1 : w3.cell? ⟨w.heap.size, 1, none⟩ = some (.slice none 0 0) := by rw [Lib.cell_of_heap hbk]; rfl
        have z0 : w3.frozen? ⟨w.heap.size, 0, none⟩ = false := Lib.frozen_of_heap hbk 0
        have z1 : w3.frozen? ⟨w.heap.size, 1, none⟩ = false := Lib.frozen_of_heap hbk 1
        have HB3 := hideP hbk
        clear hrr hf3 hbk HB HM2
        go_wp2_with fail
        have q := put2_heap HB3.out (.int .i64 0) (.slice none 0 0)
        have q0 := Lib.cell_of_heap q (j := 0)
        have q1 := Lib.cell_of_heap q (j := 1)
        refine bodyPost_ret (v := .tuple #[.agg #[.int .i64 0, .slice none 0 0], .int .i64 0, .int .i64 (qe : Int)]) ?_ rfl ?_
        · change (results Try.f24 _).run Try.prog (put2 w3 w.heap.size _ _) = .ok _ (put2 w3 w.heap.size _ _)
          simp [results, Try.results24, go_sem, q0, q1]
        · refine ⟨?_, Mv.put2 HM3.out (Nat.le_refl _) _ _⟩
          unfold EnAs
          rw [HEN.out]
      | .ok (r, t) =>
        rw [hx] at hen hrr
        simp only at hen hrr
        have htl := RM.row_le hx
        rw [List.length_drop, hlen] at htl
        have HEN := hideP hen
        have HMA := hideP hMa
        have HTOP := hideP htop
        have HSA := hideP hsa
        have HCL := hideP hcl
        have hcast : ((s.size - k : Nat) : Int) - (t.length : Int) = ((s.size - k - t.length : Nat) : Int) := by omega
        rw [hcast] at hrr
        have HTL := hideP htl
        generalize hm : s.size - k - t.length = m at *
        have HM : Hid ((k : Int) + (m : Int) = (s.size : Int) - (t.length : Int)) := by unfold Hid; omega
        have hm1 : k + m ≤ 9223372036854775807 := by omega
        have hm2 : (k : Int) + (m : Int) ≤ 9223372036854775807 := by omega
        clear hx hen hlen hex hexs h hLa hMa htop hsa hwide hcast htl hm
        go_enter Try.func24, Try.ntmps24
        go_wp2_with fail
        refine (hrd _).mono ?_
        rintro _ w1 ⟨rfl, rfl⟩
        go_wp2_with fail
        refine hck.mono ?_
        rintro _ w2 ⟨rfl, hls, hmv⟩
        have HB := hideP ((hmv.2 _ (by rw [HSA.out]; omega) (by have := HCL.out; omega)).trans HTOP.out)
        have HM2 := hideP (Mv.trans HMA.out hmv)
        have HL2 := hideP hls
        clear hck hmv hls hrd
        go_wp2_with fail
        refine (hrr _).mono ?_
        rintro _ w3 ⟨⟨v, rfl, hrow⟩, hf3⟩
        have hbk := (hf3.block _ (Array.getElem?_eq_some_iff.1 HB.out).1).trans HB.out
        have HM3 := hideP (Mv.trans HM2.out ⟨fun B _ h2 => Below.mono hf3 h2, fun b hb _ => hf3.block b hb⟩)
        have HL3 := hideP (LsAt.fr HL2.out hf3)
        have k0 : w3.cell? ⟨w.heap.size, 0, none⟩ = some (.int .i64 0) := by rw [Lib.cell_of_heap hbk]; rfl
        have k1 : w3.cell? ⟨w.heap.size, 1, none⟩ = some (.slice none 0 0) := by rw [Lib.cell_of_heap hbk]; rfl
        have z0 : w3.frozen? ⟨w.heap.size, 0, none⟩ = false := Lib.frozen_of_heap hbk 0
        have z1 : w3.frozen? ⟨w.heap.size, 1, none⟩ = false := Lib.frozen_of_heap hbk 1
        have HB3 := hideP hbk
        have HROW := hideP hrow
        obtain ⟨ar, capr, rfl, _⟩ := hrow
        clear hrr hf3 hbk HB HM2 HL2
        go_wp2_with fail
        have q := put2_heap HB3.out (.int .i64 id) (.slice ar r.length capr)
        have q0 := Lib.cell_of_heap q (j := 0)
        have q1 := Lib.cell_of_heap q (j := 1)
        refine bodyPost_ret (v := .tuple #[.agg #[.int .i64 id, .slice ar r.length capr], .int .i64 ((k : Int) + (m : Int)), .int .i64 0]) ?_ rfl ?_
        · change (results Try.f24 _).run Try.prog (put2 w3 w.heap.size _ _) = .ok _ (put2 w3 w.heap.size _ _)
          simp [results, Try.results24, go_sem, q0, q1]
        · refine ⟨?_, Mv.put2 HM3.out (Nat.le_refl _) _ _⟩
          unfold EnAs
          rw [HEN.out]
          refine ⟨_, by rw [HM.out], ?_, ?_⟩
          · refine IsRowB.keep (IsRowB.mono HROW.out (Nat.zero_le _)) fun j cur hj => put2_other ?_
            intro e
            subst e
            rw [HB3.out] at hj
            simp only [Option.some.injEq, Obj.cells.injEq] at hj
            exact absurd hj.2.1 (by decide)
          · exact (put2_other (by have := HCL.out; omega)).trans HL3.out
    · rw [if_neg hrs] at hen
      have q1 : ((LF.rs last id : Int) != 0) = true := by simp; omega
      have q2 : ¬ ((LF.rs last id : Int) = 0) := by omega
      generalize LF.rs last id = qe at *
      have HEN := hideP hen
      have HMA := hideP hMa
      have HTOP := hideP htop
      have HSA := hideP hsa
      have HCL := hideP hcl
      clear hen hlen h hLa hMa htop hsa hwide
      go_enter Try.func24, Try.ntmps24
      go_wp2_with fail
      refine (hrd _).mono ?_
      rintro _ w1 ⟨rfl, rfl⟩
      go_wp2_with fail
      refine hck.mono ?_
      rintro _ w2 ⟨rfl, hls, hmv⟩
      have hbk := (hmv.2 _ (by rw [HSA.out]; omega) (by have := HCL.out; omega)).trans HTOP.out
      have HM2 := hideP (Mv.trans HMA.out hmv)
      have k0 : w2.cell? ⟨w.heap.size, 0, none⟩ = some (.int .i64 0) := by rw [Lib.cell_of_heap hbk]; rfl
      have k1 : w2.cell? ⟨w.heap.size, 1, none⟩ = some (.slice none 0 0) := by rw [Lib.cell_of_heap hbk]; rfl
      have z0 : w2.frozen? ⟨w.heap.size, 0, none⟩ = false := Lib.frozen_of_heap hbk 0
      have z1 : w2.frozen? ⟨w.heap.size, 1, none⟩ = false := Lib.frozen_of_heap hbk 1
      have HB3 := hideP hbk
      clear hck hmv hls hrd hbk
      go_wp2_with fail
      have q := put2_heap HB3.out (.int .i64 0) (.slice none 0 0)
      have q0 := Lib.cell_of_heap q (j := 0)
      have q1 := Lib.cell_of_heap q (j := 1)
      refine bodyPost_ret (v := .tuple #[.agg #[.int .i64 0, .slice none 0 0], .int .i64 0, .int .i64 (qe : Int)]) ?_ rfl ?_
      · change (results Try.f24 _).run Try.prog (put2 w2 w.heap.size _ _) = .ok _ (put2 w2 w.heap.size _ _)
        simp [results, Try.results24, go_sem, q0, q1]
      · refine ⟨?_, Mv.put2 HM2.out (Nat.le_refl _) _ _⟩
        unfold EnAs
        rw [HEN.out]
  · rw [if_neg he] at hnu
    obtain ⟨rfl, rfl⟩ := hbad he
    have hen : LF.en last s.data.toList = .error er := by
      unfold LF.en LF.sg
      rw [hnu]
    have q1 : ((er : Int) != 0) = true := by simp; omega
    have q2 : ¬ ((er : Int) = 0) := by omega
    have HEN := hideP hen
    have HMA := hideP hMa
    clear hen hlen h hLa hMa htop hsa hnu hbad hD hrk hrn
    go_enter Try.func24, Try.ntmps24
    go_wp2_with fail
    refine (hrd _).mono ?_
    rintro _ w1 ⟨rfl, rfl⟩
    clear hrd
    go_wp2_with fail
    refine bodyPost_ret (v := .tuple #[.agg #[.int .i64 0, .slice none 0 0], .int .i64 0, .int .i64 (er : Int)]) (by simp [results, Try.results24, go_sem]) rfl ?_
    refine ⟨?_, HMA.out⟩
    unfold EnAs
    rw [HEN.out]
end Go.Proofs.Ythpcdhnaibpjnaa
