/-
  The document's own isSign.
-/
import Derived.Test.YtoagobpkenfbkaaGreatDoorLzE
namespace Go.Proofs.YtoagobpkenfbkaaGreatDoor
open Go.ChangeShapes Go.WideShapes Go.ChangeAt Go.RowKit Go.Shelf
set_option linter.unusedVariables false
set_option linter.unusedSimpArgs false
set_option maxRecDepth 100000

namespace LX
def twos : Nat → List UInt8
  | 0 => [60, 62]
  | 1 => [60, 61]
  | _ => [62, 61]
def ones : List UInt8 := [40, 41, 44, 59, 42, 43, 45, 47, 37, 61, 60, 62]
def sgl (l : List UInt8) : Nat := if 2 ≤ l.length ∧ (l.take 2 = [60, 62] ∨ l.take 2 = [60, 61] ∨ l.take 2 = [62, 61]) then 2 else if ∃ c ∈ ones, l.head? = some c then 1 else 0
theorem sgl_two {l : List UInt8} (h : 2 ≤ l.length) (h2 : l.take 2 = [60, 62] ∨ l.take 2 = [60, 61] ∨ l.take 2 = [62, 61]) : sgl l = 2 := if_pos ⟨h, h2⟩
theorem sgl_rest {l : List UInt8} (h : ∀ j, j < 3 → 2 ≤ l.length → l.take 2 ≠ twos j) : sgl l = if ∃ c ∈ ones, l.head? = some c then 1 else 0 := if_neg (by
  rintro ⟨h1, h2 | h2 | h2⟩
  · exact h 0 (by decide) h1 h2
  · exact h 1 (by decide) h1 h2
  · exact h 2 (by decide) h1 h2)
theorem ones_mem {c : UInt8} (h : c ∈ ones) : [c] ∈ signs := by
  simp only [ones, List.mem_cons, List.not_mem_nil, or_false] at h
  rcases h with rfl | rfl | rfl | rfl | rfl | rfl | rfl | rfl | rfl | rfl | rfl | rfl <;> decide
theorem sgl_signs {l : List UInt8} (h0 : l ≠ []) : sgl l = l.length ↔ l ∈ signs := by
  constructor
  · intro h
    unfold sgl at h
    split at h
    · rename_i h1
      have h2 : l.take 2 = l := List.take_of_length_le (by omega)
      rw [h2] at h1
      rcases h1.2 with rfl | rfl | rfl <;> decide
    · split at h
      · rename_i h1
        obtain ⟨c, hc, hh⟩ := h1
        match l, h with
        | [b], _ =>
          simp only [List.head?_cons, Option.some.injEq] at hh
          subst hh
          exact ones_mem hc
      · exact absurd (List.length_eq_zero_iff.1 h.symm) h0
  · intro h
    simp only [signs, List.mem_cons, List.not_mem_nil, or_false] at h
    rcases h with rfl | rfl | rfl | rfl | rfl | rfl | rfl | rfl | rfl | rfl | rfl | rfl | rfl | rfl | rfl <;> decide
end LX
theorem cell_fr2 {w w' : World} {a : Addr} {v : Value} (h : w.cell? a = some v) (f : Fr w w') : w'.cell? a = some v := cell_fr h f
theorem in_eq (S : ByteArray) (c : UInt8) : LX.inr S.data.toList 0 c.toNat c.toNat = decide (S.data.toList.head? = some c) := by
  unfold LX.inr
  rw [List.head?_eq_getElem?]
  cases S.data.toList[0]? with
  | none => simp
  | some b =>
    simp only [Option.some.injEq]
    rw [Bool.eq_iff_iff]
    simp only [Bool.and_eq_true, decide_eq_true_eq]
    constructor
    · intro h
      apply UInt8.toNat_inj.1
      omega
    · rintro rfl
      omega

set_option maxHeartbeats 4000000 in
theorem isSign_any (S : ByteArray) (w : World) (hs : S.size ≤ 9223372036854775807) : Calls Tryz.prog 47 #[.string S] w fun e w' => e = .returned (.int .i64 (LX.sgl S.data.toList : Int)) ∧ Fr w w' := by
  have hlen := ba_len S
  obtain ⟨W1, hW1⟩ : ∃ W1, w.alloc (.cells #[.string ⟨#[60, 62]⟩, .string ⟨#[60, 61]⟩, .string ⟨#[62, 61]⟩] 9) = W1 := ⟨_, rfl⟩
  have f0 : Fr w W1 := by rw [← hW1]; exact (Fr.refl w).alloc _
  have hg : W1.heap[w.heap.size]? = some (.cells #[.string ⟨#[60, 62]⟩, .string ⟨#[60, 61]⟩, .string ⟨#[62, 61]⟩] 9 (0, 0)) := by rw [← hW1]; show (w.heap.push _)[w.heap.size]? = _; rw [Array.getElem?_push_size]
  obtain ⟨g, hgg⟩ : ∃ g, w.heap.size = g := ⟨_, rfl⟩
  rw [hgg] at hg
  have HC : Hid (W1.cell? ⟨g, 0, none⟩ = some (.string ⟨#[60, 62]⟩) ∧ W1.cell? ⟨g, 1, none⟩ = some (.string ⟨#[60, 61]⟩) ∧ W1.cell? ⟨g, 2, none⟩ = some (.string ⟨#[62, 61]⟩)) := ⟨(Lib.cell_of_heap hg _).trans rfl, (Lib.cell_of_heap hg _).trans rfl, (Lib.cell_of_heap hg _).trans rfl⟩
  have HF0 : Hid _ := f0
  clear f0 hg
  go_enter Tryz.func47, Tryz.ntmps47
  go_wp2_with fail
  clear hW1
  go_loopw [4] (fun iv wr => ∃ (i : Nat), iv = .int .i64 i ∧ i ≤ 3 ∧ (∀ j, j < i → 2 ≤ S.size → S.data.toList.take 2 ≠ LX.twos j) ∧ Fr W1 wr) (fun iv _ => 3 - (intOf iv).toNat)
  case atStart => exact ⟨0, rfl, by omega, fun j hj => absurd hj (by omega), Fr.refl _⟩
  case round =>
    obtain ⟨i, rfl, hi, hin, hfr⟩ := hrel
    match i, hi with
    | 0, _ =>
      by_cases h2 : 2 ≤ S.size
      · have h2Z : (2 : Int) ≤ (S.size : Int) := by omega
        have hd2 : decide ((2 : Int) ≤ (S.size : Int)) = true := by rw [decide_eq_true_eq]; omega
        by_cases hE : S.extract 0 2 = ⟨#[60, 62]⟩
        · have HR : Hid (LX.sgl S.data.toList = 2) := LX.sgl_two (by omega) (by rw [← ext_take, hE]; decide)
          have c := (HC.out).1
          have c' := cell_fr c hfr
          clear hin
          go_wp2_with fail
          first
            | go_quiet (fail)
            | fail
          go_wp2_with fail
          go_ret
          exact ⟨by rw [HR.out]; rfl, by first | exact Fr.trans HF0.out (Fr.drewN hfr _) | exact Fr.trans HF0.out (Fr.drew hfr) | exact Fr.trans HF0.out hfr⟩
        · have HN : Hid (0 + 1 ≤ 3 ∧ ∀ j, j < 0 + 1 → 2 ≤ S.size → S.data.toList.take 2 ≠ LX.twos j) := ⟨by decide, fun j hj h2' => by
            by_cases e : j = 0
            · subst e
              intro q
              refine hE ?_
              rw [← ba_eta (S.extract 0 2), ext_take, q]
              rfl
            · exact hin j (by omega) h2'⟩
          have c := (HC.out).1
          have c' := cell_fr c hfr
          have hne : ¬ (S.extract 0 2).toList = [60, 62] := fun q => hE (by
            rw [Lib.toList_data] at q
            rw [← ba_eta (S.extract 0 2), q])
          have n1 : ((S.extract 0 2).toList == [60, 62]) = false := by simpa using hne
          clear hin hE
          go_wp2_with fail
          first
            | go_quiet (fail)
            | fail
          go_wp2_with fail
          go_roundw
          case rel => exact ⟨0 + 1, by go_num, HN.out.1, HN.out.2, by first | exact Fr.drew hfr | exact Fr.drewN hfr _ | exact hfr⟩
          case measure => simp [intOf]
      · have h2Z : ¬ ((2 : Int) ≤ (S.size : Int)) := by omega
        have hd2 : decide ((2 : Int) ≤ (S.size : Int)) = false := by rw [decide_eq_false_iff_not]; omega
        have h2L : (S.size : Int) < 2 := by omega
        have HN : Hid (0 + 1 ≤ 3 ∧ ∀ j, j < 0 + 1 → 2 ≤ S.size → S.data.toList.take 2 ≠ LX.twos j) := ⟨by decide, fun j hj h2' => absurd h2' h2⟩
        clear hin
        go_wp2_with fail
        first
          | go_quiet (fail)
          | fail
        go_wp2_with fail
        go_roundw
        case rel => exact ⟨0 + 1, by go_num, HN.out.1, HN.out.2, by first | exact Fr.drew hfr | exact Fr.drewN hfr _ | exact hfr⟩
        case measure => simp [intOf]
    | 1, _ =>
      by_cases h2 : 2 ≤ S.size
      · have h2Z : (2 : Int) ≤ (S.size : Int) := by omega
        have hd2 : decide ((2 : Int) ≤ (S.size : Int)) = true := by rw [decide_eq_true_eq]; omega
        by_cases hE : S.extract 0 2 = ⟨#[60, 61]⟩
        · have HR : Hid (LX.sgl S.data.toList = 2) := LX.sgl_two (by omega) (by rw [← ext_take, hE]; decide)
          have c := (HC.out).2.1
          have c' := cell_fr c hfr
          clear hin
          go_wp2_with fail
          first
            | go_quiet (fail)
            | fail
          go_wp2_with fail
          go_ret
          exact ⟨by rw [HR.out]; rfl, by first | exact Fr.trans HF0.out (Fr.drewN hfr _) | exact Fr.trans HF0.out (Fr.drew hfr) | exact Fr.trans HF0.out hfr⟩
        · have HN : Hid (1 + 1 ≤ 3 ∧ ∀ j, j < 1 + 1 → 2 ≤ S.size → S.data.toList.take 2 ≠ LX.twos j) := ⟨by decide, fun j hj h2' => by
            by_cases e : j = 1
            · subst e
              intro q
              refine hE ?_
              rw [← ba_eta (S.extract 0 2), ext_take, q]
              rfl
            · exact hin j (by omega) h2'⟩
          have c := (HC.out).2.1
          have c' := cell_fr c hfr
          have hne : ¬ (S.extract 0 2).toList = [60, 61] := fun q => hE (by
            rw [Lib.toList_data] at q
            rw [← ba_eta (S.extract 0 2), q])
          have n1 : ((S.extract 0 2).toList == [60, 61]) = false := by simpa using hne
          clear hin hE
          go_wp2_with fail
          first
            | go_quiet (fail)
            | fail
          go_wp2_with fail
          go_roundw
          case rel => exact ⟨1 + 1, by go_num, HN.out.1, HN.out.2, by first | exact Fr.drew hfr | exact Fr.drewN hfr _ | exact hfr⟩
          case measure => simp [intOf]
      · have h2Z : ¬ ((2 : Int) ≤ (S.size : Int)) := by omega
        have hd2 : decide ((2 : Int) ≤ (S.size : Int)) = false := by rw [decide_eq_false_iff_not]; omega
        have h2L : (S.size : Int) < 2 := by omega
        have HN : Hid (1 + 1 ≤ 3 ∧ ∀ j, j < 1 + 1 → 2 ≤ S.size → S.data.toList.take 2 ≠ LX.twos j) := ⟨by decide, fun j hj h2' => absurd h2' h2⟩
        clear hin
        go_wp2_with fail
        first
          | go_quiet (fail)
          | fail
        go_wp2_with fail
        go_roundw
        case rel => exact ⟨1 + 1, by go_num, HN.out.1, HN.out.2, by first | exact Fr.drew hfr | exact Fr.drewN hfr _ | exact hfr⟩
        case measure => simp [intOf]
    | 2, _ =>
      by_cases h2 : 2 ≤ S.size
      · have h2Z : (2 : Int) ≤ (S.size : Int) := by omega
        have hd2 : decide ((2 : Int) ≤ (S.size : Int)) = true := by rw [decide_eq_true_eq]; omega
        by_cases hE : S.extract 0 2 = ⟨#[62, 61]⟩
        · have HR : Hid (LX.sgl S.data.toList = 2) := LX.sgl_two (by omega) (by rw [← ext_take, hE]; decide)
          have c := (HC.out).2.2
          have c' := cell_fr c hfr
          clear hin
          go_wp2_with fail
          first
            | go_quiet (fail)
            | fail
          go_wp2_with fail
          go_ret
          exact ⟨by rw [HR.out]; rfl, by first | exact Fr.trans HF0.out (Fr.drewN hfr _) | exact Fr.trans HF0.out (Fr.drew hfr) | exact Fr.trans HF0.out hfr⟩
        · have HN : Hid (2 + 1 ≤ 3 ∧ ∀ j, j < 2 + 1 → 2 ≤ S.size → S.data.toList.take 2 ≠ LX.twos j) := ⟨by decide, fun j hj h2' => by
            by_cases e : j = 2
            · subst e
              intro q
              refine hE ?_
              rw [← ba_eta (S.extract 0 2), ext_take, q]
              rfl
            · exact hin j (by omega) h2'⟩
          have c := (HC.out).2.2
          have c' := cell_fr c hfr
          have hne : ¬ (S.extract 0 2).toList = [62, 61] := fun q => hE (by
            rw [Lib.toList_data] at q
            rw [← ba_eta (S.extract 0 2), q])
          have n1 : ((S.extract 0 2).toList == [62, 61]) = false := by simpa using hne
          clear hin hE
          go_wp2_with fail
          first
            | go_quiet (fail)
            | fail
          go_wp2_with fail
          go_roundw
          case rel => exact ⟨2 + 1, by go_num, HN.out.1, HN.out.2, by first | exact Fr.drew hfr | exact Fr.drewN hfr _ | exact hfr⟩
          case measure => simp [intOf]
      · have h2Z : ¬ ((2 : Int) ≤ (S.size : Int)) := by omega
        have hd2 : decide ((2 : Int) ≤ (S.size : Int)) = false := by rw [decide_eq_false_iff_not]; omega
        have h2L : (S.size : Int) < 2 := by omega
        have HN : Hid (2 + 1 ≤ 3 ∧ ∀ j, j < 2 + 1 → 2 ≤ S.size → S.data.toList.take 2 ≠ LX.twos j) := ⟨by decide, fun j hj h2' => absurd h2' h2⟩
        clear hin
        go_wp2_with fail
        first
          | go_quiet (fail)
          | fail
        go_wp2_with fail
        go_roundw
        case rel => exact ⟨2 + 1, by go_num, HN.out.1, HN.out.2, by first | exact Fr.drew hfr | exact Fr.drewN hfr _ | exact hfr⟩
        case measure => simp [intOf]
    | 3, _ =>
      have hsg := LX.sgl_rest (l := S.data.toList) (by rw [hlen]; exact hin)
      have HSG : Hid _ := hsg
      have HFR : Hid (Fr w wr) := Fr.trans HF0.out hfr
      obtain ⟨O, hO⟩ : ∃ O : ByteArray, (⟨#[40, 41, 44, 59, 42, 43, 45, 47, 37, 61, 60, 62]⟩ : ByteArray) = O := ⟨_, rfl⟩
      have hOs : O.size = 12 := by rw [← hO]; rfl
      have hOl : O.data.toList = LX.ones := by rw [← hO]; rfl
      have HOL : Hid _ := hOl
      have HO : Hid _ := hO
      clear hsg hin hfr hOl HC
      obtain ⟨wx, hwx⟩ : ∃ wx, wr = wx := ⟨_, rfl⟩
      subst hwx
      rw [show ((3 : Nat) : Int) = (3 : Int) from rfl]
      go_wp2_with fail
      clear hO
      go_loopw [6] (fun iv wq => ∃ (i : Nat), iv = .int .i64 i ∧ i ≤ 12 ∧ (∀ c ∈ LX.ones.take i, S.data.toList.head? ≠ some c) ∧ Fr w wq) (fun iv _ => 12 - (intOf iv).toNat)
      case atStart => exact ⟨0, rfl, by omega, (fun c hc => by cases hc), HFR.out⟩
      case round =>
        obtain ⟨i, rfl, hi, hin, hfr⟩ := hrel
        simp only [HO.out]
        by_cases hlt : i < 12
        · have hltZ : (i : Int) < 12 := by omega
          have hlO : i < O.size := by omega
          have hget : LX.ones[i]? = some O[i] := by rw [← HOL.out]; exact byte_at O i hlO
          have hmem : O[i] ∈ LX.ones := List.mem_of_getElem? hget
          have htk : LX.ones.take (i + 1) = LX.ones.take i ++ [O[i]] := by rw [List.take_add_one, hget]; rfl
          have cin := fun W => in_any S 0 (O[i].toNat : Int) (O[i].toNat : Int) (by omega) (by omega) (by omega) W
          rw [Int.toNat_natCast, show (0 : Int).toNat = 0 from rfl, in_eq] at cin
          have hw1 := wrap_byte O[i]
          have hw2 : IntKind.i64.wrap (O[i].toNat : Int) = (O[i].toNat : Int) := by
            have := O[i].toNat_lt
            simp only [IntKind.wrap]; simp [IntKind.min, IntKind.max, IntKind.signed, IntKind.bits]; omega
          by_cases hh : S.data.toList.head? = some O[i]
          · rw [decide_eq_true hh] at cin
            have HM : Hid (LX.sgl S.data.toList = 1) := by unfold Hid; rw [HSG.out, if_pos ⟨_, hmem, hh⟩]
            clear hh hmem htk hget hin hw1
            go_wp2_with fail
            go_region_with (go_at_call 26; refine (cin _).mono ?_; rintro _ w2 ⟨rfl, rfl⟩)
            all_goals
              go_wp2_with fail
              go_ret
              exact ⟨by rw [HM.out]; rfl, by first | exact Fr.drew hfr | exact hfr⟩
          · rw [decide_eq_false hh] at cin
            have HN : Hid (∀ c ∈ LX.ones.take (i + 1), S.data.toList.head? ≠ some c) := fun c hc => by
              rw [htk, List.mem_append, List.mem_singleton] at hc
              rcases hc with hc | rfl
              · exact hin c hc
              · exact hh
            clear hh hmem htk hget hin hw1
            go_wp2_with fail
            go_region_with (go_at_call 26; refine (cin _).mono ?_; rintro _ w2 ⟨rfl, rfl⟩)
            all_goals
              go_wp2_with fail
              go_roundw
              case rel => exact ⟨i + 1, by go_num, by omega, HN.out, by first | exact Fr.drew hfr | exact hfr⟩
              case measure => simp [intOf]; omega
        · obtain rfl : i = 12 := by omega
          have HM : Hid (LX.sgl S.data.toList = 0) := by
            unfold Hid
            rw [HSG.out, if_neg]
            rintro ⟨c, hc, hh⟩
            exact hin c (by simpa [LX.ones] using hc) hh
          clear hin
          go_wp2_with fail
          go_ret
          exact ⟨by rw [HM.out]; rfl, hfr⟩
end Go.Proofs.YtoagobpkenfbkaaGreatDoor
