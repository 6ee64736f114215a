/-
  How a text is shown: the two functions that show a byte, quoted.
-/
import Derived.Test.YtoagobpkenfbkaaGreatDoorBld
namespace Go.Proofs.YtoagobpkenfbkaaGreatDoor
open Go.ChangeShapes Go.WideShapes Go.ChangeAt Go.RowKit Go.Shelf
set_option linter.unusedVariables false
set_option linter.unusedSimpArgs false

theorem tab16 (i : Nat) (h : i < 16) : (⟨#[48, 49, 50, 51, 52, 53, 54, 55, 56, 57, 97, 98, 99, 100, 101, 102]⟩ : ByteArray)[i]'h = VS.hxd i := by
  have : ∀ m : Fin 16, (⟨#[48, 49, 50, 51, 52, 53, 54, 55, 56, 57, 97, 98, 99, 100, 101, 102]⟩ : ByteArray)[m.val]'m.2 = VS.hxd m.val := by decide
  exact this ⟨i, h⟩
def byV (l : List UInt8) : List Value := l.map fun b => .int .u8 (b.toNat : Int)
theorem conv_at (W : World) (g : Nat) (l : List UInt8) (h : W.heap[g]? = some (.cells (byV l).toArray 5 (0, 0))) : (convert 61 9 (.slice (some ⟨g, 0, none⟩) l.length l.length)).run Tryz.prog W = .ok (.string ⟨l.toArray⟩) W := by
  refine run_convert_bytes_back (P := Tryz.prog) _ 61 9 5 ⟨g, 0, none⟩ l.length l Tryz.underlying61 Tryz.underlying5 Tryz.underlying9 ?_
  intro j hj
  rw [show (⟨g, 0, none⟩ : Addr).add j = ⟨g, j, none⟩ by simp [Addr.add]; omega]
  refine (Lib.cell_of_heap h _).trans ?_
  simp [byV, hj]
theorem conv_one (w : World) (x : UInt8) : (convert 61 9 (.slice (some ⟨w.heap.size, 0, none⟩) 1 1)).run Tryz.prog (w.alloc (.cells #[.int .u8 (x.toNat : Int)] 5)) = .ok (.string ⟨#[x]⟩) (w.alloc (.cells #[.int .u8 (x.toNat : Int)] 5)) :=
  conv_at _ _ [x] (by show (w.heap.push _)[w.heap.size]? = _; rw [Array.getElem?_push_size]; rfl)
theorem conv_two (w : World) (x y : UInt8) : (convert 61 9 (.slice (some ⟨w.heap.size, 0, none⟩) 2 2)).run Tryz.prog (w.alloc (.cells #[.int .u8 (x.toNat : Int), .int .u8 (y.toNat : Int)] 5)).drew = .ok (.string ⟨#[x, y]⟩) (w.alloc (.cells #[.int .u8 (x.toNat : Int), .int .u8 (y.toNat : Int)] 5)).drew :=
  conv_at _ _ [x, y] (by show (w.heap.push _)[w.heap.size]? = _; rw [Array.getElem?_push_size]; rfl)
attribute [local go_sem] conv_one conv_two

set_option maxRecDepth 100000 in
set_option maxHeartbeats 1000000 in
theorem showT_any (b : UInt8) (w : World) : Calls Tryz.prog 71 #[.int .u8 (b.toNat : Int)] w fun e w' => e = .returned (.string ⟨(VS.dbl b).toArray⟩) ∧ Fr w w' := by
  by_cases h : b.toNat = 39
  · have e : VS.dbl b = [39, 39] := if_pos h
    rw [e, h]
    go_enter Tryz.func71, Tryz.ntmps71
    go_wp2
    go_ret
    exact ⟨rfl, Fr.refl _⟩
  · have e : VS.dbl b = [b] := if_neg h
    have h0 : ((⟨#[39]⟩ : ByteArray)[0]'(by decide)) = 39 := rfl
    have h1 : ((b.toNat : Int) == (((⟨#[39]⟩ : ByteArray)[0]'(by decide)).toNat : Int)) = false := by rw [h0]; simp; omega
    clear h0
    rw [e]
    go_enter Tryz.func71, Tryz.ntmps71
    go_wp2
    go_ret
    exact ⟨rfl, (Fr.refl _).alloc _⟩

set_option maxRecDepth 100000 in
set_option maxHeartbeats 1000000 in
theorem showB_any (b : UInt8) (w : World) : Calls Tryz.prog 72 #[.int .u8 (b.toNat : Int)] w fun e w' => e = .returned (.string ⟨(VS.hx b).toArray⟩) ∧ Fr w w' := by
  have hb := b.toNat_lt
  have q1 : b.toNat / 16 < 16 := by omega
  have q2 : b.toNat % 16 < 16 := by omega
  have HX : Hid (VS.hx b = [VS.hxd (b.toNat / 16), VS.hxd (b.toNat % 16)]) := rfl
  obtain ⟨i, hi⟩ : ∃ i : Nat, b.toNat / 16 = i := ⟨_, rfl⟩
  obtain ⟨j, hj⟩ : ∃ j : Nat, b.toNat % 16 = j := ⟨_, rfl⟩
  have e1 : (b.toNat : Int) / 16 = (i : Int) := by omega
  have e2 : (b.toNat : Int) % 16 = (j : Int) := by omega
  have e3 : IntKind.u8.wrap (i : Int) = (i : Int) := by simp only [IntKind.wrap]; simp [IntKind.min, IntKind.max, IntKind.signed, IntKind.bits]; omega
  rw [hi, hj] at HX
  rw [hi] at q1
  rw [hj] at q2
  have q3 : (i : Int) < 16 := by omega
  have q4 : (j : Int) < 16 := by omega
  rw [HX.out, ← tab16 i q1, ← tab16 j q2]
  clear hb hi hj HX
  go_enter Tryz.func72, Tryz.ntmps72
  go_wp2
  go_region
  go_wp2
  go_ret
  exact ⟨rfl, ((Fr.refl _).alloc _).drew⟩

theorem flat_len (g : UInt8 → List UInt8) (hg : ∀ b, (g b).length ≤ 2) : ∀ (l : List UInt8) {n : Nat}, l.length ≤ n → (l.flatMap g).length ≤ 2 * n
  | [], _, _ => by simp
  | b :: r, n, h => by
    have h1 := hg b
    have h2 := flat_len g hg r (n := n - 1) (by simp at h; omega)
    simp only [List.length_cons] at h
    rw [List.flatMap_cons, List.length_append]
    omega
theorem flat_step (g : UInt8 → List UInt8) (s : ByteArray) (i : Nat) (h : i < s.size) : (s.data.toList.take (i + 1)).flatMap g = (s.data.toList.take i).flatMap g ++ g s[i] := by
  have hl : i < s.data.toList.length := by rw [Array.length_toList]; exact h
  rw [List.take_succ_eq_append_getElem hl, List.flatMap_append]
  congr 1
  simp
  rfl

set_option maxRecDepth 100000 in
set_option maxHeartbeats 1000000 in
theorem quotedT_any (g : UInt8 → List UInt8) (s : ByteArray) (w : World) (hs : s.size ≤ 16) (hg : ∀ b, (g b).length ≤ 2) (hclo : ∀ b w, Calls Tryz.prog 71 #[.int .u8 (b.toNat : Int)] w fun e w' => e = .returned (.string ⟨(g b).toArray⟩) ∧ Fr w w') :
    Calls Tryz.prog 70 #[.string s, .func (.func 71) #[] #[]] w fun e w' => e = .returned (.string ⟨(39 :: s.data.toList.flatMap g ++ [39]).toArray⟩) ∧ Fr w w' := by
  have hws0 := writeString_any w.heap.size w.heap.size [] ⟨#[39]⟩ (w.alloc (.cells #[.pointer none, .slice none 0 0] 63)) (Bd.fresh w) (by decide) (by simp)
  go_enter Tryz.func70, Tryz.ntmps70
  go_wp2_with fail
  refine hws0.mono ?_
  rintro _ w1 ⟨rfl, hb1, hl1, _⟩
  have h1 : Below w.heap.size w w1 := Below.trans (Fr.alloc (Fr.refl w) _) hl1
  have HB : Hid (Bd w.heap.size w.heap.size [39] w1) := hb1
  clear hb1 hl1
  have hlen : (s.data.toList.length : Int) = (s.size : Int) := by rw [Array.length_toList]; rfl
  go_wp2
  go_loopw [10] (fun iv wr => ∃ i : Nat, iv = .int .i64 i ∧ i ≤ s.size ∧ Bd w.heap.size w.heap.size (39 :: (s.data.toList.take i).flatMap g) wr ∧ Below w.heap.size w wr) (fun iv _ => s.size - (intOf iv).toNat)
  case atStart => exact ⟨0, rfl, Nat.zero_le _, by simpa using HB.out, h1⟩
  case round =>
    obtain ⟨i, rfl, hi, hbd, hbl⟩ := hrel
    have HD : Hid _ := hbd
    have hsz := hbl.size
    have HBL : Hid _ := hbl
    clear hbd hbl HB h1
    by_cases hlt : i < s.size
    · have hltZ : (i : Int) < (s.size : Int) := by omega
      have hc := fun W => hclo s[i] W
      have hgl := hg s[i]
      have hfl : ((s.data.toList.take i).flatMap g).length ≤ 2 * i := flat_len g hg _ (by simp; omega)
      have HS : Hid ((s.data.toList.take (i + 1)).flatMap g = (s.data.toList.take i).flatMap g ++ g s[i]) := flat_step g s i hlt
      generalize g s[i] = gx at *
      go_wp2_with fail
      refine (hc _).mono ?_
      rintro _ w2 ⟨rfl, f2⟩
      have hws := writeString_any w.heap.size w.heap.size _ ⟨gx.toArray⟩ w2 (Bd.fr HD.out f2) (by rw [mk_size, List.length_cons]; omega) (by have := f2.size; omega)
      go_wp2_with fail
      refine hws.mono ?_
      rintro _ w3 ⟨rfl, hb3, hl3, _⟩
      have HR : Hid (Bd w.heap.size w.heap.size (39 :: (s.data.toList.take (i + 1)).flatMap g) w3) := by unfold Hid; rw [HS.out]; simpa using hb3
      have HL3 : Hid (Below w.heap.size w w3) := HBL.out.trans ((Below.mono f2 hsz).trans hl3)
      clear hb3 hl3 hws
      go_wp2
      go_roundw
      case rel => exact ⟨i + 1, by simp, hlt, HR.out, HL3.out⟩
      case measure => simp [intOf]; omega
    · have hltZ : ¬ (i : Int) < (s.size : Int) := by omega
      obtain rfl : i = s.size := by omega
      have HT : Hid (s.data.toList.take s.size = s.data.toList) := List.take_of_length_le (by omega)
      rw [HT.out] at HD
      have hfl : (s.data.toList.flatMap g).length ≤ 2 * s.size := flat_len g hg _ (by omega)
      have hws := writeString_any w.heap.size w.heap.size _ ⟨#[39]⟩ wr HD.out (by rw [show (⟨#[39]⟩ : ByteArray).size = 1 from rfl, List.length_cons]; omega) hsz
      go_wp2_with fail
      refine hws.mono ?_
      rintro _ w3 ⟨rfl, hb3, hl3, _⟩
      have hst := string_any w.heap.size w.heap.size _ w3 hb3 (by have := hl3.size; omega)
      go_wp2_with fail
      refine hst.mono ?_
      rintro _ w4 ⟨rfl, hl4⟩
      have HL4 : Hid (Fr w w4) := HBL.out.trans (hl3.trans hl4)
      clear hb3 hl3 hl4 hst hws
      go_wp2
      go_ret
      exact ⟨by simp, HL4.out⟩
set_option maxRecDepth 100000 in
set_option maxHeartbeats 1000000 in
theorem quotedB_any (g : UInt8 → List UInt8) (s : ByteArray) (w : World) (hs : s.size ≤ 16) (hg : ∀ b, (g b).length ≤ 2) (hclo : ∀ b w, Calls Tryz.prog 72 #[.int .u8 (b.toNat : Int)] w fun e w' => e = .returned (.string ⟨(g b).toArray⟩) ∧ Fr w w') :
    Calls Tryz.prog 70 #[.string s, .func (.func 72) #[] #[]] w fun e w' => e = .returned (.string ⟨(39 :: s.data.toList.flatMap g ++ [39]).toArray⟩) ∧ Fr w w' := by
  have hws0 := writeString_any w.heap.size w.heap.size [] ⟨#[39]⟩ (w.alloc (.cells #[.pointer none, .slice none 0 0] 63)) (Bd.fresh w) (by decide) (by simp)
  go_enter Tryz.func70, Tryz.ntmps70
  go_wp2_with fail
  refine hws0.mono ?_
  rintro _ w1 ⟨rfl, hb1, hl1, _⟩
  have h1 : Below w.heap.size w w1 := Below.trans (Fr.alloc (Fr.refl w) _) hl1
  have HB : Hid (Bd w.heap.size w.heap.size [39] w1) := hb1
  clear hb1 hl1
  have hlen : (s.data.toList.length : Int) = (s.size : Int) := by rw [Array.length_toList]; rfl
  go_wp2
  go_loopw [10] (fun iv wr => ∃ i : Nat, iv = .int .i64 i ∧ i ≤ s.size ∧ Bd w.heap.size w.heap.size (39 :: (s.data.toList.take i).flatMap g) wr ∧ Below w.heap.size w wr) (fun iv _ => s.size - (intOf iv).toNat)
  case atStart => exact ⟨0, rfl, Nat.zero_le _, by simpa using HB.out, h1⟩
  case round =>
    obtain ⟨i, rfl, hi, hbd, hbl⟩ := hrel
    have HD : Hid _ := hbd
    have hsz := hbl.size
    have HBL : Hid _ := hbl
    clear hbd hbl HB h1
    by_cases hlt : i < s.size
    · have hltZ : (i : Int) < (s.size : Int) := by omega
      have hc := fun W => hclo s[i] W
      have hgl := hg s[i]
      have hfl : ((s.data.toList.take i).flatMap g).length ≤ 2 * i := flat_len g hg _ (by simp; omega)
      have HS : Hid ((s.data.toList.take (i + 1)).flatMap g = (s.data.toList.take i).flatMap g ++ g s[i]) := flat_step g s i hlt
      generalize g s[i] = gx at *
      go_wp2_with fail
      refine (hc _).mono ?_
      rintro _ w2 ⟨rfl, f2⟩
      have hws := writeString_any w.heap.size w.heap.size _ ⟨gx.toArray⟩ w2 (Bd.fr HD.out f2) (by rw [mk_size, List.length_cons]; omega) (by have := f2.size; omega)
      go_wp2_with fail
      refine hws.mono ?_
      rintro _ w3 ⟨rfl, hb3, hl3, _⟩
      have HR : Hid (Bd w.heap.size w.heap.size (39 :: (s.data.toList.take (i + 1)).flatMap g) w3) := by unfold Hid; rw [HS.out]; simpa using hb3
      have HL3 : Hid (Below w.heap.size w w3) := HBL.out.trans ((Below.mono f2 hsz).trans hl3)
      clear hb3 hl3 hws
      go_wp2
      go_roundw
      case rel => exact ⟨i + 1, by simp, hlt, HR.out, HL3.out⟩
      case measure => simp [intOf]; omega
    · have hltZ : ¬ (i : Int) < (s.size : Int) := by omega
      obtain rfl : i = s.size := by omega
      have HT : Hid (s.data.toList.take s.size = s.data.toList) := List.take_of_length_le (by omega)
      rw [HT.out] at HD
      have hfl : (s.data.toList.flatMap g).length ≤ 2 * s.size := flat_len g hg _ (by omega)
      have hws := writeString_any w.heap.size w.heap.size _ ⟨#[39]⟩ wr HD.out (by rw [show (⟨#[39]⟩ : ByteArray).size = 1 from rfl, List.length_cons]; omega) hsz
      go_wp2_with fail
      refine hws.mono ?_
      rintro _ w3 ⟨rfl, hb3, hl3, _⟩
      have hst := string_any w.heap.size w.heap.size _ w3 hb3 (by have := hl3.size; omega)
      go_wp2_with fail
      refine hst.mono ?_
      rintro _ w4 ⟨rfl, hl4⟩
      have HL4 : Hid (Fr w w4) := HBL.out.trans (hl3.trans hl4)
      clear hb3 hl3 hl4 hst hws
      go_wp2
      go_ret
      exact ⟨by simp, HL4.out⟩
end Go.Proofs.YtoagobpkenfbkaaGreatDoor
