/-
  What the document's valueOfKey answers: the value of its key.
-/
import Derived.Test.YtpalikdnpchdeaaKEnd
namespace Go.Proofs.Ytpalikdnpchdeaa
open Go.ChangeShapes Go.WideShapes Go.ChangeAt Go.RowKit
set_option linter.unusedVariables false
set_option linter.unusedSimpArgs false
set_option maxRecDepth 100000

theorem size_of_list {s : ByteArray} {l : List UInt8} (h : s.data.toList = l) : s.size = l.length := by
  rw [← h, Array.length_toList]; rfl
theorem get_of_list {s : ByteArray} {l : List UInt8} (h : s.data.toList = l) (i : Nat) (hi : i < s.size) (hl : i < l.length) : s[i] = l[i] := by
  subst h
  rfl
theorem back_wrap (u : Nat) (h : u < 18446744073709551616) : IntKind.i64.wrap (IntKind.u64.wrap ((u : Int) + 9223372036854775808)) = (u : Int) - 9223372036854775808 := by
  simp only [IntKind.wrap]; simp [IntKind.min, IntKind.max, IntKind.signed, IntKind.bits]; omega

theorem valueOfKey_null (s : ByteArray) (b : UInt8) (w : World) (h : s.data.toList = [b]) (hb : b.toNat = 5) :
    Calls Try.prog 51 #[.string s] w fun e w' => e = .returned (.agg #[.int .i64 0, .int .i64 0, .string ⟨#[]⟩]) ∧ Fr w w' := by
  have hsz := size_of_list h
  have hpos' : (0 : Int) < (s.size : Int) := by rw [hsz]; simp
  have hpos : 0 < s.size := by omega
  have q : (s[0].toNat : Int) = 5 := by rw [get_of_list h 0 hpos (by simp)]; simp [hb]
  clear hsz h hb
  go_enter Try.func51, Try.ntmps51
  go_wp2_with fail
  refine bodyPost_ret (v := .agg #[.int .i64 0, .int .i64 0, .string ⟨#[]⟩]) (by simp [results, Try.results51, go_sem]) rfl ?_
  exact ⟨rfl, (Fr.refl _).alloc _⟩

set_option maxHeartbeats 1000000 in
theorem valueOfKey_int (s : ByteArray) (b : UInt8) (t : List UInt8) (w : World) (h : s.data.toList = b :: t) (hb : b.toNat = 16) (ht : t.length = 8) :
    Calls Try.prog 51 #[.string s] w fun e w' => e = .returned (.agg #[.int .i64 1, .int .i64 ((KR.bv t : Int) - 9223372036854775808), .string ⟨#[]⟩]) ∧ Fr w w' := by
  have hsz := size_of_list h
  rw [List.length_cons, ht] at hsz
  have hpos' : (0 : Int) < (s.size : Int) := by rw [hsz]; decide
  have hpos : 0 < s.size := by omega
  have q : (s[0].toNat : Int) = 16 := by rw [get_of_list h 0 hpos (by simp)]; simp [hb]
  have HG : Hid (∀ i (hi : i + 1 < s.size) (hj : i < t.length), s[i + 1] = t[i]) := by
    intro i hi hj
    rw [get_of_list h (i + 1) hi (by simp; omega)]
    simp
  have HT : Hid _ := ht
  have HS : Hid _ := hsz
  have hbv := KR.bv_lt t
  rw [ht] at hbv
  have hbv' : KR.bv t < 18446744073709551616 := hbv
  have HW := back_wrap (KR.bv t) hbv'
  clear hsz h hb ht hbv
  go_enter Try.func51, Try.ntmps51
  go_wp2_with fail
  go_loopw [3, 4] (fun nv iv wr => ∃ i : Nat, iv = .int .i64 ((i : Int) + 1) ∧ i ≤ 8 ∧ nv = .int .u64 (KR.bv (t.take i) : Nat) ∧ wr = w.alloc (.cells #[.int .i64 0, .int .i64 0, .string ⟨#[]⟩] 52)) (fun _ iv _ => 9 - (intOf iv).toNat)
  case atStart => exact ⟨0, rfl, by omega, rfl, rfl⟩
  case round =>
    obtain ⟨i, rfl, hi, rfl, rfl⟩ := hrel
    by_cases hlt : i < 8
    · have hltZ : (i : Int) + 1 < 9 := by omega
      have hsi : i + 1 < s.size := by rw [HS.out]; omega
      have hsiZ : (i : Int) + 1 < (s.size : Int) := by omega
      have hp : (0 : Int) ≤ (i : Int) + 1 := by omega
      have hti : i < t.length := by rw [HT.out]; exact hlt
      have hg := HG.out i hsi hti
      have hl := KR.bv_lt (t.take i)
      have hl7 : KR.bv (t.take i) < 72057594037927936 := by
        refine Nat.lt_of_lt_of_le hl ?_
        have : (t.take i).length ≤ 7 := by rw [List.length_take]; omega
        exact Nat.le_trans (Nat.pow_le_pow_right (by decide) this) (by decide)
      have HN : Hid (KR.bv (t.take (i + 1)) = KR.bv (t.take i) * 256 + s[i + 1].toNat) := by
        unfold Hid
        rw [List.take_succ_eq_append_getElem hti, KR.bv_snoc, hg]
      have hby : s[i + 1].toNat < 256 := s[i + 1].toNat_lt
      generalize KR.bv (t.take i) = q at *
      have z1 : (q : Int) * 256 ≤ 18446744073709551615 := by omega
      have z2 : (q : Int) * 256 + (s[i + 1].toNat : Int) ≤ 18446744073709551615 := by omega
      clear hg hl
      go_wp2_with fail
      go_roundw
      case rel => exact ⟨i + 1, by go_num, by omega, by rw [HN.out]; go_num, by first | rfl | trivial⟩
      case measure => simp [intOf]; omega
    · obtain rfl : i = 8 := by omega
      have e8 : t.take 8 = t := List.take_of_length_le (by rw [HT.out]; exact Nat.le_refl _)
      rw [e8]
      obtain ⟨q, hq⟩ : ∃ q, KR.bv t = q := ⟨_, rfl⟩
      rw [hq] at HW ⊢
      have HQ : Hid _ := hq
      clear e8 hq
      go_wp2_with fail
      refine bodyPost_ret (v := .agg #[.int .i64 1, .int .i64 ((q : Int) - 9223372036854775808), .string ⟨#[]⟩]) (by simp [results, Try.results51, go_sem, HW]) rfl ?_
      exact ⟨by rw [HQ.out], (Fr.refl _).alloc _⟩

theorem fr_set3 {w w' : World} (f : Fr w w') {g : Nat} (hg : w.heap.size ≤ g) (a b c : Value) : Fr w (((w'.setCell ⟨g, 0, none⟩ a).setCell ⟨g, 1, none⟩ b).setCell ⟨g, 2, none⟩ c) :=
  Below.setCell (p := ⟨g, 2, none⟩) (Below.setCell (p := ⟨g, 1, none⟩) (Below.setCell (p := ⟨g, 0, none⟩) f hg a) hg b) hg c
/-- a box of a value that may be written -/
structure Bx (w : World) (g : Nat) (k n : Int) (s : ByteArray) : Prop where
  at_ : w.heap[g]? = some (.cells #[.int .i64 k, .int .i64 n, .string s] 52 (0, 0))
theorem Bx.new (w : World) (k n : Int) (s : ByteArray) : Bx (w.alloc (.cells #[.int .i64 k, .int .i64 n, .string s] 52)) w.heap.size k n s := ⟨by
  show (w.heap.push _)[w.heap.size]? = _
  rw [Array.getElem?_push_size]⟩
theorem Bx.c0 {w : World} {g : Nat} {k n : Int} {s : ByteArray} (h : Bx w g k n s) : w.cell? ⟨g, 0, none⟩ = some (.int .i64 k) := (Lib.cell_of_heap h.at_ _).trans rfl
theorem Bx.c1 {w : World} {g : Nat} {k n : Int} {s : ByteArray} (h : Bx w g k n s) : w.cell? ⟨g, 1, none⟩ = some (.int .i64 n) := (Lib.cell_of_heap h.at_ _).trans rfl
theorem Bx.c2 {w : World} {g : Nat} {k n : Int} {s : ByteArray} (h : Bx w g k n s) : w.cell? ⟨g, 2, none⟩ = some (.string s) := (Lib.cell_of_heap h.at_ _).trans rfl
theorem Bx.z {w : World} {g : Nat} {k n : Int} {s : ByteArray} (h : Bx w g k n s) (i : Nat) : w.frozen? ⟨g, i, none⟩ = false := Lib.frozen_of_heap h.at_ i
theorem Bx.set {w : World} {g : Nat} {k n : Int} {s : ByteArray} (h : Bx w g k n s) (t : ByteArray) : Bx ((w.setCell ⟨g, 2, none⟩ (.string t)).drew) g k n t := ⟨heap_setCell_same w g 2 _ _ (.string t) h.at_⟩
theorem Bx.other {w : World} {g : Nat} {k n : Int} {s : ByteArray} (h : Bx w g k n s) {g' : Nat} (hg : g ≠ g') (v : Value) : Bx ((w.setCell ⟨g', 2, none⟩ v).drew) g k n s := ⟨(heap_setCell_other w ⟨g', 2, none⟩ g v hg).trans h.at_⟩
theorem un_zero' {b : UInt8} (h : b.toNat = 0) (r : List UInt8) : UK.un (b :: r) = b :: UK.un (r.drop 1) := by
  cases r with
  | nil => rfl
  | cons c r => rw [UK.un_zero h]; rfl
theorem one_list (s : ByteArray) (i : Nat) (h : i < s.size) : (s.extract i (i + 1)).data.toList = [s[i]] := by
  have : (s.extract i (i + 1)).data.toList = (s.data.toList.drop i).take 1 := by simp
  rw [this, List.drop_eq_getElem_cons (by simpa using h)]
  rfl

set_option maxHeartbeats 1000000 in
theorem valueOfKey_text (s : ByteArray) (b : UInt8) (e : List UInt8) (k : Nat) (w : World) (h : s.data.toList = b :: (e ++ [0, 1])) (hb : b.toNat = 32 ∧ k = 2 ∨ b.toNat = 48 ∧ k = 3) (hs : s.size ≤ 140737488355327) :
    Calls Try.prog 51 #[.string s] w fun r w' => r = .returned (.agg #[.int .i64 k, .int .i64 0, .string ⟨(UK.un e).toArray⟩]) ∧ Fr w w' := by
  have hsz := size_of_list h
  have hz : s.size = e.length + 3 := by rw [hsz]; simp
  have hpos' : (0 : Int) < (s.size : Int) := by omega
  have hpos : 0 < s.size := by omega
  have hb0 : s[0] = b := by rw [get_of_list h 0 hpos (by simp)]; rfl
  have q5 : ((s[0].toNat : Int) == 5) = false := by rw [hb0, beq_eq_false_iff_ne]; omega
  have q16 : ((s[0].toNat : Int) == 16) = false := by rw [hb0, beq_eq_false_iff_ne]; omega
  have p5 : ¬ (s[0].toNat : Int) = 5 := by rw [hb0]; omega
  have p16 : ¬ (s[0].toNat : Int) = 16 := by rw [hb0]; omega
  have qd : wrap64 ((wrap64 (s[0].toNat : Int)).tdiv 16) = (k : Int) := by rw [hb0]; rcases hb with ⟨h1, rfl⟩ | ⟨h1, rfl⟩ <;> rw [h1] <;> decide +kernel
  have HG : Hid (∀ i (hi : i + 1 < s.size) (he : i < e.length), s[i + 1] = e[i]) := by
    intro i hi he
    rw [get_of_list h (i + 1) hi (by simp; omega)]
    simp [he]
  have HZ : Hid _ := hz
  clear hsz h hb0 hb hz
  obtain ⟨W0, hW0⟩ : ∃ W0, (w.alloc (.cells #[.int .i64 0, .int .i64 0, .string ⟨#[]⟩] 52)).alloc (.cells #[.int .i64 k, .int .i64 0, .string ⟨#[]⟩] 52) = W0 := ⟨_, rfl⟩
  have f0 : Fr w W0 := by rw [← hW0]; exact ((Fr.refl w).alloc _).alloc _
  have bx : Bx W0 (w.heap.size + 1) k 0 ⟨#[]⟩ := by
    rw [← hW0]
    have := Bx.new (w.alloc (.cells #[.int .i64 0, .int .i64 0, .string ⟨#[]⟩] 52)) k 0 ⟨#[]⟩
    rwa [show (w.alloc (.cells #[.int .i64 0, .int .i64 0, .string ⟨#[]⟩] 52)).heap.size = w.heap.size + 1 by simp] at this
  have br : Bx W0 w.heap.size 0 0 ⟨#[]⟩ := by
    rw [← hW0]
    exact ⟨((((Fr.refl _).alloc _).block _ (by simp)).trans (Bx.new w 0 0 ⟨#[]⟩).at_)⟩
  have HW : Hid _ := hW0
  have HF0 : Hid _ := f0
  have HBX : Hid _ := bx
  have HBR : Hid _ := br
  clear hW0 f0 bx br
  go_enter Try.func51, Try.ntmps51
  go_wp2_with fail
  go_loopw [6] (fun iv wr => ∃ (j : Nat) (S : ByteArray), iv = .int .i64 ((j : Int) + 1) ∧ j ≤ e.length + 1 ∧ S.data.toList ++ UK.un (e.drop j) = UK.un e ∧ S.size ≤ j ∧ Bx wr (w.heap.size + 1) k 0 S ∧ Bx wr w.heap.size 0 0 ⟨#[]⟩ ∧ Fr w wr) (fun iv _ => e.length + 2 - (intOf iv).toNat)
  case atStart => exact ⟨0, ⟨#[]⟩, rfl, by omega, rfl, Nat.le_refl _, by rw [HW.out]; exact HBX.out, by rw [HW.out]; exact HBR.out, by rw [HW.out]; exact HF0.out⟩
  case round =>
    obtain ⟨j, S, rfl, hj, hS, hSs, bx, br, hfr⟩ := hrel
    by_cases hlt : j < e.length
    · have hjs : j + 1 < s.size := by rw [HZ.out]; omega
      have hltZ : (j : Int) + 1 < (s.size : Int) - 2 := by rw [HZ.out]; omega
      have hltY : (j : Int) + 1 < (s.size : Int) := by omega
      have hltX : (j : Int) + 1 + 1 ≤ (s.size : Int) := by omega
      have hp : (0 : Int) ≤ (j : Int) + 1 := by omega
      have hsZ : (s.size : Int) ≤ 140737488355327 := by omega
      have wj : IntKind.i64.wrap ((j : Int) + 1 + 1) = (j : Int) + 1 + 1 := by simp only [IntKind.wrap]; simp [IntKind.min, IntKind.max, IntKind.signed, IntKind.bits]; omega
      have hg := HG.out j hjs hlt
      have hol := one_list s (j + 1) hjs
      have hd : e.drop j = e[j] :: e.drop (j + 1) := List.drop_eq_getElem_cons hlt
      rw [hd, ← hg] at hS
      have c2 := bx.c2
      have z2 := bx.z 2
      have hos : (s.extract (j + 1) (j + 1 + 1)).size = 1 := by rw [ByteArray.size_extract]; omega
      have hq : S.size + (s.extract (j + 1) (j + 1 + 1)).size ≤ 9223372036854775807 := by rw [hos]; omega
      have HB : Hid (Bx ((wr.setCell ⟨w.heap.size + 1, 2, none⟩ (.string (S ++ s.extract (j + 1) (j + 1 + 1)))).drew) (w.heap.size + 1) k 0 (S ++ s.extract (j + 1) (j + 1 + 1))) := bx.set _
      have HR : Hid (Bx ((wr.setCell ⟨w.heap.size + 1, 2, none⟩ (.string (S ++ s.extract (j + 1) (j + 1 + 1)))).drew) w.heap.size 0 0 ⟨#[]⟩) := br.other (by omega) _
      have HF : Hid (Fr w ((wr.setCell ⟨w.heap.size + 1, 2, none⟩ (.string (S ++ s.extract (j + 1) (j + 1 + 1)))).drew)) := Fr.drew (Below.setCell (p := ⟨w.heap.size + 1, 2, none⟩) hfr (by simp) _)
      have HD : Hid ((S ++ s.extract (j + 1) (j + 1 + 1)).data.toList = S.data.toList ++ [s[j + 1]]) := by unfold Hid; rw [data_append, hol]
      have HSZ : Hid ((S ++ s.extract (j + 1) (j + 1 + 1)).size ≤ j + 1) := by unfold Hid; rw [ByteArray.size_append, hos]; omega
      by_cases h0 : s[j + 1].toNat = 0
      · have z0 : (s[j + 1].toNat : Int) = 0 := by omega
        rw [un_zero' h0, List.drop_drop] at hS
        have HX : Hid ((S ++ s.extract (j + 1) (j + 1 + 1)).data.toList ++ UK.un (e.drop (j + 2)) = UK.un e) := by unfold Hid; rw [HD.out, List.append_assoc]; exact hS
        clear hS hd hg hol bx br hfr HD hos HG HBX HBR HF0 HW
        go_wp2_with fail
        go_region
        go_wp2_with fail
        go_roundw
        case rel => exact ⟨j + 2, _, by go_num, by omega, HX.out, by have := HSZ.out; omega, HB.out, HR.out, HF.out⟩
        case measure => simp [intOf]; omega
      · have z0 : ((s[j + 1].toNat : Int) == 0) = false := by rw [beq_eq_false_iff_ne]; omega
        have y0 : ¬ (s[j + 1].toNat : Int) = 0 := by omega
        rw [UK.un_step h0] at hS
        have HX : Hid ((S ++ s.extract (j + 1) (j + 1 + 1)).data.toList ++ UK.un (e.drop (j + 1)) = UK.un e) := by unfold Hid; rw [HD.out, List.append_assoc]; exact hS
        clear hS hd hg hol bx br hfr HD hos HG HBX HBR HF0 HW
        go_wp2_with fail
        go_region
        go_wp2_with fail
        go_roundw
        case rel => exact ⟨j + 1, _, by go_num, by omega, HX.out, HSZ.out, HB.out, HR.out, HF.out⟩
        case measure => simp [intOf]; omega
    · have hltZ : ¬ (j : Int) + 1 < (s.size : Int) - 2 := by rw [HZ.out]; omega
      have hE : e.drop j = [] := List.drop_of_length_le (by omega)
      rw [hE] at hS
      have HX : Hid (S = ⟨(UK.un e).toArray⟩) := by
        unfold Hid
        apply ByteArray.ext
        simp [UK.un] at hS
        rw [← hS]
      have c0 := bx.c0
      have c1 := bx.c1
      have c2 := bx.c2
      have d0 := br.c0
      have d1 := br.c1
      have d2 := br.c2
      have z0 := br.z 0
      have z1 := br.z 1
      have z2 := br.z 2
      have hfr' : Hid _ := hfr
      clear hS hE bx br hfr HG HBX HBR HF0 HW
      go_wp2_with fail
      refine bodyPost_ret (v := .agg #[.int .i64 k, .int .i64 0, .string S]) (by simp [results, Try.results51, go_sem, d0, d1, d2]) rfl ?_
      exact ⟨by rw [HX.out], fr_set3 hfr'.out (Nat.le_refl _) _ _ _⟩
end Go.Proofs.Ytpalikdnpchdeaa
