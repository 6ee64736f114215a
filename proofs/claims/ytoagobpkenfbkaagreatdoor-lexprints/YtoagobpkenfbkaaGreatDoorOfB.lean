/-
  undoubled, unhexed of package value.
-/
import Derived.Test.YtoagobpkenfbkaaGreatDoorOfA
namespace Go.Proofs.YtoagobpkenfbkaaGreatDoor
open Go.ChangeShapes Go.WideShapes Go.ChangeAt Go.RowKit Go.Shelf
set_option linter.unusedVariables false
set_option linter.unusedSimpArgs false

def c2l : ByteArray → List UInt8 := fun s => s.data.toList
theorem ext_take (S : ByteArray) (n : Nat) : (S.extract 0 n).data.toList = S.data.toList.take n := by simp
theorem ext_drop (S : ByteArray) (n : Nat) : (S.extract n S.size).data.toList = S.data.toList.drop n := by
  simp
  rw [show S.size - n = (S.data.toList.drop n).length by rw [List.length_drop, dl_size], List.take_length]
/-- what strings.Cut answers at a quote -/
def CutAt (S : ByteArray) (w : World) (e : Ending) (w' : World) : Prop :=
  Fr w w' ∧ (((39 : UInt8) ∉ S.data.toList ∧ e = .returned (.tuple #[.string S, .string ⟨#[]⟩, .bool false])) ∨
    ∃ p q : ByteArray, S.data.toList = p.data.toList ++ 39 :: q.data.toList ∧ (39 : UInt8) ∉ p.data.toList ∧ e = .returned (.tuple #[.string p, .string q, .bool true]))

set_option maxRecDepth 100000 in
set_option maxHeartbeats 1000000 in
theorem cutLite_any (S : ByteArray) (w : World) (hs : S.size ≤ 9223372036854775806) :
    Calls Tryz.prog 113 #[.string S, .string ⟨#[39]⟩] w (CutAt S w) := by
  have hix := Tryz.stringslite_Index_one S 39 w
  by_cases h : Lib.indexByte S.data.toList 39 = -1
  · rw [h] at hix
    have HN : Hid _ := VS.index_none h
    clear h
    go_enter Tryz.func113, Tryz.ntmps113
    go_wp2_with fail
    refine hix.mono ?_
    rintro _ w1 ⟨rfl, rfl⟩
    clear hix
    go_wp2_with fail
    go_ret3
    exact ⟨Fr.refl _, Or.inl ⟨HN.out, rfl⟩⟩
  · obtain ⟨h1, h2, h3, h4⟩ := VS.index_some rfl h
    generalize Lib.indexByte S.data.toList 39 = i at *
    obtain ⟨n, rfl⟩ : ∃ n : Nat, i = n := ⟨_, (Int.toNat_of_nonneg h1).symm⟩
    simp only [Int.toNat_natCast] at h2 h3 h4
    rw [dl_size] at h2
    have q1 : (n : Int) < (S.size : Int) := by omega
    have q2 : n + 1 ≤ S.size := by omega
    have HN : Hid _ := h3
    have HM : Hid _ := h4
    clear h h1 h3 h4
    go_enter Tryz.func113, Tryz.ntmps113
    go_wp2_with fail
    refine hix.mono ?_
    rintro _ w1 ⟨rfl, rfl⟩
    clear hix
    go_wp2_with fail
    go_quiet (fail)
    go_wp2_with fail
    go_ret3
    refine ⟨Fr.drewN (Fr.refl _) _, Or.inr ⟨S.extract 0 n, S.extract (n + 1) S.size, ?_, ?_, rfl⟩⟩
    · rw [ext_take, ext_drop]; exact HN.out
    · rw [ext_take]; exact HM.out

set_option maxRecDepth 100000 in
set_option maxHeartbeats 1000000 in
theorem cut_any (S : ByteArray) (w : World) (hs : S.size ≤ 9223372036854775806) :
    Calls Tryz.prog 99 #[.string S, .string ⟨#[39]⟩] w (CutAt S w) := by
  have hc := cutLite_any S w hs
  go_enter Tryz.func99, Tryz.ntmps99
  go_wp2_with fail
  refine hc.mono ?_
  rintro _ w1 ⟨hf, ⟨h1, rfl⟩ | ⟨p, q, h1, h2, rfl⟩⟩
  · have HF : Hid _ := hf
    have HN : Hid _ := h1
    clear hf h1 hc
    go_wp2_with fail
    go_ret3
    exact ⟨HF.out, Or.inl ⟨HN.out, rfl⟩⟩
  · have HF : Hid _ := hf
    have HN : Hid _ := h1
    have HM : Hid _ := h2
    clear hf h1 h2 hc
    go_wp2_with fail
    go_ret3
    exact ⟨HF.out, Or.inr ⟨p, q, HN.out, HM.out, rfl⟩⟩

def strSz : Value → Nat
  | .string s => s.size
  | _ => 0
/-- what undoubled answers -/
def udV (o : Option VS.Bs) : Value := .tuple #[.string ⟨(o.getD []).toArray⟩, .bool o.isSome]

set_option maxRecDepth 100000 in
set_option maxHeartbeats 2000000 in
theorem undoubled_any (S : ByteArray) (w : World) (hs : S.size ≤ 140737488355327) :
    Calls Tryz.prog 82 #[.string S] w fun e w' => e = .returned (udV (VS.undbl S.data.toList)) ∧ Fr w w' := by
  have hb0 := Bd.fresh w
  have hl0 : Below w.heap.size w (w.alloc (.cells #[.pointer none, .slice none 0 0] 63)) := (Fr.refl w).alloc _
  have HB : Hid _ := hb0
  have HL : Hid _ := hl0
  clear hb0 hl0
  obtain ⟨U, hU⟩ : ∃ U, VS.undbl S.data.toList = U := ⟨_, rfl⟩
  rw [hU]
  have HU : Hid _ := hU
  clear hU
  go_enter Tryz.func82, Tryz.ntmps82
  go_wp2_with fail
  go_loopw [0] (fun iv wr => ∃ (T : ByteArray) (out : VS.Bs), iv = .string T ∧ Bd w.heap.size w.heap.size out wr ∧ Below w.heap.size w wr ∧ U = (VS.undbl T.data.toList).map (out ++ ·) ∧ out.length + T.size ≤ S.size) (fun iv _ => strSz iv)
  case atStart => exact ⟨S, [], rfl, HB.out, HL.out, by rw [HU.out]; simp, by simp⟩
  case round =>
    obtain ⟨T, out, rfl, hbd, hbl, hun, hln⟩ := hrel
    have HD : Hid _ := hbd
    have HBL : Hid _ := hbl
    have HUN : Hid _ := hun
    have hsz := hbl.size
    have hct := cut_any T wr (by omega)
    clear hbd hbl hun HB HL HU
    go_wp2_with fail
    refine hct.mono ?_
    rintro _ w1 ⟨hf, ⟨h1, rfl⟩ | ⟨p, q, h1, h2, rfl⟩⟩
    · have hws := writeString_any w.heap.size w.heap.size out T w1 (Bd.fr HD.out hf) (by omega) (by have := hf.size; omega)
      have HR : Hid (U = some (out ++ T.data.toList)) := by unfold Hid; rw [HUN.out, VS.undbl_none h1]; rfl
      have hsz1 := hf.size
      have HF : Hid _ := hf
      clear h1 hct hf
      go_wp2_with fail
      refine hws.mono ?_
      rintro _ w2 ⟨rfl, hb2, hl2, _⟩
      have hsz2 := hl2.size
      have hst := string_any w.heap.size w.heap.size _ w2 hb2 (by omega)
      have HL2 : Hid _ := hl2
      clear hws hl2 hb2
      go_wp2_with fail
      refine hst.mono ?_
      rintro _ w3 ⟨rfl, hl3⟩
      have HL3 : Hid (Fr w w3) := HBL.out.trans ((Below.mono HF.out hsz).trans (HL2.out.trans hl3))
      clear hst hl3
      go_wp2_with fail
      go_ret2
      exact ⟨by rw [HR.out]; rfl, HL3.out⟩
    · have hpl : T.size = p.size + 1 + q.size := by
        have := congrArg List.length h1
        rw [List.length_append, List.length_cons, dl_size, dl_size, dl_size] at this
        omega
      have hws := writeString_any w.heap.size w.heap.size out p w1 (Bd.fr HD.out hf) (by omega) (by have := hf.size; omega)
      have HR : Hid (U = (VS.undbl (39 :: q.data.toList)).map (fun r => out ++ p.data.toList ++ r)) := by
        unfold Hid
        rw [HUN.out, h1, VS.undbl_skip _ h2, Option.map_map]
        congr 1
        funext r
        simp
      have hsz1 := hf.size
      have HF : Hid _ := hf
      have hhp := fun W => Tryz.strings_HasPrefix q ⟨#[39]⟩ W
      rw [show (⟨#[39]⟩ : ByteArray).data.toList = [39] from rfl] at hhp
      clear h1 h2 hct hf
      cases hq : Lib.hasPrefix q.data.toList [39] with
      | false =>
        rw [hq] at hhp
        have HR2 : Hid (U = none) := by unfold Hid; rw [HR.out, VS.undbl_odd _ hq]; rfl
        clear hq HR
        go_wp2_with fail
        refine hws.mono ?_
        rintro _ w2 ⟨rfl, hb2, hl2, _⟩
        have HL2 : Hid (Fr w w2) := HBL.out.trans ((Below.mono HF.out hsz).trans hl2)
        clear hws hb2 hl2
        go_wp2_with fail
        refine (hhp _).mono ?_
        rintro _ w3 ⟨rfl, rfl⟩
        clear hhp
        go_wp2_with fail
        go_ret2
        exact ⟨by rw [HR2.out]; rfl, HL2.out⟩
      | true =>
        rw [hq] at hhp
        obtain ⟨r, hr⟩ := VS.pre_true hq
        have hql : 1 ≤ q.size := by rw [← dl_size, hr]; simp
        have hqZ : (1 : Int) ≤ (q.size : Int) := by omega
        have HQ : Hid ((q.extract 1 q.size).data.toList = r) := by unfold Hid; rw [ext_drop, hr]; rfl
        have hql2 : (q.extract 1 q.size).size = q.size - 1 := by simp
        have HR2 : Hid (U = (VS.undbl r).map (fun z => out ++ p.data.toList ++ [39] ++ z)) := by
          unfold Hid
          rw [HR.out, hr, VS.undbl_q, Option.map_map]
          congr 1
          funext z
          simp
        clear hq HR hr
        go_wp2_with fail
        refine hws.mono ?_
        rintro _ w2 ⟨rfl, hb2, hl2, _⟩
        have hsz2 := hl2.size
        have HL2 : Hid _ := hl2
        have hws2 := writeString_any w.heap.size w.heap.size _ ⟨#[39]⟩ w2 hb2 (by rw [List.length_append, dl_size, show (⟨#[39]⟩ : ByteArray).size = 1 from rfl]; omega) (by omega)
        clear hws hb2 hl2
        go_wp2_with fail
        refine (hhp _).mono ?_
        rintro _ w3 ⟨rfl, rfl⟩
        clear hhp
        go_wp2_with fail
        refine hws2.mono ?_
        rintro _ w4 ⟨rfl, hb4, hl4, _⟩
        have HB4 : Hid (Bd w.heap.size w.heap.size (out ++ p.data.toList ++ [39]) w4) := hb4
        have HL4 : Hid (Below w.heap.size w w4) := HBL.out.trans ((Below.mono HF.out hsz).trans (HL2.out.trans hl4))
        clear hb4 hl4 hws2
        go_wp2_with fail
        go_roundw
        case rel => exact ⟨q.extract 1 q.size, out ++ p.data.toList ++ [39], rfl, HB4.out, HL4.out, by rw [HR2.out, HQ.out], by rw [List.length_append, List.length_append, dl_size, hql2]; simp; omega⟩
        case measure => simp [strSz]; omega
end Go.Proofs.YtoagobpkenfbkaaGreatDoor
