/-
  The reader of package record: a text of a key.
-/
import Derived.Test.YtpalikdnpchdeaaKRd
import Derived.Deep.LoopGhost
namespace Go.Proofs.Ytpalikdnpchdeaa
open Go.ChangeShapes Go.WideShapes Go.ChangeAt Go.RowKit
set_option linter.unusedVariables false
set_option linter.unusedSimpArgs false

theorem kt_nil (acc : List UInt8) : KR.kt [] acc = .error 1 := rfl
theorem kt_step {b : UInt8} (h : b.toNat ≠ 0) (t acc : List UInt8) : KR.kt (b :: t) acc = KR.kt t (acc ++ [b]) := by
  cases t with
  | nil => rfl
  | cons c u => rw [KR.kt, if_pos h]
theorem kt_one {b : UInt8} (acc : List UInt8) : KR.kt [b] acc = .error 1 := rfl
theorem kt_zero {b : UInt8} (h : b.toNat = 0) {c : UInt8} (hc : c.toNat = 255) (u acc : List UInt8) : KR.kt (b :: c :: u) acc = KR.kt u (acc ++ [0]) := by
  rw [KR.kt, if_neg (by omega), if_pos hc]
theorem kt_end {b : UInt8} (h : b.toNat = 0) {c : UInt8} (hc : c.toNat = 1) (u acc : List UInt8) : KR.kt (b :: c :: u) acc = if 16 < acc.length then .error 2 else .ok (acc, u) := by
  rw [KR.kt, if_neg (by omega), if_neg (by omega), if_pos hc]
theorem kt_bad {b : UInt8} (h : b.toNat = 0) {c : UInt8} (hc : c.toNat ≠ 255) (hd : c.toNat ≠ 1) (u acc : List UInt8) : KR.kt (b :: c :: u) acc = .error 1 := by
  rw [KR.kt, if_neg (by omega), if_neg hc, if_neg hd]

theorem Mv.below {r : Nat} {w a b : World} (h : Mv r w a) (k : Below w.heap.size a b) : Mv r w b :=
  ⟨fun B h1 h2 => (h.1 B h1 h2).trans (k.mono h2), fun x h1 h2 => (k.block x h1).trans (h.2 x h1 h2)⟩
theorem RdAt.below {r B : Nat} {a b : World} {l : List UInt8} (h : RdAt a r l) (k : Below B a b) (hr : r < B) : RdAt b r l := h.other (k.block r hr)
theorem Bd.setLow {B b : Nat} {l : List UInt8} {w : World} (h : Bd B b l w) {r o : Nat} (hr : r < B) (v : Value) : Bd B b l (w.setCell ⟨r, o, none⟩ v) :=
  h.keep (fun k h1 h2 => Below.heap_setCell _ _ _ _ (by simp; omega))

theorem next_nil (r : Nat) (miss : Int) (w : World) (h : RdAt w r []) :
    Calls Try.prog 67 #[.pointer (some ⟨r, 0, none⟩), .int .i64 miss] w fun e w' => e = gave miss ∧ w' = w := by
  refine (next_any r miss [] w h (by simp)).mono ?_
  rintro e w1 (⟨_, rfl, rfl⟩ | ⟨b, t, h1, _⟩)
  · exact ⟨rfl, rfl⟩
  · cases h1
theorem next_cons (r : Nat) (miss : Int) (b : UInt8) (t : List UInt8) (w : World) (h : RdAt w r (b :: t)) (hl : (b :: t).length ≤ 9223372036854775807) :
    Calls Try.prog 67 #[.pointer (some ⟨r, 0, none⟩), .int .i64 miss] w fun e w' => e = .returned (.int .u8 (b.toNat : Int)) ∧ RdAt w' r t ∧ Hid (w' = w.setCell ⟨r, 0, none⟩ (.string ⟨t.toArray⟩)) := by
  refine (next_any r miss (b :: t) w h hl).mono ?_
  rintro e w1 (⟨h1, _⟩ | ⟨b', t', h1, rfl, rfl⟩)
  · cases h1
  · cases h1
    exact ⟨rfl, h.set t, rfl⟩

set_option maxRecDepth 100000 in
set_option maxHeartbeats 2000000 in
theorem keyText_any (r : Nat) (l : List UInt8) (w : World) (h : RdAt w r l) (hl : l.length ≤ 140737488351232) :
    Calls Try.prog 77 #[.pointer (some ⟨r, 0, none⟩)] w (Gv r w (KR.kt l []) fun s e _ => e = .returned (.string ⟨s.toArray⟩)) := by
  have hrl := h.lt
  have HR : Hid _ := h.alloc (.cells #[.pointer none, .slice none 0 0] 44)
  have HM : Hid _ := (Mv.refl r w).alloc (.cells #[.pointer none, .slice none 0 0] 44)
  have HB : Hid _ := Bd.fresh w
  clear h
  generalize hX : KR.kt l [] = X
  have HX : Hid _ := hX
  clear hX
  go_enter Try.func77, Try.ntmps77
  go_wp2_with fail
  go_loopg [] l.length (fun k wr => ∃ (u acc : List UInt8), u.length = k ∧ acc.length + u.length ≤ l.length ∧ X = KR.kt u acc ∧ RdAt wr r u ∧ Mv r w wr ∧ Bd w.heap.size w.heap.size acc wr)
  case atStart => exact ⟨l, [], rfl, by simp, HX.out.symm, HR.out, HM.out, HB.out⟩
  case round =>
    obtain ⟨u, acc, hk, hal, hx, hra, hmv, hbd⟩ := hrel
    have hsz : w.heap.size ≤ wr.heap.size := hmv.size
    clear HX HR HM HB
    cases u with
    | nil =>
      have hn := next_nil r 1 wr hra
      rw [kt_nil] at hx
      subst hx
      have HMV : Hid _ := hmv
      clear hra hmv hbd
      go_wp2_with (go_at_call 67; refine hn.mono ?_; rintro e w1 ⟨rfl, rfl⟩)
      exact ⟨rfl, rfl, HMV.out⟩
    | cons b t =>
      simp only [List.length_cons] at hal hk
      have hn := next_cons r 1 b t wr hra (by simp only [List.length_cons]; omega)
      have hm1 : Mv r w (wr.setCell ⟨r, 0, none⟩ (.string ⟨t.toArray⟩)) := hmv.set 0 _
      have hb1 : Bd w.heap.size w.heap.size acc (wr.setCell ⟨r, 0, none⟩ (.string ⟨t.toArray⟩)) := hbd.setLow hrl _
      have HMV1 : Hid _ := hm1
      have HB1 : Hid _ := hb1
      clear hra hmv hbd hm1 hb1
      by_cases hb0 : b.toNat = 0
      · cases t with
        | nil =>
          rw [kt_one] at hx
          subst hx
          rw [hb0] at hn
          go_wp2_with (go_at_call 67; refine hn.mono ?_; rintro e w1 ⟨rfl, hr1, hw1⟩)
          have hn2 := next_nil r 1 w1 hr1
          rw [← Hid.out hw1] at HMV1
          clear hw1 hr1 hn
          go_wp2_with (go_at_call 67; refine hn2.mono ?_; rintro e w2 ⟨rfl, rfl⟩)
          exact ⟨rfl, rfl, HMV1.out⟩
        | cons c u =>
          simp only [List.length_cons] at hal hk
          rw [hb0] at hn
          go_wp2_with (go_at_call 67; refine hn.mono ?_; rintro e w1 ⟨rfl, hr1, hw1⟩)
          have hn2 := next_cons r 1 c u w1 hr1 (by simp only [List.length_cons]; omega)
          rw [← Hid.out hw1] at HMV1 HB1
          have HMV2 : Hid _ := Mv.set HMV1.out 0 (.string ⟨u.toArray⟩)
          have HB2 : Hid _ := Bd.setLow HB1.out hrl (o := 0) (.string ⟨u.toArray⟩)
          clear hw1 hr1 hn HMV1 HB1
          have hc256 := c.toNat_lt
          by_cases h255 : c.toNat = 255
          · have HX : Hid _ := hx.trans (kt_zero hb0 h255 u acc)
            clear hx
            rw [h255] at hn2
            go_wp2_with (go_at_call 67; refine hn2.mono ?_; rintro e w2 ⟨rfl, hr2, hw2⟩)
            rw [← Hid.out hw2] at HMV2 HB2
            have hwb : Calls Try.prog 27 #[.pointer (some ⟨w.heap.size, 0, none⟩), .int .u8 0] _ _ := writeByte_any w.heap.size w.heap.size acc 0 w2 HB2.out (by omega) (Mv.size HMV2.out)
            have HR2 : Hid _ := hr2
            clear hw2 hn2 hr2
            go_wp2_with (go_at_call 27; refine hwb.mono ?_; rintro e w3 ⟨rfl, hb3, hbe3, hk3⟩)
            have HR3 : Hid _ := RdAt.below HR2.out hbe3 hrl
            have HM3 : Hid _ := Mv.below HMV2.out hbe3
            have HB3 : Hid _ := hb3
            clear hwb hb3 hbe3 hk3
            go_wp2_with fail
            go_roundg u.length
            case measure => omega
            case rel => exact ⟨u, acc ++ [0], rfl, by simp; omega, HX.out, HR3.out, HM3.out, HB3.out⟩
          · by_cases h1 : c.toNat = 1
            · have HX : Hid _ := hx.trans (kt_end hb0 h1 u acc)
              clear hx
              rw [h1] at hn2
              go_wp2_with (go_at_call 67; refine hn2.mono ?_; rintro e w2 ⟨rfl, hr2, hw2⟩)
              rw [← Hid.out hw2] at HMV2 HB2
              have hbl : (Lib.byteCells acc).length = acc.length := by simp [Lib.byteCells]
              have hln := Try.Builder_Len w.heap.size w.heap.size (Lib.byteCells acc) w2 HB2.out
              rw [hbl] at hln
              have HR2 : Hid _ := hr2
              clear hw2 hn2 hr2 hbl
              by_cases h16 : 16 < acc.length
              · have h16' : (16 : Int) < (acc.length : Int) := by omega
                rw [if_pos h16] at HX
                go_wp2_with (go_at_call 83; refine hln.mono ?_; rintro e w3 ⟨rfl, rfl⟩)
                rw [HX.out]
                exact ⟨rfl, rfl, HMV2.out⟩
              · have h16' : ¬ (16 : Int) < (acc.length : Int) := by omega
                rw [if_neg h16] at HX
                have hst := Try.Builder_String_any w.heap.size w.heap.size acc w2 HB2.out (Mv.size HMV2.out)
                go_wp2_with (first | (go_at_call 83; refine hln.mono ?_; rintro e w3 ⟨rfl, rfl⟩) | (go_at_call 29; refine hst.mono ?_; rintro e w4 ⟨rfl, hbe4⟩))
                go_ret
                rw [HX.out]
                exact ⟨rfl, RdAt.below HR2.out hbe4 hrl, Mv.below HMV2.out hbe4⟩
            · have HX : Hid _ := hx.trans (kt_bad hb0 h255 h1 u acc)
              clear hx
              have q1 : ((c.toNat : Int) == 255) = false := by simp; omega
              have q2 : ((c.toNat : Int) == 1) = false := by simp; omega
              go_wp2_with (go_at_call 67; refine hn2.mono ?_; rintro e w2 ⟨rfl, hr2, hw2⟩)
              rw [← Hid.out hw2] at HMV2
              rw [HX.out]
              exact ⟨rfl, rfl, HMV2.out⟩
      · have HX : Hid _ := hx.trans (kt_step hb0 t acc)
        have q1 : ((b.toNat : Int) != 0) = true := by simp; omega
        have q2 : ¬ ((b.toNat : Int) = 0) := by omega
        clear hx
        go_wp2_with (go_at_call 67; refine hn.mono ?_; rintro e w2 ⟨rfl, hr2, hw2⟩)
        rw [← Hid.out hw2] at HMV1 HB1
        have hwb := writeByte_any w.heap.size w.heap.size acc b w2 HB1.out (by omega) (Mv.size HMV1.out)
        have HR2 : Hid _ := hr2
        clear hw2 hn hr2
        go_wp2_with (go_at_call 27; refine hwb.mono ?_; rintro e w3 ⟨rfl, hb3, hbe3, hk3⟩)
        have HR3 : Hid _ := RdAt.below HR2.out hbe3 hrl
        have HM3 : Hid _ := Mv.below HMV1.out hbe3
        have HB3 : Hid _ := hb3
        clear hwb hb3 hbe3 hk3
        go_wp2_with fail
        go_roundg t.length
        case measure => omega
        case rel => exact ⟨t, acc ++ [b], rfl, by simp; omega, HX.out, HR3.out, HM3.out, HB3.out⟩
end Go.Proofs.Ytpalikdnpchdeaa
