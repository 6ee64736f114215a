/-
  What Turned answers: the text with the bits of the mask turned.
-/
import Derived.Test.YtfjdialbjbomdaaDoorSumWalks
import Derived.Test.YtfjdialbjbomdaaDoorBurstMath
import Derived.Deep.RegionHeld3
namespace Go.Proofs.YtfjdialbjbomdaaDoor
open Go.ChangeShapes Go.WideShapes Go.ChangeAt Go.RowKit
set_option linter.unusedVariables false

/-- block b holds these bytes, and they may be written -/
def Held8 (w : World) (b : Nat) (l : List UInt8) : Prop :=
  ∀ j (h : j < l.length), w.cell? ⟨b, j, none⟩ = some (.int .u8 (l[j].toNat : Int)) ∧ w.frozen? ⟨b, j, none⟩ = false

theorem Held8.drew {w : World} {b : Nat} {l : List UInt8} (h : Held8 w b l) : Held8 w.drew b l := h
theorem Held8.set {w : World} {b : Nat} {l : List UInt8} (h : Held8 w b l) (i : Nat) (v : UInt8) : Held8 (w.setCell ⟨b, i, none⟩ (.int .u8 (v.toNat : Int))) b (l.set i v) := by
  intro j hj
  have hj' : j < l.length := by simpa using hj
  refine ⟨?_, by rw [World.frozen?_setCell]; exact (h j hj').2⟩
  by_cases e : i = j
  · subst e
    rw [World.cell?_setCell_same _ _ _ (h i hj').1]
    simp
  · rw [World.cell?_setCell_other _ _ _ _ (by intro c; exact e (congrArg Addr.off c)), (h j hj').1]
    simp [List.getElem_set_ne e]

theorem Held8.made (w : World) (s : ByteArray) (cap : Nat) : Held8 (w.alloc (.cells (bytesRow s cap) 5 ((bytesRow s cap).size, (bytesRow s cap).size + 1))) w.heap.size s.data.toList := by
  intro j hj
  have hj' : j < s.data.size := by simpa using hj
  have hb : (w.alloc (.cells (bytesRow s cap) 5 ((bytesRow s cap).size, (bytesRow s cap).size + 1))).heap[w.heap.size]? = some (.cells (bytesRow s cap) 5 ((bytesRow s cap).size, (bytesRow s cap).size + 1)) := heap_alloc_new w _
  have hs : j < (bytesRow s cap).size := by unfold bytesRow; rw [Array.size_append, Array.size_map]; omega
  refine ⟨?_, ?_⟩
  · rw [cell_of_row _ _ j _ _ _ hb]
    unfold bytesRow
    rw [Array.getElem?_append_left (by rw [Array.size_map]; exact hj'), Array.getElem?_map, Array.getElem?_eq_getElem hj']
    rfl
  · unfold World.frozen?
    rw [hb]
    simp; omega

theorem turn_val (l : List UInt8) (i : Nat) (hi : i / 8 < l.length) :
    bits .xor .u8 ((l[i / 8].toNat : Nat) : Int) (2 ^ (i % 8) % 256) = (((l.getD (i / 8) 0 ^^^ UInt8.ofNat (2 ^ (i % 8))).toNat : Nat) : Int) := by
  have h2 : 2 ^ (i % 8) < 256 := Nat.lt_of_lt_of_le (Nat.pow_lt_pow_right (by decide) (show i % 8 < 8 by omega)) (by decide)
  have e : (2 ^ (i % 8) % 256 : Int) = ((2 ^ (i % 8) : Nat) : Int) := by
    rw [show (2 ^ (i % 8) : Int) = ((2 ^ (i % 8) : Nat) : Int) by push_cast; rfl]
    exact Int.emod_eq_of_lt (Int.natCast_nonneg _) (Int.ofNat_lt.2 h2)
  rw [e, u8_xor_nat _ _ l[i / 8].toNat_lt h2, UInt8.toNat_xor, List.getD_eq_getElem?_getD, List.getElem?_eq_getElem hi, UInt8.toNat_ofNat', Nat.mod_eq_of_lt h2]
  rfl

theorem conv_held {w : World} {b : Nat} {l : List UInt8} (h : Held8 w b l) (n cap : Nat) (hn : l.length = n) :
    (convert 44 9 (.slice (some ⟨b, 0, none⟩) n cap)).run Tryd.prog w = .ok (.string ⟨l.toArray⟩) w := by
  subst hn
  refine run_convert_bytes_back (P := Tryd.prog) w 44 9 5 ⟨b, 0, none⟩ cap l Tryd.underlying44 Tryd.underlying5 Tryd.underlying9 ?_
  intro j hj
  have e : (⟨b, 0, none⟩ : Addr).add j = ⟨b, j, none⟩ := by unfold Addr.add; split <;> simp_all
  rw [e]
  exact (h j hj).1

theorem mask_bit (mask k : Nat) (hm : mask < 4294967296) : (bits .and .u32 ((mask : Int) / 2 ^ k) 1 == 1) = mask.testBit k := by
  have h1 := u32_and_nat (mask / 2 ^ k) 1 (Nat.lt_of_le_of_lt (Nat.div_le_self _ _) hm) (by decide)
  have e : ((mask / 2 ^ k : Nat) : Int) = (mask : Int) / 2 ^ k := by push_cast; rfl
  rw [e] at h1
  rw [show bits .and .u32 ((mask : Int) / 2 ^ k) 1 = ((mask / 2 ^ k &&& 1 : Nat) : Int) from h1, nat_mask1, Nat.testBit_eq_decide_div_mod_eq]
  by_cases c : mask / 2 ^ k % 2 = 1
  · simp [c]
  · have : mask / 2 ^ k % 2 = 0 := by omega
    simp [this]

set_option maxRecDepth 100000 in
set_option maxHeartbeats 2000000 in
theorem turned_in (s : ByteArray) (at_ mask : Nat) (w : World) (hs : s.size ≤ 140737488351232) (hat : at_ < 8 * s.size) (hm : mask < 4294967296) :
    Calls Tryd.prog 16 #[.string s, .int .i64 (at_ : Int), .int .u32 (mask : Int)] w fun e w' => e = .returned (.string ⟨(SM.turned s.data.toList at_ mask 32).toArray⟩) ∧ Fr w w' := by
  have hcv := run_bytes_of_string (P := Tryd.prog) w 9 44 5 s Tryd.underlying9 Tryd.underlying44 Tryd.underlying5
  have HH : Hid _ := Held8.made w s (grownCap w s.size 0 5)
  have c1 : ¬ (at_ : Int) < 0 := by omega
  have c2 : ¬ 8 * (s.size : Int) ≤ (at_ : Int) := by omega
  go_enter Tryd.func16, Tryd.ntmps16
  go_wp2
  go_loopw [8] (fun i wr => ∃ k : Nat, k ≤ 32 ∧ i = .int .i64 k ∧ Held8 wr w.heap.size (SM.turned s.data.toList at_ mask k) ∧ Fr w wr) (fun i _ => 32 - (intOf i).toNat)
  case atStart => exact ⟨0, by omega, rfl, HH.out, ((Fr.refl w).alloc _).drew⟩
  case round =>
    obtain ⟨k, hk, rfl, hh, hfr⟩ := hrel
    clear hcv HH
    have HK : Hid _ := hh
    clear hh
    by_cases hlt : k < 32
    · have hbit := mask_bit mask k hm
      by_cases hb : mask.testBit k = true ∧ at_ + k < 8 * s.size
      · have HT : Hid (SM.turned s.data.toList at_ mask (k + 1) = SM.turnBit (SM.turned s.data.toList at_ mask k) (at_ + k)) := if_pos ⟨hb.1, by simpa using hb.2⟩
        rw [hb.1] at hbit
        have c3 : (at_ : Int) + (k : Int) < 8 * (s.size : Int) := by omega
        have hlen := SM.turned_len s.data.toList at_ mask k
        obtain ⟨l, hl⟩ : ∃ l, l = SM.turned s.data.toList at_ mask k := ⟨_, rfl⟩
        rw [← hl] at HK HT hlen
        have hi : (at_ + k) / 8 < l.length := by rw [hlen]; simp; omega
        have hc := (HK.out _ hi).1
        have hf := (HK.out _ hi).2
        have HV : Hid _ := turn_val l (at_ + k) hi
        clear hl hb
        go_wp2
        go_region
        go_wp2
        go_roundw
        case rel =>
          refine ⟨k + 1, by omega, by go_num, ?_, Fr.drew (Below.setCell hfr (Nat.le_refl _) _)⟩
          rw [HT.out, HV.out]
          exact Held8.drew (Held8.set HK.out _ _)
        case measure => simp [intOf]; omega
      · have HT : Hid (SM.turned s.data.toList at_ mask (k + 1) = SM.turned s.data.toList at_ mask k) := if_neg (by simpa using hb)
        by_cases hb1 : mask.testBit k = true
        · rw [hb1] at hbit
          have c3 : ¬ (at_ : Int) + (k : Int) < 8 * (s.size : Int) := by
            intro c; exact hb ⟨hb1, by omega⟩
          clear hb hb1
          go_wp2
          go_roundw
          case rel => exact ⟨k + 1, by omega, by go_num, by rw [HT.out]; exact HK.out, hfr⟩
          case measure => simp [intOf]; omega
        · rw [Bool.not_eq_true] at hb1
          rw [hb1] at hbit
          clear hb hb1
          go_wp2
          go_roundw
          case rel => exact ⟨k + 1, by omega, by go_num, by rw [HT.out]; exact HK.out, hfr⟩
          case measure => simp [intOf]; omega
    · have hk32 : k = 32 := by omega
      subst hk32
      have hcv := conv_held HK.out (s.size) (grownCap w s.size 0 5) (by rw [SM.turned_len]; simp)
      go_wp2
      go_ret
      exact ⟨rfl, hfr⟩

set_option maxRecDepth 100000 in
set_option maxHeartbeats 2000000 in
theorem turned_out (s : ByteArray) (at_ mask : Int) (w : World) (hs : s.size ≤ 140737488351232) (hat : at_ < 0 ∨ 8 * (s.size : Int) ≤ at_) :
    Calls Tryd.prog 16 #[.string s, .int .i64 at_, .int .u32 mask] w fun e w' => e = .returned (.string s) ∧ Fr w w' := by
  have hcv := run_bytes_of_string (P := Tryd.prog) w 9 44 5 s Tryd.underlying9 Tryd.underlying44 Tryd.underlying5
  by_cases h : at_ < 0
  · go_enter Tryd.func16, Tryd.ntmps16
    go_wp2
    go_ret
    exact ⟨rfl, ((Fr.refl w).alloc _).drew⟩
  · have h2 : 8 * (s.size : Int) ≤ at_ := by omega
    go_enter Tryd.func16, Tryd.ntmps16
    go_wp2
    go_ret
    exact ⟨rfl, ((Fr.refl w).alloc _).drew⟩
end Go.Proofs.YtfjdialbjbomdaaDoor
