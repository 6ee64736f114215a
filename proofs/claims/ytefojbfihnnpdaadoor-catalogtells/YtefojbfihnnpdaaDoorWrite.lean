/-
  What Write of package num answers, for every number: its digits to the base 128, the least one first.
-/
import Derived.Test.YtefojbfihnnpdaaDoorBase
import Derived.Test.YtefojbfihnnpdaaDoorNumMath
namespace Go.Proofs.YtefojbfihnnpdaaDoor
open Go.ChangeShapes Go.WideShapes Go.ChangeAt Go.RowKit
set_option linter.unusedVariables false

set_option maxRecDepth 100000 in
set_option maxHeartbeats 1000000 in
theorem write_any (n : Nat) (w : World) (hn : n < 18446744073709551616) :
    Calls Tryd.prog 64 #[.int .u64 n] w fun e w' => e = .returned (.string ⟨(NM.enc n).toArray⟩) ∧ Fr w w' := by
  have h10 := NM.enc_ten hn
  obtain ⟨i0, hi, hz0, hz1, hz2⟩ := info_parts Tryd.infoByte
  go_enter Tryd.func64, Tryd.ntmps64
  go_wp2
  go_loopw [0, 3] (fun nv dv wr => ∃ (m : Nat) (l : List UInt8), nv = .int .u64 m ∧ m < 18446744073709551616 ∧ l ++ NM.enc m = NM.enc n ∧ wr.ownsRow w.heap.size 5 1 dv l.length (byteV l) ∧ Below w.heap.size w wr) (fun nv _ _ => (intOf nv).toNat)
  case atStart => exact ⟨n, [], rfl, hn, rfl, World.ownsRow_nil _ _ _ _, Below.refl _ _⟩
  case round =>
    obtain ⟨m, l, rfl, hm, hl0, hown, hbel⟩ := hrel
    have hlen : l.length ≤ 9 := by
      have h1 : (l ++ NM.enc m).length = (NM.enc n).length := by rw [hl0]
      have h2 := NM.enc_pos m
      simp only [List.length_append] at h1
      omega
    have HL : Hid _ := hl0
    clear hl0 h10
    have hle := hbel.size
    by_cases hlt : m < 128
    · have hlt' : (m : Int) < 128 := by omega
      have HE : Hid _ := HL.out
      have HF : Hid (l ++ [UInt8.ofNat m] = NM.enc n) := by have := HL.out; rwa [NM.enc_small hlt] at this
      clear HE HL
      have hb : ((UInt8.ofNat m).toNat : Int) = (m : Int) := by rw [NM.toNat_ofNat (by omega)]
      have HB : Hid _ := hb
      clear hb
      go_wp2_with (at_builtin; refine wpList_append_own _ rfl _ _ 51 rfl w.heap.size 5 i0 (.int .u8 0) 1 1 Tryd.underlying51 hi hz0 hz1 hz2 rfl (by decide) _ _ _ rfl (hown.alloc _) ⟨wr.heap.size, 0, none⟩ 1 1 [.int .u8 (m : Int)] rfl rfl ?c1 ?c2 ?c3 ?c4 ?c5 ?_)
      case c1 => exact cell_one_new _ _ _
      case c2 => intro u hu; simp at hu; subst hu; rfl
      case c3 => unfold maxLen; omega
      case c4 => omega
      case c5 => simp; omega
      intro v' w1 hown' hgrow _
      have ho : w1.ownsRow w.heap.size 5 1 v' (l.length + 1) (byteV (l ++ [UInt8.ofNat m])) := by rw [byteV_snoc, HB.out]; exact hown'
      have hcv := conv_owned ho (by simp)
      have hbel' : Below w.heap.size w w1 := (hbel.alloc (by omega) _).grown hgrow (by simp; omega) (fun k hk => (hown.lt k hk).1)
      clear ho hown' hgrow hown
      go_wp2
      go_ret
      exact ⟨ret_str HF.out, hbel'⟩
    · have hlt' : (128 : Int) ≤ (m : Int) := by omega
      have HF : Hid ((l ++ [UInt8.ofNat (m % 128 + 128)]) ++ NM.enc (m / 128) = NM.enc n) := by have := HL.out; rw [NM.enc_big (by omega)] at this; unfold Hid; rw [← this]; simp
      clear HL
      have HB : Hid (((UInt8.ofNat (m % 128 + 128)).toNat : Int) = (m : Int) % 128 + 128) := by unfold Hid; rw [NM.toNat_ofNat (by omega)]; omega
      go_wp2_with (at_builtin; refine wpList_append_own _ rfl _ _ 51 rfl w.heap.size 5 i0 (.int .u8 0) 1 1 Tryd.underlying51 hi hz0 hz1 hz2 rfl (by decide) _ _ _ rfl (hown.alloc _) ⟨wr.heap.size, 0, none⟩ 1 1 [.int .u8 ((m : Int) % 128 + 128)] rfl rfl ?d1 ?d2 ?d3 ?d4 ?d5 ?_)
      case d1 => exact cell_one_new _ _ _
      case d2 => intro u hu; simp at hu; subst hu; rfl
      case d3 => unfold maxLen; omega
      case d4 => omega
      case d5 => simp; omega
      intro v' w1 hown' hgrow _
      have ho : w1.ownsRow w.heap.size 5 1 v' (l ++ [UInt8.ofNat (m % 128 + 128)]).length (byteV (l ++ [UInt8.ofNat (m % 128 + 128)])) := by
        rw [byteV_snoc, HB.out, List.length_append]; exact hown'
      have hbel' : Below w.heap.size w w1 := (hbel.alloc (by omega) _).grown hgrow (by simp; omega) (fun k hk => (hown.lt k hk).1)
      have HO : Hid _ := ho
      clear ho hown' hgrow hown
      go_wp2
      go_roundw
      case rel => exact ⟨m / 128, _, by go_num, by omega, HF.out, HO.out, hbel'⟩
      case measure => simp [intOf]; omega
end Go.Proofs.YtefojbfihnnpdaaDoor
