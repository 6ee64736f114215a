/-
  The document's oneByte, twoBytes.
-/
import Derived.Test.YtklldfkaihpkiaaJdW
namespace Go.Proofs.Ytklldfkaihpkiaa
open Go.ChangeShapes Go.WideShapes Go.ChangeAt Go.RowKit
set_option linter.unusedVariables false
set_option linter.unusedSimpArgs false
set_option maxRecDepth 100000
set_option maxHeartbeats 1000000

theorem one_conv (w : World) (n : Nat) (h : n < 256) :
    (convert 85 9 (.slice (some ⟨w.heap.size, 0, none⟩) 1 1)).run Try.prog (w.alloc (.cells #[.int .u8 (n : Int)] 5)) = .ok (.string ⟨[UInt8.ofNat n].toArray⟩) (w.alloc (.cells #[.int .u8 (n : Int)] 5)) := by
  refine run_convert_bytes_back (P := Try.prog) _ 85 9 5 ⟨w.heap.size, 0, none⟩ 1 [UInt8.ofNat n] Try.underlying85 Try.underlying5 Try.underlying9 ?_
  intro j hj
  have : j = 0 := by simpa using hj
  subst this
  have hc := (Blk.new w #[.int .u8 (n : Int)] 5).cell 0 rfl
  rw [Addr.add_lit]
  rw [Nat.zero_add, hc]
  have e : (UInt8.ofNat n).toNat = n := by rw [UInt8.toNat_ofNat']; exact Nat.mod_eq_of_lt h
  simp only [List.getElem_cons_zero]
  rw [e]
  rfl
theorem oneByte_any (n : Nat) (w : World) (h : n < 256) :
    Calls Try.prog 63 #[.int .i64 (n : Int)] w fun e w' => e = .returned (.string ⟨[UInt8.ofNat n].toArray⟩) ∧ Fr w w' := by
  have hc := one_conv w n h
  have h' : (n : Int) < 256 := by omega
  go_enter Try.func63, Try.ntmps63
  go_wp2
  go_ret
  exact ⟨rfl, (Fr.refl _).alloc _⟩
theorem ba_app (l m : List UInt8) : (⟨l.toArray⟩ : ByteArray) ++ ⟨m.toArray⟩ = ⟨(l ++ m).toArray⟩ := by
  apply ByteArray.ext
  apply Array.toList_inj.1
  rw [ByteArray.data_append, Array.toList_append]
theorem oneByte_int (n : Int) (N : Nat) (hn : n = (N : Int)) (w : World) (h : N < 256) (b : UInt8) (hb : b = UInt8.ofNat N) :
    Calls Try.prog 63 #[.int .i64 n] w fun e w' => e = .returned (.string ⟨[b].toArray⟩) ∧ Fr w w' := by
  subst hn hb
  exact oneByte_any N w h
theorem ofNat_mod (n : Nat) : UInt8.ofNat n = UInt8.ofNat (n % 256) := by
  apply UInt8.toNat_inj.1
  rw [UInt8.toNat_ofNat', UInt8.toNat_ofNat']
  omega
/-- two bytes of a number -/
def twoB (n : Nat) : ByteArray := ⟨#[(n / 256).toUInt8, n.toUInt8]⟩
theorem twoBytes_any (n : Nat) (w : World) (h : n < 65536) :
    Calls Try.prog 62 #[.int .i64 (n : Int)] w fun e w' => e = .returned (.string (twoB n)) ∧ Fr w w' := by
  have c1 := fun W => oneByte_int ((n : Int) / 256) (n / 256) (by omega) W (by omega) _ rfl
  have c2 := fun W => oneByte_int ((n : Int) % 256) (n % 256) (by omega) W (by omega) _ (ofNat_mod n)
  have HA : Hid _ := ba_app [UInt8.ofNat (n / 256)] [UInt8.ofNat n]
  have s1 : (⟨[UInt8.ofNat (n / 256)].toArray⟩ : ByteArray).size = 1 := rfl
  have s2 : (⟨[UInt8.ofNat n].toArray⟩ : ByteArray).size = 1 := rfl
  obtain ⟨A, hA⟩ : ∃ A : ByteArray, (⟨[UInt8.ofNat (n / 256)].toArray⟩ : ByteArray) = A := ⟨_, rfl⟩
  obtain ⟨B, hB⟩ : ∃ B : ByteArray, (⟨[UInt8.ofNat n].toArray⟩ : ByteArray) = B := ⟨_, rfl⟩
  rw [hA] at c1 HA s1
  rw [hB] at c2 HA s2
  clear hA hB
  go_enter Try.func62, Try.ntmps62
  go_wp2_with fail
  refine (c1 _).mono ?_
  rintro _ w1 ⟨rfl, f1⟩
  go_wp2_with fail
  refine (c2 _).mono ?_
  rintro _ w2 ⟨rfl, f2⟩
  go_wp2_with fail
  go_ret
  exact ⟨by rw [show twoB n = ⟨([UInt8.ofNat (n / 256)] ++ [UInt8.ofNat n]).toArray⟩ from rfl, ← HA.out]; rfl, f1.trans f2⟩
theorem twoB_size (n : Nat) : (twoB n).size = 2 := rfl
end Go.Proofs.Ytklldfkaihpkiaa
