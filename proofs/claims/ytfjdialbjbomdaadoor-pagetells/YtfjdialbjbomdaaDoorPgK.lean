/-
  The document's own answers: PageCheck, twoBytes, sumBytes.
-/
import Derived.Test.YtfjdialbjbomdaaDoorTabs
import Derived.Test.YtfjdialbjbomdaaDoorSumOf
namespace Go.Proofs.YtfjdialbjbomdaaDoor
open Go.ChangeShapes Go.WideShapes Go.ChangeAt Go.RowKit
set_option linter.unusedVariables false
set_option linter.unusedSimpArgs false

set_option maxRecDepth 100000 in
set_option maxHeartbeats 2000000 in
theorem rcheck_any (p : PG.Pg) (w : World) : Calls Tryd.prog 11 #[pgV p] w fun e w' => e = .returned (.int .i64 (PG.chk p)) ∧ Fr w w' := by
  obtain ⟨no, kind, owner, body⟩ := p
  have hsz := mk_size body
  unfold pgV PG.chk
  simp only
  generalize (⟨body.toArray⟩ : ByteArray) = s at *
  rw [← hsz]
  clear hsz
  by_cases h0 : no < 0 ∨ 31 < no
  · rw [if_pos h0]
    by_cases h2 : no < 0
    · clear h0
      go_enter Tryd.func11, Tryd.ntmps11
      go_wp2_with fail
      go_ret
      exact ⟨rfl, (Fr.refl _).alloc _⟩
    · have h3 : 31 < no := by omega
      have h4 : 0 ≤ no := by omega
      clear h0 h2
      go_enter Tryd.func11, Tryd.ntmps11
      go_wp2_with fail
      go_ret
      exact ⟨rfl, (Fr.refl _).alloc _⟩
  rw [if_neg h0]
  have n1 : 0 ≤ no := by omega
  have n2 : no ≤ 31 := by omega
  clear h0
  by_cases h1 : kind < 1 ∨ 4 < kind
  · rw [if_pos h1]
    by_cases h2 : kind < 1
    · clear h1
      go_enter Tryd.func11, Tryd.ntmps11
      go_wp2_with fail
      go_ret
      exact ⟨rfl, (Fr.refl _).alloc _⟩
    · have h3 : 4 < kind := by omega
      have h4 : 1 ≤ kind := by omega
      clear h1 h2
      go_enter Tryd.func11, Tryd.ntmps11
      go_wp2_with fail
      go_ret
      exact ⟨rfl, (Fr.refl _).alloc _⟩
  rw [if_neg h1]
  have k1 : 1 ≤ kind := by omega
  have k2 : kind ≤ 4 := by omega
  clear h1
  by_cases h1 : owner < 0 ∨ 999 < owner
  · rw [if_pos h1]
    by_cases h2 : owner < 0
    · clear h1
      go_enter Tryd.func11, Tryd.ntmps11
      go_wp2_with fail
      go_ret
      exact ⟨rfl, (Fr.refl _).alloc _⟩
    · have h3 : 999 < owner := by omega
      have h4 : 0 ≤ owner := by omega
      clear h1 h2
      go_enter Tryd.func11, Tryd.ntmps11
      go_wp2_with fail
      go_ret
      exact ⟨rfl, (Fr.refl _).alloc _⟩
  rw [if_neg h1]
  have o1 : 0 ≤ owner := by omega
  have o2 : owner ≤ 999 := by omega
  clear h1
  by_cases h1 : 245 < s.size
  · rw [if_pos h1]
    have h2 : (245 : Int) < (s.size : Int) := by omega
    clear h1
    go_enter Tryd.func11, Tryd.ntmps11
    go_wp2_with fail
    go_ret
    exact ⟨rfl, (Fr.refl _).alloc _⟩
  · rw [if_neg h1]
    have h2 : (s.size : Int) ≤ 245 := by omega
    clear h1
    go_enter Tryd.func11, Tryd.ntmps11
    go_wp2_with fail
    go_ret
    exact ⟨rfl, (Fr.refl _).alloc _⟩

theorem ba_app (l m : List UInt8) : (⟨l.toArray⟩ : ByteArray) ++ ⟨m.toArray⟩ = ⟨(l ++ m).toArray⟩ := by
  apply ByteArray.ext
  apply Array.toList_inj.1
  rw [ByteArray.data_append, Array.toList_append]
theorem oneByte_int (n : Int) (N : Nat) (hn : n = (N : Int)) (w : World) (h : N < 256) (b : UInt8) (hb : b = UInt8.ofNat N) :
    Calls Tryd.prog 24 #[.int .i64 n] w fun e w' => e = .returned (.string ⟨[b].toArray⟩) ∧ Fr w w' := by
  subst hn hb
  exact oneByte_any N w h
theorem ofNat_mod (n : Nat) : UInt8.ofNat n = UInt8.ofNat (n % 256) := by
  apply UInt8.toNat_inj.1
  rw [UInt8.toNat_ofNat', UInt8.toNat_ofNat']
  omega
set_option maxRecDepth 100000 in
set_option maxHeartbeats 1000000 in
theorem twoBytes_any (n : Nat) (w : World) (h : n < 65536) :
    Calls Tryd.prog 23 #[.int .i64 (n : Int)] w fun e w' => e = .returned (.string ⟨(PG.two n).toArray⟩) ∧ Fr w w' := by
  have c1 := fun W => oneByte_int ((n : Int) / 256) (n / 256) (by omega) W (by omega) _ rfl
  have c2 := fun W => oneByte_int ((n : Int) % 256) (n % 256) (by omega) W (by omega) _ (ofNat_mod n)
  have HA : Hid _ := ba_app [UInt8.ofNat (n / 256)] [UInt8.ofNat n]
  have s1 : (⟨[UInt8.ofNat (n / 256)].toArray⟩ : ByteArray).size = 1 := rfl
  have s2 : (⟨[UInt8.ofNat n].toArray⟩ : ByteArray).size = 1 := rfl
  obtain ⟨A, hA⟩ : ∃ A : ByteArray, (⟨[UInt8.ofNat (n / 256)].toArray⟩ : ByteArray) = A := ⟨_, rfl⟩
  obtain ⟨B, hB⟩ : ∃ B : ByteArray, (⟨[UInt8.ofNat n].toArray⟩ : ByteArray) = B := ⟨_, rfl⟩
  rw [hA] at c1 HA s1
  rw [hB] at c2 HA s2
  clear hA hB
  go_enter Tryd.func23, Tryd.ntmps23
  go_wp2_with fail
  refine (c1 _).mono ?_
  rintro _ w1 ⟨rfl, f1⟩
  go_wp2_with fail
  refine (c2 _).mono ?_
  rintro _ w2 ⟨rfl, f2⟩
  go_wp2_with fail
  go_ret
  exact ⟨by rw [show PG.two n = [UInt8.ofNat (n / 256)] ++ [UInt8.ofNat n] from rfl, ← HA.out]; rfl, f1.trans f2⟩
set_option maxRecDepth 100000 in
set_option maxHeartbeats 2000000 in
theorem sumBytes_any (s : ByteArray) (w : World) (hs : s.size ≤ 1048576) :
    Calls Tryd.prog 25 #[.string s] w fun e w' => e = .returned (.string ⟨(PG.four (SM.more 0 s.data.toList)).toArray⟩) ∧ Fr w w' := by
  have c0 := sumOf_any 0 s w (by decide) hs
  have hl := SM.more_lt (show 0 < 4294967296 by decide) s.data.toList
  generalize SM.more 0 s.data.toList = c at *
  have c1 := fun W => oneByte_int ((c : Int) % 256) (c % 256) (by omega) W (by omega) _ (ofNat_mod c)
  have c2 := fun W => oneByte_int ((c : Int) / 256 % 256) (c / 256 % 256) (by omega) W (by omega) _ (ofNat_mod (c / 256))
  have c3 := fun W => oneByte_int ((c : Int) / 65536 % 256) (c / 65536 % 256) (by omega) W (by omega) _ (ofNat_mod (c / 65536))
  have c4 := fun W => oneByte_int ((c : Int) / 16777216) (c / 16777216) (by omega) W (by omega) _ rfl
  have HA : Hid (((((⟨[UInt8.ofNat c].toArray⟩ : ByteArray) ++ ⟨[UInt8.ofNat (c / 256)].toArray⟩) ++ ⟨[UInt8.ofNat (c / 65536)].toArray⟩) ++ ⟨[UInt8.ofNat (c / 16777216)].toArray⟩) = ⟨(PG.four c).toArray⟩) := by
    unfold Hid
    rw [ba_app, ba_app, ba_app]
    rfl
  have s1 : (⟨[UInt8.ofNat c].toArray⟩ : ByteArray).size = 1 := rfl
  have s2 : (⟨[UInt8.ofNat (c / 256)].toArray⟩ : ByteArray).size = 1 := rfl
  have s3 : (⟨[UInt8.ofNat (c / 65536)].toArray⟩ : ByteArray).size = 1 := rfl
  have s4 : (⟨[UInt8.ofNat (c / 16777216)].toArray⟩ : ByteArray).size = 1 := rfl
  generalize (⟨[UInt8.ofNat c].toArray⟩ : ByteArray) = A at *
  generalize (⟨[UInt8.ofNat (c / 256)].toArray⟩ : ByteArray) = B at *
  generalize (⟨[UInt8.ofNat (c / 65536)].toArray⟩ : ByteArray) = C at *
  generalize (⟨[UInt8.ofNat (c / 16777216)].toArray⟩ : ByteArray) = D at *
  have hl1 : (c : Int) / 16777216 < 256 := by omega
  go_enter Tryd.func25, Tryd.ntmps25
  go_wp2_with fail
  refine c0.mono ?_
  rintro _ w0 ⟨rfl, f0⟩
  clear c0
  go_wp2_with fail
  refine (c1 _).mono ?_
  rintro _ w1 ⟨rfl, f1⟩
  go_wp2_with fail
  refine (c2 _).mono ?_
  rintro _ w2 ⟨rfl, f2⟩
  go_wp2_with fail
  refine (c3 _).mono ?_
  rintro _ w3 ⟨rfl, f3⟩
  go_wp2_with fail
  refine (c4 _).mono ?_
  rintro _ w4 ⟨rfl, f4⟩
  go_wp2_with fail
  go_ret
  exact ⟨by rw [← HA.out]; rfl, f0.trans (f1.trans (f2.trans (f3.trans f4)))⟩
end Go.Proofs.YtfjdialbjbomdaaDoor
