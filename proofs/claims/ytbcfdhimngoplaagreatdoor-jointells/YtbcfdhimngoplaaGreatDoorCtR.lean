/-
  Reserved, for every text.
-/
import Derived.Test.YtbcfdhimngoplaaGreatDoorCtN
namespace Go.Proofs.YtbcfdhimngoplaaGreatDoor
open Go.ChangeShapes Go.WideShapes Go.ChangeAt Go.RowKit
set_option linter.unusedVariables false
set_option linter.unusedSimpArgs false
set_option maxRecDepth 100000
set_option maxHeartbeats 2000000 in
theorem rsv0 (w : World) : Calls Tryz.prog 137 #[.string ⟨#[97, 110, 100]⟩] w fun e w' => e = .returned (.bool true) ∧ w' = w := by
 go_enter Tryz.func137, Tryz.ntmps137
 go_wp2_with fail
 go_ret
 exact ⟨rfl, rfl⟩
set_option maxHeartbeats 2000000 in
theorem rsv1 (w : World) : Calls Tryz.prog 137 #[.string ⟨#[97, 110, 121]⟩] w fun e w' => e = .returned (.bool true) ∧ w' = w := by
 go_enter Tryz.func137, Tryz.ntmps137
 go_wp2_with fail
 go_ret
 exact ⟨rfl, rfl⟩
set_option maxHeartbeats 2000000 in
theorem rsv2 (w : World) : Calls Tryz.prog 137 #[.string ⟨#[97, 115]⟩] w fun e w' => e = .returned (.bool true) ∧ w' = w := by
 go_enter Tryz.func137, Tryz.ntmps137
 go_wp2_with fail
 go_ret
 exact ⟨rfl, rfl⟩
set_option maxHeartbeats 2000000 in
theorem rsv3 (w : World) : Calls Tryz.prog 137 #[.string ⟨#[97, 115, 99]⟩] w fun e w' => e = .returned (.bool true) ∧ w' = w := by
 go_enter Tryz.func137, Tryz.ntmps137
 go_wp2_with fail
 go_ret
 exact ⟨rfl, rfl⟩
set_option maxHeartbeats 2000000 in
theorem rsv4 (w : World) : Calls Tryz.prog 137 #[.string ⟨#[98, 101, 103, 105, 110]⟩] w fun e w' => e = .returned (.bool true) ∧ w' = w := by
 go_enter Tryz.func137, Tryz.ntmps137
 go_wp2_with fail
 go_ret
 exact ⟨rfl, rfl⟩
set_option maxHeartbeats 2000000 in
theorem rsv5 (w : World) : Calls Tryz.prog 137 #[.string ⟨#[98, 101, 116, 119, 101, 101, 110]⟩] w fun e w' => e = .returned (.bool true) ∧ w' = w := by
 go_enter Tryz.func137, Tryz.ntmps137
 go_wp2_with fail
 go_ret
 exact ⟨rfl, rfl⟩
set_option maxHeartbeats 2000000 in
theorem rsv6 (w : World) : Calls Tryz.prog 137 #[.string ⟨#[98, 108, 111, 98]⟩] w fun e w' => e = .returned (.bool true) ∧ w' = w := by
 go_enter Tryz.func137, Tryz.ntmps137
 go_wp2_with fail
 go_ret
 exact ⟨rfl, rfl⟩
set_option maxHeartbeats 2000000 in
theorem rsv7 (w : World) : Calls Tryz.prog 137 #[.string ⟨#[98, 121]⟩] w fun e w' => e = .returned (.bool true) ∧ w' = w := by
 go_enter Tryz.func137, Tryz.ntmps137
 go_wp2_with fail
 go_ret
 exact ⟨rfl, rfl⟩
set_option maxHeartbeats 2000000 in
theorem rsv8 (w : World) : Calls Tryz.prog 137 #[.string ⟨#[99, 111, 109, 109, 105, 116]⟩] w fun e w' => e = .returned (.bool true) ∧ w' = w := by
 go_enter Tryz.func137, Tryz.ntmps137
 go_wp2_with fail
 go_ret
 exact ⟨rfl, rfl⟩
set_option maxHeartbeats 2000000 in
theorem rsv9 (w : World) : Calls Tryz.prog 137 #[.string ⟨#[99, 111, 117, 110, 116]⟩] w fun e w' => e = .returned (.bool true) ∧ w' = w := by
 go_enter Tryz.func137, Tryz.ntmps137
 go_wp2_with fail
 go_ret
 exact ⟨rfl, rfl⟩
set_option maxHeartbeats 2000000 in
theorem rsv10 (w : World) : Calls Tryz.prog 137 #[.string ⟨#[99, 114, 101, 97, 116, 101]⟩] w fun e w' => e = .returned (.bool true) ∧ w' = w := by
 go_enter Tryz.func137, Tryz.ntmps137
 go_wp2_with fail
 go_ret
 exact ⟨rfl, rfl⟩
set_option maxHeartbeats 2000000 in
theorem rsv11 (w : World) : Calls Tryz.prog 137 #[.string ⟨#[100, 101, 108, 101, 116, 101]⟩] w fun e w' => e = .returned (.bool true) ∧ w' = w := by
 go_enter Tryz.func137, Tryz.ntmps137
 go_wp2_with fail
 go_ret
 exact ⟨rfl, rfl⟩
set_option maxHeartbeats 2000000 in
theorem rsv12 (w : World) : Calls Tryz.prog 137 #[.string ⟨#[100, 101, 115, 99]⟩] w fun e w' => e = .returned (.bool true) ∧ w' = w := by
 go_enter Tryz.func137, Tryz.ntmps137
 go_wp2_with fail
 go_ret
 exact ⟨rfl, rfl⟩
set_option maxHeartbeats 2000000 in
theorem rsv13 (w : World) : Calls Tryz.prog 137 #[.string ⟨#[100, 105, 115, 116, 105, 110, 99, 116]⟩] w fun e w' => e = .returned (.bool true) ∧ w' = w := by
 go_enter Tryz.func137, Tryz.ntmps137
 go_wp2_with fail
 go_ret
 exact ⟨rfl, rfl⟩
set_option maxHeartbeats 2000000 in
theorem rsv14 (w : World) : Calls Tryz.prog 137 #[.string ⟨#[100, 114, 111, 112]⟩] w fun e w' => e = .returned (.bool true) ∧ w' = w := by
 go_enter Tryz.func137, Tryz.ntmps137
 go_wp2_with fail
 go_ret
 exact ⟨rfl, rfl⟩
set_option maxHeartbeats 2000000 in
theorem rsv15 (w : World) : Calls Tryz.prog 137 #[.string ⟨#[102, 114, 111, 109]⟩] w fun e w' => e = .returned (.bool true) ∧ w' = w := by
 go_enter Tryz.func137, Tryz.ntmps137
 go_wp2_with fail
 go_ret
 exact ⟨rfl, rfl⟩
set_option maxHeartbeats 2000000 in
theorem rsv16 (w : World) : Calls Tryz.prog 137 #[.string ⟨#[103, 114, 111, 117, 112]⟩] w fun e w' => e = .returned (.bool true) ∧ w' = w := by
 go_enter Tryz.func137, Tryz.ntmps137
 go_wp2_with fail
 go_ret
 exact ⟨rfl, rfl⟩
set_option maxHeartbeats 2000000 in
theorem rsv17 (w : World) : Calls Tryz.prog 137 #[.string ⟨#[105, 110]⟩] w fun e w' => e = .returned (.bool true) ∧ w' = w := by
 go_enter Tryz.func137, Tryz.ntmps137
 go_wp2_with fail
 go_ret
 exact ⟨rfl, rfl⟩
set_option maxHeartbeats 2000000 in
theorem rsv18 (w : World) : Calls Tryz.prog 137 #[.string ⟨#[105, 110, 115, 101, 114, 116]⟩] w fun e w' => e = .returned (.bool true) ∧ w' = w := by
 go_enter Tryz.func137, Tryz.ntmps137
 go_wp2_with fail
 go_ret
 exact ⟨rfl, rfl⟩
set_option maxHeartbeats 2000000 in
theorem rsv19 (w : World) : Calls Tryz.prog 137 #[.string ⟨#[105, 110, 116, 101, 103, 101, 114]⟩] w fun e w' => e = .returned (.bool true) ∧ w' = w := by
 go_enter Tryz.func137, Tryz.ntmps137
 go_wp2_with fail
 go_ret
 exact ⟨rfl, rfl⟩
set_option maxHeartbeats 2000000 in
theorem rsv20 (w : World) : Calls Tryz.prog 137 #[.string ⟨#[105, 110, 116, 111]⟩] w fun e w' => e = .returned (.bool true) ∧ w' = w := by
 go_enter Tryz.func137, Tryz.ntmps137
 go_wp2_with fail
 go_ret
 exact ⟨rfl, rfl⟩
set_option maxHeartbeats 2000000 in
theorem rsv21 (w : World) : Calls Tryz.prog 137 #[.string ⟨#[105, 115]⟩] w fun e w' => e = .returned (.bool true) ∧ w' = w := by
 go_enter Tryz.func137, Tryz.ntmps137
 go_wp2_with fail
 go_ret
 exact ⟨rfl, rfl⟩
set_option maxHeartbeats 2000000 in
theorem rsv22 (w : World) : Calls Tryz.prog 137 #[.string ⟨#[108, 105, 107, 101]⟩] w fun e w' => e = .returned (.bool true) ∧ w' = w := by
 go_enter Tryz.func137, Tryz.ntmps137
 go_wp2_with fail
 go_ret
 exact ⟨rfl, rfl⟩
set_option maxHeartbeats 2000000 in
theorem rsv23 (w : World) : Calls Tryz.prog 137 #[.string ⟨#[108, 105, 109, 105, 116]⟩] w fun e w' => e = .returned (.bool true) ∧ w' = w := by
 go_enter Tryz.func137, Tryz.ntmps137
 go_wp2_with fail
 go_ret
 exact ⟨rfl, rfl⟩
set_option maxHeartbeats 2000000 in
theorem rsv24 (w : World) : Calls Tryz.prog 137 #[.string ⟨#[109, 97, 120]⟩] w fun e w' => e = .returned (.bool true) ∧ w' = w := by
 go_enter Tryz.func137, Tryz.ntmps137
 go_wp2_with fail
 go_ret
 exact ⟨rfl, rfl⟩
set_option maxHeartbeats 2000000 in
theorem rsv25 (w : World) : Calls Tryz.prog 137 #[.string ⟨#[109, 105, 110]⟩] w fun e w' => e = .returned (.bool true) ∧ w' = w := by
 go_enter Tryz.func137, Tryz.ntmps137
 go_wp2_with fail
 go_ret
 exact ⟨rfl, rfl⟩
set_option maxHeartbeats 2000000 in
theorem rsv26 (w : World) : Calls Tryz.prog 137 #[.string ⟨#[110, 111, 116]⟩] w fun e w' => e = .returned (.bool true) ∧ w' = w := by
 go_enter Tryz.func137, Tryz.ntmps137
 go_wp2_with fail
 go_ret
 exact ⟨rfl, rfl⟩
set_option maxHeartbeats 2000000 in
theorem rsv27 (w : World) : Calls Tryz.prog 137 #[.string ⟨#[110, 117, 108, 108]⟩] w fun e w' => e = .returned (.bool true) ∧ w' = w := by
 go_enter Tryz.func137, Tryz.ntmps137
 go_wp2_with fail
 go_ret
 exact ⟨rfl, rfl⟩
set_option maxHeartbeats 2000000 in
theorem rsv28 (w : World) : Calls Tryz.prog 137 #[.string ⟨#[111, 102, 102, 115, 101, 116]⟩] w fun e w' => e = .returned (.bool true) ∧ w' = w := by
 go_enter Tryz.func137, Tryz.ntmps137
 go_wp2_with fail
 go_ret
 exact ⟨rfl, rfl⟩
set_option maxHeartbeats 2000000 in
theorem rsv29 (w : World) : Calls Tryz.prog 137 #[.string ⟨#[111, 114]⟩] w fun e w' => e = .returned (.bool true) ∧ w' = w := by
 go_enter Tryz.func137, Tryz.ntmps137
 go_wp2_with fail
 go_ret
 exact ⟨rfl, rfl⟩
set_option maxHeartbeats 2000000 in
theorem rsv30 (w : World) : Calls Tryz.prog 137 #[.string ⟨#[111, 114, 100, 101, 114]⟩] w fun e w' => e = .returned (.bool true) ∧ w' = w := by
 go_enter Tryz.func137, Tryz.ntmps137
 go_wp2_with fail
 go_ret
 exact ⟨rfl, rfl⟩
set_option maxHeartbeats 2000000 in
theorem rsv31 (w : World) : Calls Tryz.prog 137 #[.string ⟨#[114, 111, 108, 108, 98, 97, 99, 107]⟩] w fun e w' => e = .returned (.bool true) ∧ w' = w := by
 go_enter Tryz.func137, Tryz.ntmps137
 go_wp2_with fail
 go_ret
 exact ⟨rfl, rfl⟩
set_option maxHeartbeats 2000000 in
theorem rsv32 (w : World) : Calls Tryz.prog 137 #[.string ⟨#[115, 101, 108, 101, 99, 116]⟩] w fun e w' => e = .returned (.bool true) ∧ w' = w := by
 go_enter Tryz.func137, Tryz.ntmps137
 go_wp2_with fail
 go_ret
 exact ⟨rfl, rfl⟩
set_option maxHeartbeats 2000000 in
theorem rsv33 (w : World) : Calls Tryz.prog 137 #[.string ⟨#[115, 101, 116]⟩] w fun e w' => e = .returned (.bool true) ∧ w' = w := by
 go_enter Tryz.func137, Tryz.ntmps137
 go_wp2_with fail
 go_ret
 exact ⟨rfl, rfl⟩
set_option maxHeartbeats 2000000 in
theorem rsv34 (w : World) : Calls Tryz.prog 137 #[.string ⟨#[115, 117, 109]⟩] w fun e w' => e = .returned (.bool true) ∧ w' = w := by
 go_enter Tryz.func137, Tryz.ntmps137
 go_wp2_with fail
 go_ret
 exact ⟨rfl, rfl⟩
set_option maxHeartbeats 2000000 in
theorem rsv35 (w : World) : Calls Tryz.prog 137 #[.string ⟨#[116, 97, 98, 108, 101]⟩] w fun e w' => e = .returned (.bool true) ∧ w' = w := by
 go_enter Tryz.func137, Tryz.ntmps137
 go_wp2_with fail
 go_ret
 exact ⟨rfl, rfl⟩
set_option maxHeartbeats 2000000 in
theorem rsv36 (w : World) : Calls Tryz.prog 137 #[.string ⟨#[116, 101, 120, 116]⟩] w fun e w' => e = .returned (.bool true) ∧ w' = w := by
 go_enter Tryz.func137, Tryz.ntmps137
 go_wp2_with fail
 go_ret
 exact ⟨rfl, rfl⟩
set_option maxHeartbeats 2000000 in
theorem rsv37 (w : World) : Calls Tryz.prog 137 #[.string ⟨#[117, 110, 105, 113, 117, 101]⟩] w fun e w' => e = .returned (.bool true) ∧ w' = w := by
 go_enter Tryz.func137, Tryz.ntmps137
 go_wp2_with fail
 go_ret
 exact ⟨rfl, rfl⟩
set_option maxHeartbeats 2000000 in
theorem rsv38 (w : World) : Calls Tryz.prog 137 #[.string ⟨#[117, 112, 100, 97, 116, 101]⟩] w fun e w' => e = .returned (.bool true) ∧ w' = w := by
 go_enter Tryz.func137, Tryz.ntmps137
 go_wp2_with fail
 go_ret
 exact ⟨rfl, rfl⟩
set_option maxHeartbeats 2000000 in
theorem rsv39 (w : World) : Calls Tryz.prog 137 #[.string ⟨#[118, 97, 108, 117, 101, 115]⟩] w fun e w' => e = .returned (.bool true) ∧ w' = w := by
 go_enter Tryz.func137, Tryz.ntmps137
 go_wp2_with fail
 go_ret
 exact ⟨rfl, rfl⟩
set_option maxHeartbeats 2000000 in
theorem rsv40 (w : World) : Calls Tryz.prog 137 #[.string ⟨#[119, 104, 101, 114, 101]⟩] w fun e w' => e = .returned (.bool true) ∧ w' = w := by
 go_enter Tryz.func137, Tryz.ntmps137
 go_wp2_with fail
 go_ret
 exact ⟨rfl, rfl⟩
set_option maxHeartbeats 4000000 in
theorem rsv_not (s : ByteArray) (w : World) (h : s.data.toList ∉ LX.rsv) : Calls Tryz.prog 137 #[.string s] w fun e w' => e = .returned (.bool false) ∧ w' = w := by
 have key : ∀ l ∈ LX.rsv, ¬ s.toList = l := fun l hl c => h (by rw [← ByteArray.toList_eq, c]; exact hl)
 have a0 : ¬ s.toList = [97, 110, 100] := key _ (by decide)
 have b0 : (s.toList == [97, 110, 100]) = false := by simpa using a0
 have a1 : ¬ s.toList = [97, 110, 121] := key _ (by decide)
 have b1 : (s.toList == [97, 110, 121]) = false := by simpa using a1
 have a2 : ¬ s.toList = [97, 115] := key _ (by decide)
 have b2 : (s.toList == [97, 115]) = false := by simpa using a2
 have a3 : ¬ s.toList = [97, 115, 99] := key _ (by decide)
 have b3 : (s.toList == [97, 115, 99]) = false := by simpa using a3
 have a4 : ¬ s.toList = [98, 101, 103, 105, 110] := key _ (by decide)
 have b4 : (s.toList == [98, 101, 103, 105, 110]) = false := by simpa using a4
 have a5 : ¬ s.toList = [98, 101, 116, 119, 101, 101, 110] := key _ (by decide)
 have b5 : (s.toList == [98, 101, 116, 119, 101, 101, 110]) = false := by simpa using a5
 have a6 : ¬ s.toList = [98, 108, 111, 98] := key _ (by decide)
 have b6 : (s.toList == [98, 108, 111, 98]) = false := by simpa using a6
 have a7 : ¬ s.toList = [98, 121] := key _ (by decide)
 have b7 : (s.toList == [98, 121]) = false := by simpa using a7
 have a8 : ¬ s.toList = [99, 111, 109, 109, 105, 116] := key _ (by decide)
 have b8 : (s.toList == [99, 111, 109, 109, 105, 116]) = false := by simpa using a8
 have a9 : ¬ s.toList = [99, 111, 117, 110, 116] := key _ (by decide)
 have b9 : (s.toList == [99, 111, 117, 110, 116]) = false := by simpa using a9
 have a10 : ¬ s.toList = [99, 114, 101, 97, 116, 101] := key _ (by decide)
 have b10 : (s.toList == [99, 114, 101, 97, 116, 101]) = false := by simpa using a10
 have a11 : ¬ s.toList = [100, 101, 108, 101, 116, 101] := key _ (by decide)
 have b11 : (s.toList == [100, 101, 108, 101, 116, 101]) = false := by simpa using a11
 have a12 : ¬ s.toList = [100, 101, 115, 99] := key _ (by decide)
 have b12 : (s.toList == [100, 101, 115, 99]) = false := by simpa using a12
 have a13 : ¬ s.toList = [100, 105, 115, 116, 105, 110, 99, 116] := key _ (by decide)
 have b13 : (s.toList == [100, 105, 115, 116, 105, 110, 99, 116]) = false := by simpa using a13
 have a14 : ¬ s.toList = [100, 114, 111, 112] := key _ (by decide)
 have b14 : (s.toList == [100, 114, 111, 112]) = false := by simpa using a14
 have a15 : ¬ s.toList = [102, 114, 111, 109] := key _ (by decide)
 have b15 : (s.toList == [102, 114, 111, 109]) = false := by simpa using a15
 have a16 : ¬ s.toList = [103, 114, 111, 117, 112] := key _ (by decide)
 have b16 : (s.toList == [103, 114, 111, 117, 112]) = false := by simpa using a16
 have a17 : ¬ s.toList = [105, 110] := key _ (by decide)
 have b17 : (s.toList == [105, 110]) = false := by simpa using a17
 have a18 : ¬ s.toList = [105, 110, 115, 101, 114, 116] := key _ (by decide)
 have b18 : (s.toList == [105, 110, 115, 101, 114, 116]) = false := by simpa using a18
 have a19 : ¬ s.toList = [105, 110, 116, 101, 103, 101, 114] := key _ (by decide)
 have b19 : (s.toList == [105, 110, 116, 101, 103, 101, 114]) = false := by simpa using a19
 have a20 : ¬ s.toList = [105, 110, 116, 111] := key _ (by decide)
 have b20 : (s.toList == [105, 110, 116, 111]) = false := by simpa using a20
 have a21 : ¬ s.toList = [105, 115] := key _ (by decide)
 have b21 : (s.toList == [105, 115]) = false := by simpa using a21
 have a22 : ¬ s.toList = [108, 105, 107, 101] := key _ (by decide)
 have b22 : (s.toList == [108, 105, 107, 101]) = false := by simpa using a22
 have a23 : ¬ s.toList = [108, 105, 109, 105, 116] := key _ (by decide)
 have b23 : (s.toList == [108, 105, 109, 105, 116]) = false := by simpa using a23
 have a24 : ¬ s.toList = [109, 97, 120] := key _ (by decide)
 have b24 : (s.toList == [109, 97, 120]) = false := by simpa using a24
 have a25 : ¬ s.toList = [109, 105, 110] := key _ (by decide)
 have b25 : (s.toList == [109, 105, 110]) = false := by simpa using a25
 have a26 : ¬ s.toList = [110, 111, 116] := key _ (by decide)
 have b26 : (s.toList == [110, 111, 116]) = false := by simpa using a26
 have a27 : ¬ s.toList = [110, 117, 108, 108] := key _ (by decide)
 have b27 : (s.toList == [110, 117, 108, 108]) = false := by simpa using a27
 have a28 : ¬ s.toList = [111, 102, 102, 115, 101, 116] := key _ (by decide)
 have b28 : (s.toList == [111, 102, 102, 115, 101, 116]) = false := by simpa using a28
 have a29 : ¬ s.toList = [111, 114] := key _ (by decide)
 have b29 : (s.toList == [111, 114]) = false := by simpa using a29
 have a30 : ¬ s.toList = [111, 114, 100, 101, 114] := key _ (by decide)
 have b30 : (s.toList == [111, 114, 100, 101, 114]) = false := by simpa using a30
 have a31 : ¬ s.toList = [114, 111, 108, 108, 98, 97, 99, 107] := key _ (by decide)
 have b31 : (s.toList == [114, 111, 108, 108, 98, 97, 99, 107]) = false := by simpa using a31
 have a32 : ¬ s.toList = [115, 101, 108, 101, 99, 116] := key _ (by decide)
 have b32 : (s.toList == [115, 101, 108, 101, 99, 116]) = false := by simpa using a32
 have a33 : ¬ s.toList = [115, 101, 116] := key _ (by decide)
 have b33 : (s.toList == [115, 101, 116]) = false := by simpa using a33
 have a34 : ¬ s.toList = [115, 117, 109] := key _ (by decide)
 have b34 : (s.toList == [115, 117, 109]) = false := by simpa using a34
 have a35 : ¬ s.toList = [116, 97, 98, 108, 101] := key _ (by decide)
 have b35 : (s.toList == [116, 97, 98, 108, 101]) = false := by simpa using a35
 have a36 : ¬ s.toList = [116, 101, 120, 116] := key _ (by decide)
 have b36 : (s.toList == [116, 101, 120, 116]) = false := by simpa using a36
 have a37 : ¬ s.toList = [117, 110, 105, 113, 117, 101] := key _ (by decide)
 have b37 : (s.toList == [117, 110, 105, 113, 117, 101]) = false := by simpa using a37
 have a38 : ¬ s.toList = [117, 112, 100, 97, 116, 101] := key _ (by decide)
 have b38 : (s.toList == [117, 112, 100, 97, 116, 101]) = false := by simpa using a38
 have a39 : ¬ s.toList = [118, 97, 108, 117, 101, 115] := key _ (by decide)
 have b39 : (s.toList == [118, 97, 108, 117, 101, 115]) = false := by simpa using a39
 have a40 : ¬ s.toList = [119, 104, 101, 114, 101] := key _ (by decide)
 have b40 : (s.toList == [119, 104, 101, 114, 101]) = false := by simpa using a40
 clear key h
 go_enter Tryz.func137, Tryz.ntmps137
 go_wp2_with fail
 go_ret
 exact ⟨rfl, rfl⟩
theorem reserved_any (s : ByteArray) (w : World) : Calls Tryz.prog 137 #[.string s] w fun e w' => e = .returned (.bool (decide (s.data.toList ∈ LX.rsv))) ∧ w' = w := by
 by_cases h : s.data.toList ∈ LX.rsv
 ·
  rw [decide_eq_true h]
  rw [← dl_eq s]
  generalize s.data.toList = l at *
  simp only [LX.rsv, List.mem_cons, List.not_mem_nil, or_false] at h
  rcases h with rfl | rfl | rfl | rfl | rfl | rfl | rfl | rfl | rfl | rfl | rfl | rfl | rfl | rfl | rfl | rfl | rfl | rfl | rfl | rfl | rfl | rfl | rfl | rfl | rfl | rfl | rfl | rfl | rfl | rfl | rfl | rfl | rfl | rfl | rfl | rfl | rfl | rfl | rfl | rfl | rfl
  · exact rsv0 w
  · exact rsv1 w
  · exact rsv2 w
  · exact rsv3 w
  · exact rsv4 w
  · exact rsv5 w
  · exact rsv6 w
  · exact rsv7 w
  · exact rsv8 w
  · exact rsv9 w
  · exact rsv10 w
  · exact rsv11 w
  · exact rsv12 w
  · exact rsv13 w
  · exact rsv14 w
  · exact rsv15 w
  · exact rsv16 w
  · exact rsv17 w
  · exact rsv18 w
  · exact rsv19 w
  · exact rsv20 w
  · exact rsv21 w
  · exact rsv22 w
  · exact rsv23 w
  · exact rsv24 w
  · exact rsv25 w
  · exact rsv26 w
  · exact rsv27 w
  · exact rsv28 w
  · exact rsv29 w
  · exact rsv30 w
  · exact rsv31 w
  · exact rsv32 w
  · exact rsv33 w
  · exact rsv34 w
  · exact rsv35 w
  · exact rsv36 w
  · exact rsv37 w
  · exact rsv38 w
  · exact rsv39 w
  · exact rsv40 w
 ·
  rw [decide_eq_false h]
  exact rsv_not s w h
end Go.Proofs.YtbcfdhimngoplaaGreatDoor
