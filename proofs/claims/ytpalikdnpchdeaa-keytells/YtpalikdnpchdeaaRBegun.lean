/-
  The examples that the statements on rows hold first are met.
-/
import Derived.Test.YtpalikdnpchdeaaRecUnkey
import Derived.Test.YtpalikdnpchdeaaRecCmp
namespace Go.Proofs.Ytpalikdnpchdeaa
open Go.ChangeShapes Go.WideShapes Go.ChangeAt Go.RowKit
set_option linter.unusedVariables false
set_option linter.unusedSimpArgs false

set_option maxRecDepth 100000 in
set_option maxHeartbeats 1000000 in
theorem vInt_any (n : Int) (w : World) : Calls Try.prog 39 #[.int .i64 n] w fun e w' => e = .returned (.agg #[.int .i64 1, .int .i64 n, .string ⟨#[]⟩]) ∧ Fr w w' := by
  go_enter Try.func39, Try.ntmps39
  go_wp2
  refine bodyPost_ret (v := .agg #[.int .i64 1, .int .i64 n, .string ⟨#[]⟩]) (by simp [results, Try.results39, go_sem]) rfl ?_
  exact ⟨rfl, (Fr.refl _).alloc _⟩
set_option maxRecDepth 100000 in
set_option maxHeartbeats 1000000 in
theorem vText_any (s : ByteArray) (w : World) : Calls Try.prog 40 #[.string s] w fun e w' => e = .returned (.agg #[.int .i64 2, .int .i64 0, .string s]) ∧ Fr w w' := by
  go_enter Try.func40, Try.ntmps40
  go_wp2
  refine bodyPost_ret (v := .agg #[.int .i64 2, .int .i64 0, .string s]) (by simp [results, Try.results40, go_sem]) rfl ?_
  exact ⟨rfl, (Fr.refl _).alloc _⟩

theorem lit_row (W : World) (l : List VM.Vl) : IsRow (W.alloc (.cells (rowV l).toArray 52)) (.slice (some ⟨W.heap.size, 0, none⟩) l.length l.length) l := by
  refine ⟨_, _, rfl, Or.inr ⟨W.heap.size, 0, rfl, by simp, ?_⟩⟩
  intro i hi
  obtain ⟨a, b, c⟩ := rowV_get l i hi
  have h3 : (W.alloc (.cells (rowV l).toArray 52)).heap[W.heap.size]? = some (.cells (rowV l).toArray 52 (0, 0)) := by
    show (W.heap.push _)[W.heap.size]? = _
    rw [Array.getElem?_push_size]
  have key : ∀ j u, (rowV l)[j]? = some u → (W.alloc (.cells (rowV l).toArray 52)).cell? ⟨W.heap.size, 0 + j, none⟩ = some u := by
    intro j u hu
    rw [Nat.zero_add, Lib.cell_of_heap h3]
    simpa using hu
  exact ⟨key _ _ a, key _ _ b, key _ _ c⟩

def exA : List VM.Vl := [⟨1, -1, ⟨#[]⟩⟩, ⟨2, 0, ⟨#[97, 98]⟩⟩, ⟨0, 0, ⟨#[]⟩⟩]
def exB : List VM.Vl := [⟨1, 1, ⟨#[]⟩⟩, ⟨2, 0, ⟨#[97, 0]⟩⟩]
def exC : List VM.Vl := [⟨1, 1, ⟨#[]⟩⟩]
def exD : List VM.Vl := [⟨1, 1, ⟨#[]⟩⟩, ⟨0, 0, ⟨#[]⟩⟩]

theorem ex1 : WM.row exA = [3, 1, 1, 2, 2, 97, 98, 0] := by decide
theorem ex2 : RM.row [3, 1, 1, 2, 2, 97, 98, 0, 122] = .ok (exA, [122]) := by rfl
theorem ex3 : KM.row exB = [16, 128, 0, 0, 0, 0, 0, 0, 1, 32, 97, 0, 255, 0, 1] := by decide
theorem ex4 : ∃ xs, KR.kr 8 [5, 32, 98, 0, 1] = .ok (xs, []) ∧ xs.length = 2 := ⟨[⟨0, 0, ⟨#[]⟩⟩, ⟨2, 0, ⟨#[98]⟩⟩], rfl, rfl⟩
theorem ex5 : KR.kr 8 [32, 98, 0, 2] = .error 1 := by rfl
theorem ex6 : CM.rows exC exD = -1 := by decide
theorem exw : Wide exA ∧ Wide exB := by
  constructor
  · intro x hx
    simp [exA] at hx
    rcases hx with rfl | rfl | rfl <;> exact ⟨by decide, by decide⟩
  · intro x hx
    simp [exB] at hx
    rcases hx with rfl | rfl <;> exact ⟨by decide, by decide⟩
theorem exc : VM.chkRow exA = 0 ∧ VM.chkRow exB = 0 ∧ VM.chkRow exC = 0 ∧ VM.chkRow exD = 0 := by decide

theorem beginW (w : World) : Calls Try.prog 11 #[.slice (some ⟨w.heap.size, 0, none⟩) 3 3] (w.alloc (.cells #[.int .i64 1, .int .i64 (-1), .string ⟨#[]⟩, .int .i64 2, .int .i64 0, .string ⟨#[97, 98]⟩, .int .i64 0, .int .i64 0, .string ⟨#[]⟩] 52)) fun e w' =>
    e = .returned (.tuple #[.string ⟨#[3, 1, 1, 2, 2, 97, 98, 0]⟩, .int .i64 0]) ∧ Fr w w' := by
  refine (recWrite_ok _ exA _ (lit_row w exA) exw.1 exc.1).mono ?_
  rw [ex1]
  rintro e w' ⟨rfl, hf⟩
  exact ⟨rfl, ((Fr.refl w).alloc _).trans hf⟩
theorem beginR (w : World) : Calls Try.prog 12 #[.string ⟨#[3, 1, 1, 2, 2, 97, 98, 0, 122]⟩] w fun e w' =>
    (∃ a cap, e = .returned (.tuple #[.slice a 3 cap, .int .i64 8, .int .i64 0])) ∧ Fr w w' := by
  refine (recRead_any _ w (by decide)).mono ?_
  rintro e w' ⟨he, hf⟩
  unfold ReadsAs at he
  rw [show (⟨#[3, 1, 1, 2, 2, 97, 98, 0, 122]⟩ : ByteArray).data.toList = [3, 1, 1, 2, 2, 97, 98, 0, 122] from rfl, ex2] at he
  obtain ⟨v, rfl, a, cap, rfl, _⟩ := he
  exact ⟨⟨a, cap, rfl⟩, hf⟩
theorem beginK (w : World) : Calls Try.prog 19 #[.slice (some ⟨w.heap.size, 0, none⟩) 2 2] (w.alloc (.cells #[.int .i64 1, .int .i64 1, .string ⟨#[]⟩, .int .i64 2, .int .i64 0, .string ⟨#[97, 0]⟩] 52)) fun e w' =>
    e = .returned (.tuple #[.string ⟨#[16, 128, 0, 0, 0, 0, 0, 0, 1, 32, 97, 0, 255, 0, 1]⟩, .int .i64 0]) ∧ Fr w w' := by
  refine (recKey_ok _ exB _ (lit_row w exB) exw.2 exc.2.1).mono ?_
  rw [ex3]
  rintro e w' ⟨rfl, hf⟩
  exact ⟨rfl, ((Fr.refl w).alloc _).trans hf⟩
theorem beginU (w : World) : Calls Try.prog 20 #[.string ⟨#[5, 32, 98, 0, 1]⟩] w fun e w' =>
    (∃ a cap, e = .returned (.tuple #[.slice a 2 cap, .int .i64 0])) ∧ Fr w w' := by
  refine (recUnkey_any _ w (by decide)).mono ?_
  rintro e w' ⟨he, hf⟩
  obtain ⟨xs, hx, hl⟩ := ex4
  unfold UnkeysAs at he
  rw [show (⟨#[5, 32, 98, 0, 1]⟩ : ByteArray).data.toList = [5, 32, 98, 0, 1] from rfl, hx] at he
  obtain ⟨v, rfl, a, cap, rfl, _⟩ := he
  rw [hl]
  exact ⟨⟨a, cap, rfl⟩, hf⟩
theorem beginV (w : World) : Calls Try.prog 20 #[.string ⟨#[32, 98, 0, 2]⟩] w fun e w' =>
    e = .returned (.tuple #[.slice none 0 0, .int .i64 1]) ∧ Fr w w' := by
  refine (recUnkey_any _ w (by decide)).mono ?_
  rintro e w' ⟨he, hf⟩
  unfold UnkeysAs at he
  rw [show (⟨#[32, 98, 0, 2]⟩ : ByteArray).data.toList = [32, 98, 0, 2] from rfl, ex5] at he
  exact ⟨he, hf⟩
theorem beginC (w w2 : World) (hf : Fr (w.alloc (.cells #[.int .i64 1, .int .i64 1, .string ⟨#[]⟩] 52)) w2) :
    Calls Try.prog 18 #[.slice (some ⟨w.heap.size, 0, none⟩) 1 1, .slice (some ⟨w2.heap.size, 0, none⟩) 2 2] (w2.alloc (.cells #[.int .i64 1, .int .i64 1, .string ⟨#[]⟩, .int .i64 0, .int .i64 0, .string ⟨#[]⟩] 52)) fun e w' =>
    e = .returned (.tuple #[.int .i64 (-1), .int .i64 0]) ∧ Fr w w' := by
  refine (recCompare_any _ _ exC exD _ ((lit_row w exC).fr (hf.alloc _)) (lit_row w2 exD) (by decide) (by decide)).mono ?_
  rintro e w' ⟨rfl, hf2⟩
  refine ⟨?_, (((Fr.refl w).alloc _).trans (hf.alloc _)).trans hf2⟩
  rw [if_pos ⟨exc.2.2.1, exc.2.2.2⟩, if_pos exc.2.2.1, exc.2.2.2, ex6]
  rfl

set_option maxRecDepth 100000 in
set_option maxHeartbeats 4000000 in
theorem begun_any (w : World) : Calls Try.prog 16 #[] w fun e w' => e = .returned (.bool true) ∧ Fr w w' := by
  go_enter Try.func16, Try.ntmps16
  go_wp2_with (first
    | (go_at_call 39; refine (vInt_any _ _).mono ?_; rintro e w1 ⟨rfl, hf1⟩)
    | (go_at_call 40; refine (vText_any _ _).mono ?_; rintro e w2 ⟨rfl, hf2⟩))
  have F2 : Hid _ := Fr.trans hf1 hf2
  clear hf1 hf2
  refine (beginW w2).mono ?_
  rintro e w3 ⟨rfl, hf3⟩
  have F3 : Hid _ := Fr.trans F2.out hf3
  clear hf3 F2
  go_wp2_with (go_at_call 12; refine (beginR w3).mono ?_)
  rintro e w4 ⟨⟨a4, cap4, rfl⟩, hf4⟩
  have F4 : Hid _ := Fr.trans F3.out hf4
  clear hf4 F3
  go_wp2_with (first
    | (go_at_call 39; refine (vInt_any _ _).mono ?_; rintro e w5 ⟨rfl, hf5⟩)
    | (go_at_call 40; refine (vText_any _ _).mono ?_; rintro e w6 ⟨rfl, hf6⟩))
  have F6 : Hid _ := Fr.trans (Fr.trans F4.out hf5) hf6
  clear hf5 hf6 F4
  refine (beginK w6).mono ?_
  rintro e w7 ⟨rfl, hf7⟩
  have F7 : Hid _ := Fr.trans F6.out hf7
  clear hf7 F6
  go_wp2_with (go_at_call 20; refine (beginU w7).mono ?_)
  rintro e w8 ⟨⟨a8, cap8, rfl⟩, hf8⟩
  have F8 : Hid _ := Fr.trans F7.out hf8
  clear hf8 F7
  go_wp2_with (go_at_call 20; refine (beginV w8).mono ?_)
  rintro e w9 ⟨rfl, hf9⟩
  have F9 : Hid _ := Fr.trans F8.out hf9
  clear hf9 F8
  go_wp2_with (go_at_call 39; refine (vInt_any 1 w9).mono ?_; rintro e w10 ⟨rfl, hf10⟩)
  refine (vInt_any _ _).mono ?_
  rintro e w11 ⟨rfl, hf11⟩
  have F11 : Hid _ := hf11
  have F10 : Hid _ := Fr.trans F9.out hf10
  clear hf10 hf11 F9
  go_wp2_with (go_at_call 18; refine (beginC w10 w11 F11.out).mono ?_)
  rintro e w12 ⟨rfl, hf12⟩
  have F12 : Hid _ := Fr.trans F10.out hf12
  clear hf12 F10 F11
  go_wp2_with fail
  go_ret
  exact ⟨rfl, F12.out⟩
end Go.Proofs.Ytpalikdnpchdeaa
