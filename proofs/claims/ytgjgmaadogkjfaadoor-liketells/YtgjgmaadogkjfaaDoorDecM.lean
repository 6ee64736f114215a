/-
  What Go's decoder tells of a text's first letter, in the words of the plain functions: how long the first piece is, and of which kind.
-/
import Derived.Test.YtgjgmaadogkjfaaDoorBase
import Derived.Test.YtgjgmaadogkjfaaDoorShelf
namespace Go.Proofs.YtgjgmaadogkjfaaDoor
open Go.ChangeShapes Go.WideShapes Go.ChangeAt Go.RowKit
set_option linter.unusedVariables false

theorem get_at (S : ByteArray) (i : Nat) : (S.get! i).toNat = (S.data.toList[i]?.map UInt8.toNat).getD 0 := by
  cases S with
  | mk d =>
    show (d[i]!).toNat = (d.toList[i]?.map UInt8.toNat).getD 0
    by_cases h : i < d.size
    · rw [getElem!_pos d i h, Array.getElem?_toList, Array.getElem?_eq_getElem h]; rfl
    · rw [getElem!_neg d i h, List.getElem?_eq_none (by rw [Array.length_toList]; omega)]; rfl

theorem inr_eq (l : LK.Bs) (i lo hi : Nat) (h0 : 0 < lo) : LK.inr l i lo hi = decide (lo ≤ (l[i]?.map UInt8.toNat).getD 0 ∧ (l[i]?.map UInt8.toNat).getD 0 ≤ hi) := by
  unfold LK.inr
  rcases hq : l[i]? with _ | b
  · simp
    omega
  · simp

/-- the size that the model's decoder tells, over plain numbers -/
def szN (b0 b1 b2 b3 : Nat) : Nat :=
  if (194 ≤ b0 ∧ b0 ≤ 223) ∧ (128 ≤ b1 ∧ b1 ≤ 191) then 2
  else if (((224 ≤ b0 ∧ b0 ≤ 224) ∧ (160 ≤ b1 ∧ b1 ≤ 191)) ∨ ((225 ≤ b0 ∧ b0 ≤ 236) ∧ (128 ≤ b1 ∧ b1 ≤ 191)) ∨ ((237 ≤ b0 ∧ b0 ≤ 237) ∧ (128 ≤ b1 ∧ b1 ≤ 159)) ∨ ((238 ≤ b0 ∧ b0 ≤ 239) ∧ (128 ≤ b1 ∧ b1 ≤ 191))) ∧ (128 ≤ b2 ∧ b2 ≤ 191) then 3
  else if (((240 ≤ b0 ∧ b0 ≤ 240) ∧ (144 ≤ b1 ∧ b1 ≤ 191)) ∨ ((241 ≤ b0 ∧ b0 ≤ 243) ∧ (128 ≤ b1 ∧ b1 ≤ 191)) ∨ ((244 ≤ b0 ∧ b0 ≤ 244) ∧ (128 ≤ b1 ∧ b1 ≤ 143))) ∧ (128 ≤ b2 ∧ b2 ≤ 191) ∧ (128 ≤ b3 ∧ b3 ≤ 191) then 4
  else 1

set_option maxHeartbeats 4000000 in
theorem dec_size (n b0 b1 b2 b3 : Nat) (h0 : b0 < 256) (h1 : b1 < 256) (h2 : b2 < 256) (h3 : b3 < 256) (g1 : n ≤ 1 → b1 = 0) (g2 : n ≤ 2 → b2 = 0) (g3 : n ≤ 3 → b3 = 0) :
    (Lib.decodeN n b0 b1 b2 b3).2 = szN b0 b1 b2 b3 := by
  unfold Lib.decodeN szN
  repeat' split
  all_goals first | rfl | (exfalso; omega)

theorem dec_rune (n b0 b1 b2 b3 : Nat) : (Lib.decodeN n b0 b1 b2 b3).1 = b0 ∧ b0 < 128 ∨ 128 ≤ (Lib.decodeN n b0 b1 b2 b3).1 ∧ 128 ≤ b0 := by
  unfold Lib.decodeN
  repeat' split
  all_goals (dsimp only; omega)

theorem sz_eq (l : LK.Bs) : LK.sz l = szN ((l[0]?.map UInt8.toNat).getD 0) ((l[1]?.map UInt8.toNat).getD 0) ((l[2]?.map UInt8.toNat).getD 0) ((l[3]?.map UInt8.toNat).getD 0) := by
  unfold LK.sz LK.sec3 LK.sec4 szN
  rw [inr_eq l 0 194 223 (by decide), inr_eq l 1 128 191 (by decide), inr_eq l 0 224 224 (by decide), inr_eq l 1 160 191 (by decide), inr_eq l 0 225 236 (by decide), inr_eq l 0 237 237 (by decide), inr_eq l 1 128 159 (by decide), inr_eq l 0 238 239 (by decide), inr_eq l 2 128 191 (by decide), inr_eq l 0 240 240 (by decide), inr_eq l 1 144 191 (by decide), inr_eq l 0 241 243 (by decide), inr_eq l 0 244 244 (by decide), inr_eq l 1 128 143 (by decide), inr_eq l 3 128 191 (by decide)]
  generalize (l[0]?.map UInt8.toNat).getD 0 = b0
  generalize (l[1]?.map UInt8.toNat).getD 0 = b1
  generalize (l[2]?.map UInt8.toNat).getD 0 = b2
  generalize (l[3]?.map UInt8.toNat).getD 0 = b3
  simp only [Bool.and_eq_true, Bool.or_eq_true, decide_eq_true_eq, or_assoc, and_assoc]

theorem byte_lt (o : Option UInt8) : (o.map UInt8.toNat).getD 0 < 256 := by
  cases o with
  | none => decide
  | some b => exact b.toNat_lt
theorem byte_end (l : LK.Bs) (i : Nat) (h : l.length ≤ i) : (l[i]?.map UInt8.toNat).getD 0 = 0 := by
  rw [List.getElem?_eq_none h]; rfl

/-- what Go's decoder tells of a text that is not empty -/
theorem decodeGo_eq (S : ByteArray) (h : S.data.toList ≠ []) : (Lib.decodeGo S).2 = LK.sz S.data.toList := by
  have hn : S.size = S.data.toList.length := by rw [Array.length_toList]; rfl
  have h0 : S.size ≠ 0 := by rw [hn]; exact fun e => h (List.eq_nil_of_length_eq_zero e)
  unfold Lib.decodeGo
  rw [if_neg h0, Lib.decode_at, get_at, get_at, get_at, get_at, sz_eq]
  exact dec_size _ _ _ _ _ (byte_lt _) (byte_lt _) (byte_lt _) (byte_lt _) (fun e => byte_end _ _ (by omega)) (fun e => byte_end _ _ (by omega)) (fun e => byte_end _ _ (by omega))
theorem decodeGo_kind (S : ByteArray) : (if ((Lib.decodeGo S).1 : Int) = 37 ∨ ((Lib.decodeGo S).1 : Int) = 95 ∨ ((Lib.decodeGo S).1 : Int) = 92 then ((Lib.decodeGo S).1 : Int) else 97) = LK.kd S.data.toList := by
  by_cases h0 : S.size = 0
  · have e : S.data.toList = [] := List.eq_nil_of_length_eq_zero (by rw [Array.length_toList]; exact h0)
    unfold Lib.decodeGo
    rw [if_pos h0, e]
    rfl
  · unfold Lib.decodeGo
    rw [if_neg h0, Lib.decode_at, get_at]
    have hl : 0 < S.data.toList.length := by rw [Array.length_toList]; exact Nat.pos_of_ne_zero h0
    rcases hq : S.data.toList with _ | ⟨b, l⟩
    · rw [hq] at hl; simp at hl
    · simp only [List.getElem?_cons_zero, Option.map_some, Option.getD_some]
      have hd := dec_rune (S.size - 0) b.toNat (S.get! (0 + 1)).toNat (S.get! (0 + 2)).toNat (S.get! (0 + 3)).toNat
      generalize (Lib.decodeN (S.size - 0) b.toNat (S.get! (0 + 1)).toNat (S.get! (0 + 2)).toNat (S.get! (0 + 3)).toNat).1 = r at hd
      unfold LK.kd
      simp only []
      repeat' split
      all_goals omega
end Go.Proofs.YtgjgmaadogkjfaaDoor
