/-
  What belongs together: WhMath, Wh, LkMath, DecM, Pcs, Coll, Parts, Stand, Match.
-/
import Derived.Test.YtbcfdhimngoplaaGreatDoorBase
import GoSem.Core.Utf8
import Derived.Test.YtbcfdhimngoplaaGreatDoorShelf
import Derived.WalkMore
namespace Go.Proofs.YtbcfdhimngoplaaGreatDoor
set_option linter.unusedVariables false
open Go.ChangeShapes Go.WideShapes Go.ChangeAt Go.RowKit
namespace WH
def Ok (x : Int) : Prop := -9223372036854775808 ≤ x ∧ x ≤ 9223372036854775807
def val (x : Int) : Int := if -9223372036854775808 ≤ x ∧ x ≤ 9223372036854775807 then x else 0
def err (x : Int) : Int := if -9223372036854775808 ≤ x ∧ x ≤ 9223372036854775807 then 0 else 8
theorem val_ok {x : Int} (h : Ok x) : val x = x := if_pos h
theorem err_ok {x : Int} (h : Ok x) : err x = 0 := if_pos h
theorem val_over {x : Int} (h : ¬ Ok x) : val x = 0 := if_neg h
theorem err_over {x : Int} (h : ¬ Ok x) : err x = 8 := if_neg h
theorem ok_em (x : Int) : Ok x ∨ ¬ Ok x := Classical.em _
theorem wrap_ok {x : Int} (h : Ok x) : wrap64 x = x := by
 obtain ⟨h0, h1⟩ := h
 rw [wrap64]
 omega
theorem wrap_in (x : Int) : Ok (wrap64 x) := by
 constructor <;> rw [wrap64] <;> omega
theorem msb_of {x : Int} (h : Ok x) : (BitVec.ofInt 64 x).msb = decide (x < 0) := by
 obtain ⟨h0, h1⟩ := h
 rw [BitVec.msb_eq_decide, BitVec.toNat_ofInt]
 have e : (2 : Nat) ^ (64 - 1) = 9223372036854775808 := by decide
 have e2 : ((2 : Nat) ^ 64 : Nat) = 18446744073709551616 := by decide
 rw [e, e2, decide_eq_decide]
 omega
theorem back_neg (v : BitVec 64) : IntKind.i64.wrap (v.toNat : Int) < 0 ↔ v.msb = true := by
 rw [BitVec.msb_eq_decide, IntKind.wrap_i64, decide_eq_true_iff]
 have e : (2 : Nat) ^ (64 - 1) = 9223372036854775808 := by decide
 have h := v.isLt
 rw [e]
 omega
theorem xor_neg {x y : Int} (hx : Ok x) (hy : Ok y) : bits .xor .i64 x y < 0 ↔ ((x < 0 ∧ 0 ≤ y) ∨ (0 ≤ x ∧ y < 0)) := by
 show IntKind.i64.wrap ((BitVec.ofInt 64 x ^^^ BitVec.ofInt 64 y).toNat : Int) < 0 ↔ _
 rw [back_neg, BitVec.msb_xor, msb_of hx, msb_of hy]
 by_cases h1 : x < 0 <;> by_cases h2 : y < 0 <;> simp [h1, h2] <;> omega
theorem and_neg {x y : Int} (hx : Ok x) (hy : Ok y) : bits .and .i64 x y < 0 ↔ (x < 0 ∧ y < 0) := by
 show IntKind.i64.wrap ((BitVec.ofInt 64 x &&& BitVec.ofInt 64 y).toNat : Int) < 0 ↔ _
 rw [back_neg, BitVec.msb_and, msb_of hx, msb_of hy]
 simp
theorem bits_Ok (op : BinOp) (x y : Int) : Ok (bits op .i64 x y) := by
 show Ok (IntKind.i64.wrap _)
 rw [IntKind.wrap_i64]
 constructor <;> omega
theorem add_test {a b : Int} (ha : Ok a) (hb : Ok b) :
  bits .and .i64 (bits .xor .i64 a (wrap64 (a + b))) (bits .xor .i64 b (wrap64 (a + b))) < 0 ↔ ¬ Ok (a + b) := by
 rw [and_neg (bits_Ok _ _ _) (bits_Ok _ _ _), xor_neg ha (wrap_in _), xor_neg hb (wrap_in _)]
 obtain ⟨a0, a1⟩ := ha
 obtain ⟨b0, b1⟩ := hb
 unfold Ok
 rw [wrap64]
 omega
theorem sub_test {a b : Int} (ha : Ok a) (hb : Ok b) :
  bits .and .i64 (bits .xor .i64 a b) (bits .xor .i64 a (wrap64 (a - b))) < 0 ↔ ¬ Ok (a - b) := by
 rw [and_neg (bits_Ok _ _ _) (bits_Ok _ _ _), xor_neg ha hb, xor_neg ha (wrap_in _)]
 obtain ⟨a0, a1⟩ := ha
 obtain ⟨b0, b1⟩ := hb
 unfold Ok
 rw [wrap64]
 omega
theorem tmod_near (a b : Int) (hb : b ≠ 0) : b * a.tdiv b + a.tmod b = a ∧ (0 ≤ a → 0 ≤ a.tmod b) ∧ (a ≤ 0 → a.tmod b ≤ 0) ∧ (0 < b → -b < a.tmod b ∧ a.tmod b < b) ∧ (b < 0 → b < a.tmod b ∧ a.tmod b < -b) := by
 refine ⟨Int.mul_tdiv_add_tmod a b, fun h => Int.tmod_nonneg b h, ?_, ?_, ?_⟩
 ·
  intro h
  have := Int.tmod_nonneg b (show 0 ≤ -a by omega)
  rw [Int.neg_tmod] at this
  omega
 ·
  intro h
  have h1 := Int.tmod_lt_of_pos a h
  have h2 := Int.tmod_lt_of_pos (-a) h
  rw [Int.neg_tmod] at h2
  omega
 ·
  intro h
  have h1 := Int.tmod_lt_of_pos a (show 0 < -b by omega)
  have h2 := Int.tmod_lt_of_pos (-a) (show 0 < -b by omega)
  rw [Int.tmod_neg] at h1 h2
  rw [Int.neg_tmod] at h2
  omega
theorem tdiv_Ok {a b : Int} (ha : Ok a) (hb : b ≠ 0) (h1 : b ≠ -1) : Ok (a.tdiv b) := by
 obtain ⟨a0, a1⟩ := ha
 have key : (a.tdiv b).natAbs ≤ a.natAbs := by
  rw [Int.natAbs_tdiv]
  exact Nat.div_le_self _ _
 have half : (a.tdiv b).natAbs = a.natAbs / b.natAbs := Int.natAbs_tdiv ..
 by_cases e : b.natAbs = 1
 ·
  have : b = 1 := by omega
  subst this
  rw [Int.tdiv_one]
  exact ⟨a0, a1⟩
 ·
  have h2 : 2 ≤ b.natAbs := by omega
  have : a.natAbs / b.natAbs ≤ a.natAbs / 2 := Nat.div_le_div_left h2 (by decide)
  unfold Ok
  omega
theorem mul_test {a b : Int} (ha : Ok a) (hb : Ok b) (h0 : b ≠ 0) (h1 : b ≠ -1) :
  wrap64 ((wrap64 (a * b)).tdiv b) = a ↔ Ok (a * b) := by
 rw [wrap_ok (tdiv_Ok (wrap_in _) h0 h1)]
 constructor
 ·
  intro h
  obtain ⟨e, _, _, p1, p2⟩ := tmod_near (wrap64 (a * b)) b h0
  rw [h] at e
  have hw := wrap_in (a * b)
  have hm : (wrap64 (a * b)).tmod b = wrap64 (a * b) - a * b := by
   rw [Int.mul_comm a b]
   rw [Int.mul_comm a b] at e
   omega
  generalize (wrap64 (a * b)).tmod b = r at *
  have e2 : wrap64 (a * b) = (a * b + 9223372036854775808) % 18446744073709551616 - 9223372036854775808 := by rw [wrap64]
  generalize wrap64 (a * b) = W at *
  generalize a * b = p at *
  obtain ⟨b0, b1⟩ := hb
  obtain ⟨w0, w1⟩ := hw
  have : W = p := by
   rcases Int.lt_or_gt_of_ne h0 with hn | hp
   · have := p2 hn; omega
   · have := p1 hp; omega
  rw [← this]
  exact ⟨w0, w1⟩
 ·
  intro h
  rw [wrap_ok h]
  exact Int.mul_tdiv_cancel a h0
end WH
end Go.Proofs.YtbcfdhimngoplaaGreatDoor
namespace Go.Proofs.YtbcfdhimngoplaaGreatDoor
open Go.ChangeShapes Go.WideShapes Go.ChangeAt Go.RowKit
set_option linter.unusedVariables false
set_option maxRecDepth 100000
def two (x : Int) : Value := .tuple #[.int .i64 (WH.val x), .int .i64 (WH.err x)]
set_option maxHeartbeats 400000 in
theorem add_any (a b : Int) (w : World) (ha : WH.Ok a) (hb : WH.Ok b) :
  Calls Tryz.prog 125 #[.int .i64 a, .int .i64 b] w fun e w' => e = .returned (two (a + b)) ∧ w' = w := by
 have ht := WH.add_test ha hb
 obtain ⟨ha0, ha1⟩ := ha
 obtain ⟨hb0, hb1⟩ := hb
 unfold two
 rcases WH.ok_em (a + b) with ho | ho
 ·
  have ht' : ¬ bits .and .i64 (bits .xor .i64 a (wrap64 (a + b))) (bits .xor .i64 b (wrap64 (a + b))) < 0 := fun h => (ht.1 h) ho
  rw [WH.val_ok ho, WH.err_ok ho]
  have hw := WH.wrap_ok ho
  rw [hw] at ht'
  clear ht ho
  go_enter Tryz.func125, Tryz.ntmps125
  go_wp2_with fail
  go_ret2
  exact ⟨by first | rfl | exact ret_two hw rfl, rfl⟩
 ·
  have ht' := ht.2 ho
  rw [WH.val_over ho, WH.err_over ho]
  clear ht ho
  go_enter Tryz.func125, Tryz.ntmps125
  go_wp2_with fail
  go_ret2
  exact ⟨rfl, rfl⟩
set_option maxHeartbeats 400000 in
theorem sub_any (a b : Int) (w : World) (ha : WH.Ok a) (hb : WH.Ok b) :
  Calls Tryz.prog 126 #[.int .i64 a, .int .i64 b] w fun e w' => e = .returned (two (a - b)) ∧ w' = w := by
 have ht := WH.sub_test ha hb
 obtain ⟨ha0, ha1⟩ := ha
 obtain ⟨hb0, hb1⟩ := hb
 unfold two
 rcases WH.ok_em (a - b) with ho | ho
 ·
  have ht' : ¬ bits .and .i64 (bits .xor .i64 a b) (bits .xor .i64 a (wrap64 (a - b))) < 0 := fun h => (ht.1 h) ho
  rw [WH.val_ok ho, WH.err_ok ho]
  have hw := WH.wrap_ok ho
  rw [hw] at ht'
  clear ht ho
  go_enter Tryz.func126, Tryz.ntmps126
  go_wp2_with fail
  go_ret2
  exact ⟨by first | rfl | exact ret_two hw rfl, rfl⟩
 ·
  have ht' := ht.2 ho
  rw [WH.val_over ho, WH.err_over ho]
  clear ht ho
  go_enter Tryz.func126, Tryz.ntmps126
  go_wp2_with fail
  go_ret2
  exact ⟨rfl, rfl⟩
set_option maxHeartbeats 400000 in
theorem neg_any (a : Int) (w : World) (ha : WH.Ok a) :
  Calls Tryz.prog 124 #[.int .i64 a] w fun e w' => e = .returned (two (-a)) ∧ w' = w := by
 obtain ⟨ha0, ha1⟩ := ha
 unfold two
 by_cases h : a = -9223372036854775808
 ·
  have ho : ¬ WH.Ok (-a) := by unfold WH.Ok; omega
  rw [WH.val_over ho, WH.err_over ho]
  clear ho
  subst h
  go_enter Tryz.func124, Tryz.ntmps124
  go_wp2_with fail
  go_ret2
  exact ⟨rfl, rfl⟩
 ·
  have ho : WH.Ok (-a) := by unfold WH.Ok; omega
  rw [WH.val_ok ho, WH.err_ok ho]
  have hw := WH.wrap_ok ho
  clear ho
  go_enter Tryz.func124, Tryz.ntmps124
  go_wp2_with fail
  go_ret2
  exact ⟨by first | rfl | exact ret_two hw rfl, rfl⟩
set_option maxHeartbeats 400000 in
theorem mul_any (a b : Int) (w : World) (ha : WH.Ok a) (hb : WH.Ok b) :
  Calls Tryz.prog 127 #[.int .i64 a, .int .i64 b] w fun e w' => e = .returned (two (a * b)) ∧ w' = w := by
 have hn := fun W => neg_any a W ha
 by_cases h0 : b = 0
 ·
  subst h0
  rw [Int.mul_zero]
  clear hb ha hn
  go_enter Tryz.func127, Tryz.ntmps127
  go_wp2_with fail
  go_ret2
  exact ⟨rfl, rfl⟩
 by_cases h1 : b = -1
 ·
  subst h1
  rw [show a * -1 = -a by omega]
  clear hb ha
  unfold two at *
  generalize WH.val (-a) = p at *
  generalize WH.err (-a) = q at *
  go_enter Tryz.func127, Tryz.ntmps127
  go_wp2_with (go_at_call 124; refine (hn _).mono ?_; rintro e w' ⟨rfl, rfl⟩)
  go_ret2
  exact ⟨rfl, rfl⟩
 ·
  have ht := WH.mul_test ha hb h0 h1
  clear hn
  obtain ⟨ha0, ha1⟩ := ha
  obtain ⟨hb0, hb1⟩ := hb
  unfold two
  rcases WH.ok_em (a * b) with ho | ho
  ·
   have ht' := ht.2 ho
   have hbe : (wrap64 ((wrap64 (a * b)).tdiv b) != a) = false := by rw [ht']; simp
   rw [WH.val_ok ho, WH.err_ok ho]
   have hw := WH.wrap_ok ho
   clear ht ho
   go_enter Tryz.func127, Tryz.ntmps127
   go_wp2_with fail
   go_ret2
   exact ⟨ret_two hw rfl, rfl⟩
  ·
   have ht' : ¬ wrap64 ((wrap64 (a * b)).tdiv b) = a := fun h => ho (ht.1 h)
   have hbe : (wrap64 ((wrap64 (a * b)).tdiv b) != a) = true := by simpa using ht'
   rw [WH.val_over ho, WH.err_over ho]
   clear ht ho
   go_enter Tryz.func127, Tryz.ntmps127
   go_wp2_with fail
   go_ret2
   exact ⟨rfl, rfl⟩
def divTwo (a b : Int) : Value := if b = 0 then .tuple #[.int .i64 0, .int .i64 9] else two (a.tdiv b)
def modTwo (a b : Int) : Value := if b = 0 then .tuple #[.int .i64 0, .int .i64 9] else .tuple #[.int .i64 (a.tmod b), .int .i64 0]
theorem tdiv_minus (a : Int) : a.tdiv (-1) = -a := by rw [Int.tdiv_neg, Int.tdiv_one]
set_option maxHeartbeats 400000 in
theorem div_any (a b : Int) (w : World) (ha : WH.Ok a) (hb : WH.Ok b) :
  Calls Tryz.prog 128 #[.int .i64 a, .int .i64 b] w fun e w' => e = .returned (divTwo a b) ∧ w' = w := by
 have hn := fun W => neg_any a W ha
 by_cases h0 : b = 0
 ·
  subst h0
  clear hb ha hn
  unfold divTwo
  rw [if_pos rfl]
  go_enter Tryz.func128, Tryz.ntmps128
  go_wp2_with fail
  go_ret2
  exact ⟨rfl, rfl⟩
 by_cases h1 : b = -1
 ·
  subst h1
  unfold divTwo
  rw [if_neg h0, tdiv_minus]
  clear hb ha
  unfold two at *
  generalize WH.val (-a) = p at *
  generalize WH.err (-a) = q at *
  go_enter Tryz.func128, Tryz.ntmps128
  go_wp2_with (go_at_call 124; refine (hn _).mono ?_; rintro e w' ⟨rfl, rfl⟩)
  go_ret2
  exact ⟨rfl, rfl⟩
 ·
  have ho := WH.tdiv_Ok ha h0 h1
  unfold divTwo
  rw [if_neg h0]
  unfold two
  rw [WH.val_ok ho, WH.err_ok ho]
  have hw := WH.wrap_ok ho
  clear ho hn
  obtain ⟨ha0, ha1⟩ := ha
  obtain ⟨hb0, hb1⟩ := hb
  go_enter Tryz.func128, Tryz.ntmps128
  go_wp2_with fail
  go_ret2
  exact ⟨ret_two hw rfl, rfl⟩
theorem tmod_Ok {a b : Int} (ha : WH.Ok a) (hb : b ≠ 0) : WH.Ok (a.tmod b) := by
 obtain ⟨_, h1, h2, h3, h4⟩ := WH.tmod_near a b hb
 obtain ⟨a0, a1⟩ := ha
 have h5 : (a.tmod b).natAbs ≤ a.natAbs := by rw [Int.natAbs_tmod]; exact Nat.mod_le _ _
 by_cases h : 0 ≤ a
 · have := h1 h; unfold WH.Ok; omega
 · have := h2 (by omega); unfold WH.Ok; omega
set_option maxHeartbeats 400000 in
theorem mod_any (a b : Int) (w : World) (ha : WH.Ok a) (hb : WH.Ok b) :
  Calls Tryz.prog 129 #[.int .i64 a, .int .i64 b] w fun e w' => e = .returned (modTwo a b) ∧ w' = w := by
 by_cases h0 : b = 0
 ·
  subst h0
  clear hb ha
  unfold modTwo
  rw [if_pos rfl]
  go_enter Tryz.func129, Tryz.ntmps129
  go_wp2_with fail
  go_ret2
  exact ⟨rfl, rfl⟩
 ·
  have ho := tmod_Ok ha h0
  unfold modTwo
  rw [if_neg h0]
  have hw := WH.wrap_ok ho
  clear ho
  obtain ⟨ha0, ha1⟩ := ha
  obtain ⟨hb0, hb1⟩ := hb
  go_enter Tryz.func129, Tryz.ntmps129
  go_wp2_with fail
  go_ret2
  exact ⟨by first | rfl | exact ret_two hw rfl, rfl⟩
end Go.Proofs.YtbcfdhimngoplaaGreatDoor
namespace Go.Proofs.YtbcfdhimngoplaaGreatDoor
namespace LK
abbrev Bs := List UInt8
def inr (l : Bs) (i lo hi : Nat) : Bool := match l[i]? with
 | some b => decide (lo ≤ b.toNat) && decide (b.toNat ≤ hi)
 | none => false
def sec3 (l : Bs) : Bool := inr l 0 224 224 && inr l 1 160 191 || inr l 0 225 236 && inr l 1 128 191 || inr l 0 237 237 && inr l 1 128 159 || inr l 0 238 239 && inr l 1 128 191
def sec4 (l : Bs) : Bool := inr l 0 240 240 && inr l 1 144 191 || inr l 0 241 243 && inr l 1 128 191 || inr l 0 244 244 && inr l 1 128 143
def sz (l : Bs) : Nat :=
 if inr l 0 194 223 && inr l 1 128 191 then 2
 else if sec3 l && inr l 2 128 191 then 3
 else if sec4 l && inr l 2 128 191 && inr l 3 128 191 then 4 else 1
theorem inr_lt {l : Bs} {i lo hi : Nat} (h : inr l i lo hi = true) : i < l.length := by
 unfold inr at h
 rcases hq : l[i]? with _ | b
 · rw [hq] at h; simp at h
 · exact (List.getElem?_eq_some_iff.1 hq).1
theorem sz_pos (l : Bs) : 1 ≤ sz l := by
 unfold sz
 repeat' split
 all_goals omega
theorem sz_four (l : Bs) : sz l ≤ 4 := by
 unfold sz
 repeat' split
 all_goals omega
theorem sz_len {l : Bs} (h : l ≠ []) : sz l ≤ l.length := by
 have h0 : 1 ≤ l.length := List.length_pos_iff.2 h
 unfold sz
 repeat' split
 · rename_i h1; simp only [Bool.and_eq_true] at h1; have := inr_lt h1.2; omega
 · rename_i h1; simp only [Bool.and_eq_true] at h1; have := inr_lt h1.2; omega
 · rename_i h1; simp only [Bool.and_eq_true] at h1; have := inr_lt h1.2; omega
 · exact h0
def pcF : Nat → Bs → List Bs
 | 0, _ => []
 | _ + 1, [] => []
 | f + 1, b :: l => (b :: l).take (sz (b :: l)) :: pcF f ((b :: l).drop (sz (b :: l)))
def pc (l : Bs) : List Bs := pcF l.length l
theorem pcF_eq : ∀ (f g : Nat) (l : Bs), l.length ≤ f → l.length ≤ g → pcF f l = pcF g l
 | 0, 0, _, _, _ => rfl
 | 0, g + 1, [], _, _ => rfl
 | f + 1, 0, [], _, _ => rfl
 | f + 1, g + 1, [], _, _ => rfl
 | 0, g + 1, b :: l, h, _ => by simp at h
 | f + 1, 0, b :: l, _, h => by simp at h
 | f + 1, g + 1, b :: l, hf, hg => by
  have h1 := sz_pos (b :: l)
  simp only [List.length_cons] at hf hg
  unfold pcF
  rw [pcF_eq f g _ (by rw [List.length_drop]; simp only [List.length_cons]; omega) (by rw [List.length_drop]; simp only [List.length_cons]; omega)]
theorem pc_nil : pc [] = [] := rfl
theorem pc_cons {l : Bs} (h : l ≠ []) : pc l = l.take (sz l) :: pc (l.drop (sz l)) := by
 cases l with
 | nil => exact absurd rfl h
 | cons b l =>
  have h1 := sz_pos (b :: l)
  show pcF (l.length + 1) (b :: l) = _
  unfold pcF
  rw [pcF_eq l.length ((b :: l).drop (sz (b :: l))).length _ (by rw [List.length_drop]; simp only [List.length_cons]; omega) (Nat.le_refl _)]
  rfl
theorem pc_ind {Q : Bs → Prop} (h0 : Q []) (h1 : ∀ l, l ≠ [] → Q (l.drop (sz l)) → Q l) (l : Bs) : Q l := by
 obtain ⟨n, hn⟩ : ∃ n, l.length ≤ n := ⟨_, Nat.le_refl _⟩
 induction n generalizing l with
 | zero =>
  have e : l = [] := List.eq_nil_of_length_eq_zero (by omega)
  rw [e]; exact h0
 | succ n ih =>
  by_cases hl : l = []
  · rw [hl]; exact h0
  ·
   refine h1 l hl (ih _ ?_)
   have := sz_pos l
   have := List.length_pos_iff.2 hl
   rw [List.length_drop]; omega
theorem pc_len (l : Bs) : (pc l).length ≤ l.length := by
 refine pc_ind (Q := fun l => (pc l).length ≤ l.length) (by simp [pc_nil]) (fun l hl ih => ?_) l
 rw [pc_cons hl, List.length_cons]
 rw [List.length_drop] at ih
 have := sz_pos l
 have := List.length_pos_iff.2 hl
 omega
abbrev Part := Int × Bs
def kd (x : Bs) : Int := match x with
 | [] => 97
 | b :: _ => if b.toNat = 37 then 37 else if b.toNat = 95 then 95 else if b.toNat = 92 then 92 else 97
def kdE (e : Bool) (x : Bs) : Int := if e then 97 else kd x
def step (st : Bool × List Part) (x : Bs) : Bool × List Part := if kdE st.1 x = 92 then (true, st.2) else (false, st.2 ++ [(kdE st.1 x, x)])
def run (l : List Bs) : Bool × List Part := l.foldl step (false, [])
theorem run_snoc (l : List Bs) (x : Bs) : run (l ++ [x]) = step (run l) x := by simp [run]
theorem run_len (l : List Bs) : (run l).2.length ≤ l.length := by
 have : ∀ (l : List Bs) (st : Bool × List Part), (l.foldl step st).2.length ≤ st.2.length + l.length := by
  intro l
  induction l with
  | nil => intro st; simp
  | cons x l ih =>
   intro st
   have h1 := ih (step st x)
   have h2 : (step st x).2.length ≤ st.2.length + 1 := by unfold step; split <;> simp
   simp only [List.foldl_cons, List.length_cons]
   omega
 simpa [run] using this l (false, [])
def one (p : Part) (x : Bs) : Bool := p.1 == 95 || p.2 == x
def anyTail (f : List Bs → Bool) : List Bs → Bool
 | [] => f []
 | x :: t => f (x :: t) || anyTail f t
def mt : List Part → List Bs → Bool
 | [], t => t.isEmpty
 | p :: ps, t => if p.1 = 37 then anyTail (mt ps) t else match t with
  | [] => false
  | x :: t => one p x && mt ps t
theorem anyTail_iff (f : List Bs → Bool) : ∀ t, anyTail f t = true ↔ ∃ i, i ≤ t.length ∧ f (t.drop i) = true
 | [] => by simp [anyTail]
 | x :: t => by
  simp only [anyTail, Bool.or_eq_true, anyTail_iff f t]
  constructor
  ·
   rintro (h | ⟨i, hi, h⟩)
   · exact ⟨0, by simp, by simpa using h⟩
   · exact ⟨i + 1, by simpa using hi, by simpa using h⟩
  ·
   rintro ⟨i, hi, h⟩
   cases i with
   | zero => exact .inl (by simpa using h)
   | succ i => exact .inr ⟨i, by simpa using hi, by simpa using h⟩
theorem mt_star {p : Part} (h : p.1 = 37) (ps : List Part) (t : List Bs) : mt (p :: ps) t = anyTail (mt ps) t := by simp [mt, h]
theorem mt_one {p : Part} (h : p.1 ≠ 37) (ps : List Part) (x : Bs) (t : List Bs) : mt (p :: ps) (x :: t) = (one p x && mt ps t) := by simp [mt, h]
theorem mt_one_nil {p : Part} (h : p.1 ≠ 37) (ps : List Part) : mt (p :: ps) [] = false := by simp [mt, h]
theorem mt_nil : ∀ ps : List Part, mt ps [] = ps.all fun p => p.1 == 37
 | [] => rfl
 | p :: ps => by
  by_cases h : p.1 = 37
  · rw [mt_star h]; simp [anyTail, mt_nil ps, h]
  · rw [mt_one_nil h]; simp [h]
theorem mt_seg : ∀ (seg ps : List Part) (t : List Bs), (∀ q ∈ seg, q.1 ≠ 37) → mt (seg ++ ps) t = true → seg.length ≤ t.length ∧ mt ps (t.drop seg.length) = true
 | [], ps, t, _, h => by simpa using h
 | q :: seg, ps, t, hs, h => by
  have hq : q.1 ≠ 37 := hs q (by simp)
  cases t with
  | nil => rw [List.cons_append, mt_one_nil hq] at h; cases h
  | cons x t =>
   rw [List.cons_append, mt_one hq, Bool.and_eq_true] at h
   have := mt_seg seg ps t (fun r hr => hs r (by simp [hr])) h.2
   simpa using this
def Inv (P : List Part) (T : List Bs) (R : Bool) (p a : Nat) (last : Int) (u : Nat) : Prop :=
 p ≤ P.length ∧ a ≤ T.length ∧ u ≤ a ∧
 ((last = -1 ∧ R = mt (P.drop p) (T.drop a)) ∨
  (∃ k : Nat, last = k ∧ k < p ∧ p - (k + 1) = a - u ∧ (∀ i q, k + 1 ≤ i → i < p → P[i]? = some q → q.1 ≠ 37) ∧
   R = (mt (P.drop p) (T.drop a) || anyTail (mt (P.drop (k + 1))) (T.drop (u + 1)))))
theorem inv_start (P : List Part) (T : List Bs) : Inv P T (mt P T) 0 0 (-1) 0 := ⟨Nat.zero_le _, Nat.zero_le _, Nat.le_refl _, .inl ⟨rfl, by simp⟩⟩
theorem drop_at {α : Type} {l : List α} {i : Nat} {x : α} (h : l[i]? = some x) : l.drop i = x :: l.drop (i + 1) := by
 obtain ⟨hl, rfl⟩ := List.getElem?_eq_some_iff.1 h
 exact List.drop_eq_getElem_cons hl
theorem lt_of_at {α : Type} {l : List α} {i : Nat} {x : α} (h : l[i]? = some x) : i < l.length := (List.getElem?_eq_some_iff.1 h).1
theorem seg_star {P : List Part} {T : List Bs} {k p a u : Nat} {q : Part} (hp : P[p]? = some q) (hq : q.1 = 37) (hk : k < p) (hd : p - (k + 1) = a - u) (hu : u ≤ a) (ha : a < T.length)
  (hs : ∀ i q, k + 1 ≤ i → i < p → P[i]? = some q → q.1 ≠ 37) (h : anyTail (mt (P.drop (k + 1))) (T.drop (u + 1)) = true) : mt (P.drop p) (T.drop a) = true := by
 obtain ⟨j, hj, hm⟩ := (anyTail_iff _ _).1 h
 have hpl := lt_of_at hp
 have e : P.drop (k + 1) = (P.drop (k + 1)).take (p - (k + 1)) ++ P.drop p := by
  conv => lhs; rw [← List.take_append_drop (p - (k + 1)) (P.drop (k + 1))]
  rw [List.drop_drop, show k + 1 + (p - (k + 1)) = p by omega]
 rw [e] at hm
 have hl : ((P.drop (k + 1)).take (p - (k + 1))).length = p - (k + 1) := by rw [List.length_take, List.length_drop]; omega
 obtain ⟨h1, h2⟩ := mt_seg _ _ _ (by
  intro r hr
  obtain ⟨i, hi⟩ := List.mem_iff_getElem?.1 hr
  rw [List.getElem?_take] at hi
  split at hi
  ·
   rw [List.getElem?_drop] at hi
   exact hs (k + 1 + i) r (by omega) (by omega) hi
  · cases hi) hm
 rw [hl] at h1 h2
 rw [drop_at hp, mt_star hq] at h2 ⊢
 obtain ⟨i, hi, hm2⟩ := (anyTail_iff _ _).1 h2
 rw [List.drop_drop] at hm2
 rw [List.drop_drop, List.drop_drop] at hm2
 have hlen : (List.drop (u + 1) T).length = T.length - (u + 1) := List.length_drop
 rw [List.length_drop, List.length_drop] at hi
 rw [List.length_drop] at h1
 rw [hlen] at hj hi h1
 refine (anyTail_iff _ _).2 ⟨u + 1 + j + (p - (k + 1)) + i - a, ?_, ?_⟩
 · rw [List.length_drop]; omega
 ·
  rw [List.drop_drop]
  rw [show a + (u + 1 + j + (p - (k + 1)) + i - a) = u + 1 + (j + (p - (k + 1) + i)) by omega]
  exact hm2
theorem inv_star {P : List Part} {T : List Bs} {R : Bool} {p a u : Nat} {last : Int} {q : Part} (h : Inv P T R p a last u) (ha : a < T.length) (hp : P[p]? = some q) (hq : q.1 = 37) : Inv P T R (p + 1) a p a := by
 obtain ⟨h1, h2, h3, h4⟩ := h
 have hpl := lt_of_at hp
 obtain ⟨x, hx⟩ : ∃ x, T[a]? = some x := ⟨T[a], List.getElem?_eq_getElem ha⟩
 have key : mt (P.drop p) (T.drop a) = (mt (P.drop (p + 1)) (T.drop a) || anyTail (mt (P.drop (p + 1))) (T.drop (a + 1))) := by
  rw [drop_at hp, mt_star hq, drop_at hx]; rfl
 refine ⟨by omega, h2, Nat.le_refl _, .inr ⟨p, rfl, by omega, by omega, fun i r hi hi' _ => by omega, ?_⟩⟩
 rcases h4 with ⟨_, e⟩ | ⟨k, _, hk, hd, hs, e⟩
 · rw [e, key]
 ·
  rw [e, ← key]
  cases hm : anyTail (mt (P.drop (k + 1))) (T.drop (u + 1)) with
  | false => simp
  | true => rw [seg_star hp hq hk hd h3 ha hs hm]; rfl
theorem inv_one {P : List Part} {T : List Bs} {R : Bool} {p a u : Nat} {last : Int} {q : Part} {x : Bs} (h : Inv P T R p a last u) (hx : T[a]? = some x) (hp : P[p]? = some q) (hq : q.1 ≠ 37) (ho : one q x = true) : Inv P T R (p + 1) (a + 1) last u := by
 obtain ⟨h1, h2, h3, h4⟩ := h
 have hpl := lt_of_at hp
 have hal := lt_of_at hx
 have key : mt (P.drop p) (T.drop a) = mt (P.drop (p + 1)) (T.drop (a + 1)) := by
  rw [drop_at hp, drop_at hx, mt_one hq, ho]; rfl
 refine ⟨by omega, by omega, by omega, ?_⟩
 rcases h4 with ⟨e1, e⟩ | ⟨k, ek, hk, hd, hs, e⟩
 · exact .inl ⟨e1, by rw [e, key]⟩
 ·
  refine .inr ⟨k, ek, by omega, by omega, fun i r hi hi' hr => ?_, by rw [e, key]⟩
  by_cases hip : i = p
  · subst hip; rw [hp] at hr; cases hr; exact hq
  · exact hs i r hi (by omega) hr
theorem miss {P : List Part} {T : List Bs} {p a : Nat} {x : Bs} (hx : T[a]? = some x) (hm : P.length ≤ p ∨ ∃ q, P[p]? = some q ∧ q.1 ≠ 37 ∧ one q x = false) : mt (P.drop p) (T.drop a) = false := by
 rcases hm with h | ⟨q, hp, hq, ho⟩
 · rw [List.drop_eq_nil_of_le h, drop_at hx]; rfl
 · rw [drop_at hp, drop_at hx, mt_one hq, ho]; rfl
theorem inv_none {P : List Part} {T : List Bs} {R : Bool} {p a u : Nat} {x : Bs} (h : Inv P T R p a (-1) u) (hx : T[a]? = some x) (hm : P.length ≤ p ∨ ∃ q, P[p]? = some q ∧ q.1 ≠ 37 ∧ one q x = false) : R = false := by
 obtain ⟨h1, h2, h3, h4⟩ := h
 rcases h4 with ⟨_, e⟩ | ⟨k, ek, _⟩
 · rw [e, miss hx hm]
 · omega
theorem inv_back {P : List Part} {T : List Bs} {R : Bool} {p a u k : Nat} {x : Bs} (h : Inv P T R p a k u) (hx : T[a]? = some x) (hm : P.length ≤ p ∨ ∃ q, P[p]? = some q ∧ q.1 ≠ 37 ∧ one q x = false) : Inv P T R (k + 1) (u + 1) k (u + 1) := by
 obtain ⟨h1, h2, h3, h4⟩ := h
 have hal := lt_of_at hx
 rcases h4 with ⟨e1, e⟩ | ⟨k', ek, hk, hd, hs, e⟩
 · omega
 ·
  obtain rfl : k = k' := by omega
  refine ⟨by omega, by omega, Nat.le_refl _, .inr ⟨k, rfl, by omega, by omega, fun i r hi hi' _ => by omega, ?_⟩⟩
  rw [e, miss hx hm, Bool.false_or]
  by_cases hu : u + 1 < T.length
  ·
   obtain ⟨y, hy⟩ : ∃ y, T[u + 1]? = some y := ⟨T[u + 1], List.getElem?_eq_getElem hu⟩
   rw [drop_at hy]; rfl
  ·
   rw [List.drop_eq_nil_of_le (show T.length ≤ u + 1 by omega), List.drop_eq_nil_of_le (show T.length ≤ u + 1 + 1 by omega)]
   simp [anyTail]
theorem inv_end {P : List Part} {T : List Bs} {R : Bool} {p u : Nat} {last : Int} (h : Inv P T R p T.length last u) : R = (P.drop p).all fun q => q.1 == 37 := by
 obtain ⟨h1, h2, h3, h4⟩ := h
 rcases h4 with ⟨_, e⟩ | ⟨k, ek, hk, hd, hs, e⟩
 · rw [e, List.drop_length, mt_nil]
 ·
  rw [e, List.drop_length, mt_nil]
  cases hm : anyTail (mt (P.drop (k + 1))) (T.drop (u + 1)) with
  | false => simp
  | true =>
   rw [Bool.or_true]
   obtain ⟨j, hj, hm2⟩ := (anyTail_iff _ _).1 hm
   rw [List.length_drop] at hj
   have e' : P.drop (k + 1) = (P.drop (k + 1)).take (p - (k + 1)) ++ P.drop p := by
    conv => lhs; rw [← List.take_append_drop (p - (k + 1)) (P.drop (k + 1))]
    rw [List.drop_drop, show k + 1 + (p - (k + 1)) = p by omega]
   have hl : ((P.drop (k + 1)).take (p - (k + 1))).length = p - (k + 1) := by rw [List.length_take, List.length_drop]; omega
   rw [e'] at hm2
   obtain ⟨g1, g2⟩ := mt_seg _ _ _ (by
    intro r hr
    obtain ⟨i, hi⟩ := List.mem_iff_getElem?.1 hr
    rw [List.getElem?_take] at hi
    split at hi
    ·
     rw [List.getElem?_drop] at hi
     exact hs (k + 1 + i) r (by omega) (by omega) hi
    · cases hi) hm2
   rw [hl] at g1 g2
   rw [List.drop_drop, List.length_drop] at g1
   rw [List.drop_drop, List.drop_drop, List.drop_eq_nil_of_le (show T.length ≤ u + 1 + (j + (p - (k + 1))) by omega), mt_nil] at g2
   exact g2.symm
end LK
end Go.Proofs.YtbcfdhimngoplaaGreatDoor
namespace Go.Proofs.YtbcfdhimngoplaaGreatDoor
open Go.ChangeShapes Go.WideShapes Go.ChangeAt Go.RowKit
set_option linter.unusedVariables false
theorem get_at (S : ByteArray) (i : Nat) : (S.get! i).toNat = (S.data.toList[i]?.map UInt8.toNat).getD 0 := by
 cases S with
 | mk d =>
  show (d[i]!).toNat = (d.toList[i]?.map UInt8.toNat).getD 0
  by_cases h : i < d.size
  · rw [getElem!_pos d i h, Array.getElem?_toList, Array.getElem?_eq_getElem h]; rfl
  · rw [getElem!_neg d i h, List.getElem?_eq_none (by rw [Array.length_toList]; omega)]; rfl
theorem inr_eq (l : LK.Bs) (i lo hi : Nat) (h0 : 0 < lo) : LK.inr l i lo hi = decide (lo ≤ (l[i]?.map UInt8.toNat).getD 0 ∧ (l[i]?.map UInt8.toNat).getD 0 ≤ hi) := by
 unfold LK.inr
 rcases hq : l[i]? with _ | b
 ·
  simp
  omega
 · simp
def szN (b0 b1 b2 b3 : Nat) : Nat :=
 if (194 ≤ b0 ∧ b0 ≤ 223) ∧ (128 ≤ b1 ∧ b1 ≤ 191) then 2
 else if (((224 ≤ b0 ∧ b0 ≤ 224) ∧ (160 ≤ b1 ∧ b1 ≤ 191)) ∨ ((225 ≤ b0 ∧ b0 ≤ 236) ∧ (128 ≤ b1 ∧ b1 ≤ 191)) ∨ ((237 ≤ b0 ∧ b0 ≤ 237) ∧ (128 ≤ b1 ∧ b1 ≤ 159)) ∨ ((238 ≤ b0 ∧ b0 ≤ 239) ∧ (128 ≤ b1 ∧ b1 ≤ 191))) ∧ (128 ≤ b2 ∧ b2 ≤ 191) then 3
 else if (((240 ≤ b0 ∧ b0 ≤ 240) ∧ (144 ≤ b1 ∧ b1 ≤ 191)) ∨ ((241 ≤ b0 ∧ b0 ≤ 243) ∧ (128 ≤ b1 ∧ b1 ≤ 191)) ∨ ((244 ≤ b0 ∧ b0 ≤ 244) ∧ (128 ≤ b1 ∧ b1 ≤ 143))) ∧ (128 ≤ b2 ∧ b2 ≤ 191) ∧ (128 ≤ b3 ∧ b3 ≤ 191) then 4
 else 1
set_option maxHeartbeats 4000000 in
theorem dec_size (n b0 b1 b2 b3 : Nat) (h0 : b0 < 256) (h1 : b1 < 256) (h2 : b2 < 256) (h3 : b3 < 256) (g1 : n ≤ 1 → b1 = 0) (g2 : n ≤ 2 → b2 = 0) (g3 : n ≤ 3 → b3 = 0) :
  (Lib.decodeN n b0 b1 b2 b3).2 = szN b0 b1 b2 b3 := by
 unfold Lib.decodeN szN
 repeat' split
 all_goals first | rfl | (exfalso; omega)
theorem dec_rune (n b0 b1 b2 b3 : Nat) : (Lib.decodeN n b0 b1 b2 b3).1 = b0 ∧ b0 < 128 ∨ 128 ≤ (Lib.decodeN n b0 b1 b2 b3).1 ∧ 128 ≤ b0 := by
 unfold Lib.decodeN
 repeat' split
 all_goals (dsimp only; omega)
theorem sz_eq (l : LK.Bs) : LK.sz l = szN ((l[0]?.map UInt8.toNat).getD 0) ((l[1]?.map UInt8.toNat).getD 0) ((l[2]?.map UInt8.toNat).getD 0) ((l[3]?.map UInt8.toNat).getD 0) := by
 unfold LK.sz LK.sec3 LK.sec4 szN
 rw [inr_eq l 0 194 223 (by decide), inr_eq l 1 128 191 (by decide), inr_eq l 0 224 224 (by decide), inr_eq l 1 160 191 (by decide), inr_eq l 0 225 236 (by decide), inr_eq l 0 237 237 (by decide), inr_eq l 1 128 159 (by decide), inr_eq l 0 238 239 (by decide), inr_eq l 2 128 191 (by decide), inr_eq l 0 240 240 (by decide), inr_eq l 1 144 191 (by decide), inr_eq l 0 241 243 (by decide), inr_eq l 0 244 244 (by decide), inr_eq l 1 128 143 (by decide), inr_eq l 3 128 191 (by decide)]
 generalize (l[0]?.map UInt8.toNat).getD 0 = b0
 generalize (l[1]?.map UInt8.toNat).getD 0 = b1
 generalize (l[2]?.map UInt8.toNat).getD 0 = b2
 generalize (l[3]?.map UInt8.toNat).getD 0 = b3
 simp only [Bool.and_eq_true, Bool.or_eq_true, decide_eq_true_eq, or_assoc, and_assoc]
theorem byte_lt (o : Option UInt8) : (o.map UInt8.toNat).getD 0 < 256 := by
 cases o with
 | none => decide
 | some b => exact b.toNat_lt
theorem byte_end (l : LK.Bs) (i : Nat) (h : l.length ≤ i) : (l[i]?.map UInt8.toNat).getD 0 = 0 := by
 rw [List.getElem?_eq_none h]; rfl
theorem decodeGo_eq (S : ByteArray) (h : S.data.toList ≠ []) : (Lib.decodeGo S).2 = LK.sz S.data.toList := by
 have hn : S.size = S.data.toList.length := by rw [Array.length_toList]; rfl
 have h0 : S.size ≠ 0 := by rw [hn]; exact fun e => h (List.eq_nil_of_length_eq_zero e)
 unfold Lib.decodeGo
 rw [if_neg h0, Lib.decode_at, get_at, get_at, get_at, get_at, sz_eq]
 exact dec_size _ _ _ _ _ (byte_lt _) (byte_lt _) (byte_lt _) (byte_lt _) (fun e => byte_end _ _ (by omega)) (fun e => byte_end _ _ (by omega)) (fun e => byte_end _ _ (by omega))
theorem decodeGo_kind (S : ByteArray) : (if ((Lib.decodeGo S).1 : Int) = 37 ∨ ((Lib.decodeGo S).1 : Int) = 95 ∨ ((Lib.decodeGo S).1 : Int) = 92 then ((Lib.decodeGo S).1 : Int) else 97) = LK.kd S.data.toList := by
 by_cases h0 : S.size = 0
 ·
  have e : S.data.toList = [] := List.eq_nil_of_length_eq_zero (by rw [Array.length_toList]; exact h0)
  unfold Lib.decodeGo
  rw [if_pos h0, e]
  rfl
 ·
  unfold Lib.decodeGo
  rw [if_neg h0, Lib.decode_at, get_at]
  have hl : 0 < S.data.toList.length := by rw [Array.length_toList]; exact Nat.pos_of_ne_zero h0
  rcases hq : S.data.toList with _ | ⟨b, l⟩
  · rw [hq] at hl; simp at hl
  ·
   simp only [List.getElem?_cons_zero, Option.map_some, Option.getD_some]
   have hd := dec_rune (S.size - 0) b.toNat (S.get! (0 + 1)).toNat (S.get! (0 + 2)).toNat (S.get! (0 + 3)).toNat
   generalize (Lib.decodeN (S.size - 0) b.toNat (S.get! (0 + 1)).toNat (S.get! (0 + 2)).toNat (S.get! (0 + 3)).toNat).1 = r at hd
   unfold LK.kd
   simp only []
   repeat' split
   all_goals omega
end Go.Proofs.YtbcfdhimngoplaaGreatDoor
namespace Go.Proofs.YtbcfdhimngoplaaGreatDoor
open Go.ChangeShapes Go.WideShapes Go.ChangeAt Go.RowKit Go.Shelf
set_option linter.unusedVariables false
attribute [local go_sem] Oper.semAt_some
def Tb (w : World) : Prop := Lib.Utf8Tabs 3 4 w
theorem Tb.below {n : Nat} {w w' : World} (h : Tb w) (hn : 5 ≤ n) (hb : Below n w w') : Tb w' :=
 ⟨fun c hc => (hb.cell (p := ⟨3, c, none⟩) (by show 3 < n; omega)).trans (h.1 c hc),
 fun i hi => ⟨(hb.cell (p := ⟨4, 2 * i, none⟩) (by show 4 < n; omega)).trans (h.2 i hi).1, (hb.cell (p := ⟨4, 2 * i + 1, none⟩) (by show 4 < n; omega)).trans (h.2 i hi).2⟩⟩
theorem Tb.size {w : World} (h : Tb w) : 5 ≤ w.heap.size := by
 have := World.block_lt_of_cell? _ _ (h.2 0 (by decide)).1
 exact this
theorem Tb.fr {w w' : World} (h : Tb w) (f : Fr w w') : Tb w' := h.below h.size f
theorem dec_any (s : ByteArray) (w : World) (hT : Tb w) :
  Calls Tryz.prog 159 #[.string s] w fun e w' => e = .returned (.tuple #[.int .i32 (Lib.decodeGo s).1, .int .i64 (Lib.decodeGo s).2]) ∧ Fr w w' := Tryz.utf8_DecodeRuneInString s w hT
theorem ext_list (S : ByteArray) (a k : Nat) (h : a + k ≤ S.size) : S.extract a (a + k) = ⟨((S.data.toList.drop a).take k).toArray⟩ := by
 rw [Lib.extract_eq]
 congr 1
 simp
theorem rest_list (s : ByteArray) (k : Nat) (h : k ≤ s.size) : (s.extract k s.size).data.toList = s.data.toList.drop k := by
 have : (s.extract k s.size).data.toList = (s.data.toList.drop k).take (s.size - k) := by simp
 rw [this, List.take_of_length_le]
 rw [List.length_drop, Array.length_toList]
 exact Nat.le_refl _
def Kp (n₀ Bn : Nat) (A B : World) : Prop := Below n₀ A B ∧ B.heap[Bn]? = A.heap[Bn]?
theorem kp_t {n₀ Bn : Nat} {A B C : World} (h : Kp n₀ Bn A B) (k : Kp n₀ Bn B C) : Kp n₀ Bn A C := ⟨h.1.trans k.1, k.2.trans h.2⟩
theorem kp_b {n₀ Bn : Nat} {w : World} (hn : n₀ ≤ w.heap.size) (hB : Bn < w.heap.size) (W : World) (l : Nat) (o o' : Obj) (hl : w.heap.size ≤ l) (h1 : W.heap[l]? = some o) (h2 : o.isCells = false) (h3 : o.isWalk = false) : Kp n₀ Bn W (W.putObj l o') :=
 ⟨belowK_b (w := w) hn W l o o' hl h1 h2 h3, World.putObj_heap_other (by omega)⟩
set_option maxRecDepth 100000 in
set_option maxHeartbeats 2000000 in
theorem pieces1_in (n : Nat) (hn : 1 ≤ n) (l Bn n₀ : Nat) (S : ByteArray) (hS : S.size ≤ 9223372036854775807) (J Jx : List LK.Bs → World → Prop)
  (hJ : ∀ pre A B, J pre A → Fr A B → J pre B)
  (hY : ∀ pre (x : LK.Bs) W, J pre W → pre.length < (LK.pc S.data.toList).length → x.length ≤ 4 → YieldAt Fence.wide (n - 1) Tryz.prog l #[.string ⟨x.toArray⟩] W fun e W' =>
   (e = .returned (.bool true) ∧ J (pre ++ [x]) W' ∧ Kp n₀ Bn W W') ∨ (e = .returned (.bool false) ∧ Jx (pre ++ [x]) W'))
  (W : World) (h2 : 5 ≤ n₀) (hnW : n₀ ≤ W.heap.size) (hc : W.cell? ⟨Bn, 0, none⟩ = some (.string S)) (hT : Tb W) (h0 : J [] W) :
  CallsIn Fence.wide n Tryz.prog 158 #[.func (.yield l) #[] #[], .pointer (some ⟨Bn, 0, none⟩)] W fun e W' => (∃ v, e = .returned v) ∧
   ((∃ ys, ys = LK.pc S.data.toList ∧ J ys W') ∨ (∃ pre, pre <+: LK.pc S.data.toList ∧ Jx pre W')) := by
 refine callsIn_of_wp Tryz.func158 rfl trivial ?_ rfl
 simp only [Tryz.ntmps158, List.size_toArray, List.length_cons, List.length_nil, Nat.reduceAdd, Nat.reduceSub, Array.replicate_succ, Array.replicate_zero, List.push_toArray, List.append_toArray, List.nil_append, List.cons_append]
 gi_wp2
 gi_loopw [3] (fun p wr => ∃ (a : Nat) (pre : List LK.Bs), p = .int .i64 a ∧ a ≤ S.size ∧ LK.pc S.data.toList = pre ++ LK.pc (S.data.toList.drop a) ∧ Kp n₀ Bn W wr ∧ J pre wr) (fun p _ => S.size - (intOf p).toNat)
 case atStart => exact ⟨0, [], rfl, Nat.zero_le _, by simp, ⟨Below.refl _ _, rfl⟩, h0⟩
 case round =>
  obtain ⟨a, pre, rfl, ha, hx, hb, hJs⟩ := hrel
  have hcr : wr.cell? ⟨Bn, 0, none⟩ = some (.string S) := (World.cell?_of_block (a := ⟨Bn, 0, none⟩) hb.2).trans hc
  have hBr : Bn < wr.heap.size := World.block_lt_of_cell? _ _ hcr
  have hTr : Tb wr := hT.below h2 hb.1
  have hsl : S.data.toList.length = S.size := by rw [Array.length_toList]; rfl
  by_cases hlt : a < S.size
  ·
   have hltZ : (a : Int) < (S.size : Int) := by omega
   have hne : S.data.toList.drop a ≠ [] := by
    intro e
    have := congrArg List.length e
    rw [List.length_drop] at this
    simp at this
    omega
   have hrl := rest_list S a ha
   have hd2 : (Lib.decodeGo (S.extract a S.size)).2 = LK.sz (S.data.toList.drop a) := by
    rw [← hrl]; exact decodeGo_eq _ (by rw [hrl]; exact hne)
   have hdec := dec_any (S.extract a S.size) wr hTr
   obtain ⟨k, hk⟩ : ∃ k, LK.sz (S.data.toList.drop a) = k := ⟨_, rfl⟩
   obtain ⟨r, hr⟩ : ∃ r, (Lib.decodeGo (S.extract a S.size)).1 = r := ⟨_, rfl⟩
   have k1 : 1 ≤ k := by rw [← hk]; exact LK.sz_pos _
   have k4 : k ≤ 4 := by rw [← hk]; exact LK.sz_four _
   have k2 : a + k ≤ S.size := by
    have := LK.sz_len hne
    rw [hk, List.length_drop] at this
    omega
   rw [hd2, hk, hr] at hdec
   have hext := ext_list S a k k2
   have HX : Hid (LK.pc S.data.toList = pre ++ ((S.data.toList.drop a).take k :: LK.pc (S.data.toList.drop (a + k)))) := by
    unfold Hid
    rw [hx, LK.pc_cons hne, hk, List.drop_drop]
   clear hx hrl hd2 hr
   gi_wp2_with (refine ⟨trivial, ?_⟩; gi_at_call 159; refine (callsIn_wide.2 hdec).mono ?_)
   rintro e w1 ⟨rfl, hf1⟩
   have hc1 : w1.cell? ⟨Bn, 0, none⟩ = some (.string S) := (hf1.cell (p := ⟨Bn, 0, none⟩) hBr).trans hcr
   have hb1 : Kp n₀ Bn W w1 := kp_t hb ⟨Below.mono hf1 (by have := hb.1.size; omega), hf1.block Bn hBr⟩
   have hJ1 : J pre w1 := hJ _ _ _ hJs hf1
   obtain ⟨fn, tmps, assign, body, hy, hR⟩ := hY pre ((S.data.toList.drop a).take k) w1 hJ1 (by rw [HX.out]; simp) (by rw [List.length_take]; omega)
   rw [← hext] at hy
   clear hdec hext
   gi_wp2
   refine hR.mono ?_
   rintro e W3 (⟨rfl, hJ3, hk3⟩ | ⟨rfl, hJx3⟩)
   ·
    gi_wp2
    go_roundw
    case rel => exact ⟨a + k, pre ++ [(S.data.toList.drop a).take k], by simp, k2, by rw [HX.out]; simp, kp_t hb1 hk3, hJ3⟩
    case measure => first | omega | (simp [intOf]; omega)
   ·
    gi_wp2
    refine bodyPost_ret (results_none rfl _ _ _) rfl ?_
    exact ⟨⟨_, rfl⟩, .inr ⟨pre ++ [(S.data.toList.drop a).take k], ⟨LK.pc (S.data.toList.drop (a + k)), by rw [HX.out]; simp⟩, hJx3⟩⟩
  ·
   have hltZ : ¬ ((a : Int) < (S.size : Int)) := by omega
   have HX : Hid (pre = LK.pc S.data.toList) := by
    unfold Hid
    rw [hx, List.drop_eq_nil_of_le (by omega), LK.pc_nil, List.append_nil]
   clear hx
   gi_wp2
   go_end0
   exact ⟨⟨_, rfl⟩, .inl (by rw [← HX.out]; exact hJs)⟩
theorem pieces_any (S : ByteArray) (w : World) :
  Calls Tryz.prog 147 #[.string S] w fun e w' => e = .returned (.func (.func 158) #[] #[.pointer (some ⟨w.heap.size, 0, none⟩)]) ∧ w' = w.alloc (.cells #[.string S] 9) := by
 go_enter Tryz.func147, Tryz.ntmps147
 go_wp2
 go_ret
 exact ⟨rfl, rfl⟩
theorem seq_stops (n : Nat) (hn : 1 ≤ n) (S : ByteArray) (hS : S.size ≤ 9223372036854775807) (Bn n₀ : Nat) (w : World) (h2 : 5 ≤ n₀) (hn₀ : n₀ ≤ w.heap.size) (hc : w.cell? ⟨Bn, 0, none⟩ = some (.string S)) (hT : Tb w) :
  SeqStopsK Fence.wide n Tryz.prog 158 #[.pointer (some ⟨Bn, 0, none⟩)] (fun x : LK.Bs => #[Value.string ⟨x.toArray⟩]) (Kp n₀ Bn) (fun ys => ys = LK.pc S.data.toList) (fun pre => pre <+: LK.pc S.data.toList) (LK.pc S.data.toList).length w :=
 fun l J Jx W hW hJ _ hY h0 =>
  pieces1_in n hn l Bn n₀ S hS J Jx (fun pre A B hs hf => hJ pre A B none hs hf.grown (fun r e => by cases e)) (fun pre x W h1 h2 _ => hY pre x W h1 h2) W h2 (Nat.le_trans hn₀ hW.size) ((hW.cell (p := ⟨Bn, 0, none⟩) (World.block_lt_of_cell? _ _ hc)).trans hc) (hT.below (Nat.le_trans h2 hn₀) hW) h0
abbrev P4 := { x : LK.Bs // x.length ≤ 4 }
set_option maxRecDepth 100000 in
set_option maxHeartbeats 1000000 in
theorem kindOf_any (S : ByteArray) (w : World) (hT : Tb w) :
  Calls Tryz.prog 148 #[.string S] w fun e w' => e = .returned (.int .i32 (LK.kd S.data.toList)) ∧ Fr w w' := by
 have hk := decodeGo_kind S
 have hdec := dec_any S w hT
 generalize hr : ((Lib.decodeGo S).1 : Int) = r at hk hdec
 generalize ((Lib.decodeGo S).2 : Int) = z at hdec
 have HK : Hid _ := hk
 clear hk hr
 go_enter Tryz.func148, Tryz.ntmps148
 go_wp2_with (go_at_call 159; refine hdec.mono ?_)
 rintro _ w1 ⟨rfl, hf⟩
 go_wp2
 ·
  go_ret
  have h : r = 37 := eq_of_beq (by assumption)
  exact ⟨by rw [← HK.out, if_pos (Or.inl h)]; rfl, hf⟩
 ·
  go_ret
  have h : r = 95 := eq_of_beq (by assumption)
  exact ⟨by rw [← HK.out, if_pos (Or.inr (Or.inl h))]; rfl, hf⟩
 ·
  go_ret
  have h : r = 92 := eq_of_beq (by assumption)
  exact ⟨by rw [← HK.out, if_pos (Or.inr (Or.inr h))]; rfl, hf⟩
 ·
  go_ret
  have h1 : r ≠ 37 := ne_of_beq_false (by assumption)
  have h2 : r ≠ 95 := ne_of_beq_false (by assumption)
  have h3 : r ≠ 92 := ne_of_beq_false (by assumption)
  exact ⟨by rw [← HK.out, if_neg (by omega)]; rfl, hf⟩
end Go.Proofs.YtbcfdhimngoplaaGreatDoor
namespace Go.Proofs.YtbcfdhimngoplaaGreatDoor
open Go.ChangeShapes Go.WideShapes Go.ChangeAt Go.RowKit Go.Shelf
set_option linter.unusedVariables false
attribute [local go_sem] Oper.semAt_some
theorem Tryz.infoStr : (Tryz.prog.info? 9).map (fun i => (i.zero, i.size, i.bytes)) = some (some (.string ⟨#[]⟩), 1, 16) := by kernel_rfl
def sv (x : LK.Bs) : Value := .string ⟨x.toArray⟩
def strV (l : List LK.Bs) : List Value := l.map sv
set_option maxRecDepth 100000 in
set_option maxHeartbeats 2000000 in
theorem appendSeq_in (n : Nat) (hn : 3 ≤ n) (S : ByteArray) (hS : S.size ≤ 1073741824) (Bn : Nat) (w : World) (hBn : Bn < w.heap.size) (hc : w.cell? ⟨Bn, 0, none⟩ = some (.string S)) (hT : Tb w) :
  CallsIn Fence.wide n Tryz.prog 160 #[.slice none 0 0, .func (.func 158) #[] #[.pointer (some ⟨Bn, 0, none⟩)]] w fun e W' =>
   ∃ v, e = .returned v ∧ W'.ownsRow w.heap.size 9 1 v (LK.pc S.data.toList).length (strV (LK.pc S.data.toList)) ∧ Fr w W' := by
 have h1 : 1 ≤ n := by omega
 obtain ⟨i0, hi, hz0, hz1, hz2⟩ := info_parts Tryz.infoStr
 refine callsIn_of_wp_marks Tryz.func160 rfl trivial ?_ rfl
 simp only [Tryz.ntmps160, List.size_toArray, List.length_cons, List.length_nil, Nat.reduceAdd, Nat.reduceSub, Array.replicate_succ, Array.replicate_zero, List.push_toArray, List.append_toArray, List.nil_append, List.cons_append]
 gi_wp2
 have bO := Boxed.new w 32 (.slice none 0 0)
 have hB0 : Below w.heap.size w (w.alloc (.cells #[.slice none 0 0] 32)) := (Below.refl _ w).alloc (Nat.le_refl _) _
 have hlen : (LK.pc S.data.toList).length ≤ 1073741824 := by
  have h1 := LK.pc_len S.data.toList
  have h2 : S.data.toList.length = S.size := by rw [Array.length_toList]; rfl
  omega
 refine wpIn_rangeFunc_ownG rfl h1 (gf := 158) (lb := #[.pointer (some ⟨Bn, 0, none⟩)]) rfl trivial (enters_of Tryz.func158 (by kernel_rfl) rfl)
  (seq_stops (n - 1) (by omega) S (by omega) Bn w.heap.size _ hT.size (by simp) (by rw [← hc]; exact hB0.cell (p := ⟨Bn, 0, none⟩) hBn) (hT.fr hB0)) kp_t (kp_b (by simp) (by simp; omega)) (Below.refl _ _) (fun _ => rfl)
  (fun pre W => (∃ v, Boxed W w.heap.size 32 v ∧ W.ownsRow w.heap.size 9 1 v pre.length (strV pre) ∧ True) ∧ Below w.heap.size w W)
  (fun _ _ _ => False)
  (OwnFrom.and (Own.from (holdsRow_own w.heap.size w.heap.size 32 9 1 (fun pre => pre.length) (fun pre => strV pre) (fun pre v => True)) _) (ownFrom_below (Nat.le_refl _) (by simp)))
  (fun _ _ _ _ _ hs _ _ => hs)
  ⟨⟨_, bO, World.ownsRow_nil _ _ _ _, trivial⟩, hB0⟩
  (fun x => { tmps := #[.slice none 0 0, .func (.func 158) #[] #[.pointer (some ⟨Bn, 0, none⟩)], .pointer (some ⟨w.heap.size, 0, none⟩), undef, .slice none 0 0, .string ⟨x.toArray⟩, .func (.func 158) #[] #[.pointer (some ⟨Bn, 0, none⟩)], .string ⟨x.toArray⟩, undef, undef, undef, undef, undef], defers := [] }) ?assign ?body ?done ?stop
 case assign =>
  intro l x W K hK
  gi_wp2
  exact hK
 case body =>
  rintro l pre x W ⟨⟨v, hv, hrow, _⟩, hB⟩ hlt
  have hc := hv.cell
  gi_wp2_with (gi_at_builtin; refine wpListIn_append_own _ rfl _ _ 32 rfl w.heap.size 9 i0 (.string ⟨#[]⟩) 1 16 Tryz.underlying32 hi hz0 hz1 hz2 rfl (by decide) _ _ _ rfl (hrow.alloc _) ⟨W.heap.size, 0, none⟩ 1 1 [.string ⟨x.toArray⟩] rfl rfl (cell_one_new _ _ _) (by simp [Value.oneCell']) (by unfold maxLen; omega) (by omega) (by have := hB.size; simp; omega) ?_; intro v' w1 hown' hgrow _; obtain ⟨g', cap', rfl⟩ := ownsRow_succ hown'; obtain ⟨hv1, hv2, hr2, hk2, hb2⟩ := hv.appended (by decide) hrow hB.size (Nat.le_refl _) hown' hgrow; have hc1 := hv1.cell; have hf1 := hv1.frozen)
  exact ⟨hk2.from _, ⟨hb2, hb2.block Bn hBn⟩, ⟨_, hv2, by simpa [strV, sv] using hr2, trivial⟩, hB.trans hb2⟩
 case done =>
  rintro D ys W hD rfl ⟨⟨v, hv, hrow, _⟩, hB⟩ hK
  have hc := hv.cell
  gi_wp2
  refine ⟨by simp, .inl ⟨_, _, rfl, run_takeDeferred hK, ?_⟩⟩
  exact ⟨_, results_tmp rfl _ _ _, v, rfl, ownsRow_putObj hrow _ hK rfl, hB.trans (belowK_b (w := w) (Nat.le_refl _) W D _ _ (by simp at hD; omega) hK rfl rfl)⟩
 case stop =>
  rintro D c pre W _ _ h _
  exact h.elim
set_option maxRecDepth 100000 in
set_option maxHeartbeats 1000000 in
theorem collect_any (S : ByteArray) (hS : S.size ≤ 1073741824) (Bn : Nat) (w : World) (hBn : Bn < w.heap.size) (hc : w.cell? ⟨Bn, 0, none⟩ = some (.string S)) (hT : Tb w) :
  Calls Tryz.prog 149 #[.func (.func 158) #[] #[.pointer (some ⟨Bn, 0, none⟩)]] w fun e W' =>
   ∃ v, e = .returned v ∧ W'.ownsRow w.heap.size 9 1 v (LK.pc S.data.toList).length (strV (LK.pc S.data.toList)) ∧ Fr w W' := by
 have hA := callsIn_wide.1 (appendSeq_in 3 (Nat.le_refl _) S hS Bn w hBn hc hT)
 clear hc
 go_enter Tryz.func149, Tryz.ntmps149
 go_wp2_with (go_at_call 160; refine hA.mono ?_)
 rintro _ w1 ⟨v, rfl, hr, hf⟩
 go_wp2
 go_ret
 exact ⟨v, rfl, hr, hf⟩
def IsTx (w : World) (v : Value) (l : List LK.Bs) : Prop :=
 ∃ (a : Option Addr) (cap : Nat), v = .slice a l.length cap ∧ l.length ≤ cap ∧ (l = [] ∨ ∃ b, a = some ⟨b, 0, none⟩ ∧ b < w.heap.size ∧ ∀ i x, l[i]? = some x → w.cell? ⟨b, i, none⟩ = some (sv x))
theorem IsTx.fr {w w' : World} {v : Value} {l : List LK.Bs} (h : IsTx w v l) (f : Fr w w') : IsTx w' v l := by
 obtain ⟨a, cap, rfl, hc, h0 | ⟨b, rfl, hb, hcl⟩⟩ := h
 · exact ⟨a, cap, rfl, hc, Or.inl h0⟩
 · exact ⟨_, cap, rfl, hc, Or.inr ⟨b, rfl, Nat.lt_of_lt_of_le hb f.size, fun i x hi => (Below.cell f (p := ⟨b, i, none⟩) hb).trans (hcl i x hi)⟩⟩
theorem tx_of_own {w : World} {base : Nat} {v : Value} {l : List LK.Bs} (h : w.ownsRow base 9 1 v l.length (strV l)) : IsTx w v l := by
 have hl := h.1
 rcases h.2 with ⟨rfl, h0⟩ | ⟨g, cap, cur, rfl, hb, hg, h2⟩
 ·
  have : l = [] := List.eq_nil_of_length_eq_zero h0
  subst this
  exact ⟨none, 0, rfl, Nat.le_refl _, Or.inl rfl⟩
 ·
  obtain ⟨h3, h4, h5, h6⟩ := h2
  refine ⟨_, cap, rfl, h3, Or.inr ⟨g, rfl, (Array.getElem?_eq_some_iff.1 hg).1, fun i x hi => ?_⟩⟩
  have hil := (List.getElem?_eq_some_iff.1 hi).1
  have : (strV l)[i]? = some (sv x) := by unfold strV; rw [List.getElem?_map, hi]; rfl
  rw [← h6, List.getElem?_take, if_pos (by omega), Array.getElem?_toList] at this
  simp [World.cell?, hg, this]
set_option maxRecDepth 100000 in
set_option maxHeartbeats 1000000 in
theorem likePieces_any (S : ByteArray) (w : World) (hb : S.size ≤ 9223372036854775807) (hT : Tb w) :
  Calls Tryz.prog 143 #[.string S] w fun e W' => ∃ v l, e = .returned (.tuple #[v, .int .i64 (if 16 < S.size then 2 else 0)]) ∧ l = (if 16 < S.size then [] else LK.pc S.data.toList) ∧ IsTx W' v l ∧ Fr w W' := by
 by_cases h16 : 16 < S.size
 ·
  have hz : (16 : Int) < (S.size : Int) := by omega
  rw [if_pos h16, if_pos h16]
  go_enter Tryz.func143, Tryz.ntmps143
  go_wp2
  go_ret2
  exact ⟨_, [], rfl, rfl, ⟨none, 0, rfl, Nat.le_refl _, Or.inl rfl⟩, Fr.refl _⟩
 ·
  have hz : ¬ (16 : Int) < (S.size : Int) := by omega
  rw [if_neg h16, if_neg h16]
  have hp := pieces_any S w
  have f1 : Fr w (w.alloc (.cells #[.string S] 9)) := (Fr.refl w).alloc _
  have hcl := collect_any S (by omega) w.heap.size (w.alloc (.cells #[.string S] 9)) (by simp) (by simp) (hT.fr f1)
  go_enter Tryz.func143, Tryz.ntmps143
  go_wp2_with (go_at_call 147; refine hp.mono ?_; rintro _ _ ⟨rfl, rfl⟩)
  refine hcl.mono ?_
  rintro _ w2 ⟨v, rfl, hr, hf⟩
  go_wp2
  go_ret2
  exact ⟨v, _, rfl, rfl, tx_of_own hr, f1.trans hf⟩
end Go.Proofs.YtbcfdhimngoplaaGreatDoor
namespace Go.Proofs.YtbcfdhimngoplaaGreatDoor
open Go.ChangeShapes Go.WideShapes Go.ChangeAt Go.RowKit Go.Shelf
set_option linter.unusedVariables false
attribute [local go_sem] Oper.semAt_some
theorem Tryz.infoPart : (Tryz.prog.info? 183).map (fun i => (i.zero, i.size, i.bytes)) = some (some (.agg #[.int .i32 0, .string ⟨#[]⟩]), 2, 24) := by kernel_rfl
def prtV (l : List LK.Part) : List Value := l.flatMap fun p => [.int .i32 p.1, sv p.2]
theorem prtV_snoc (l : List LK.Part) (p : LK.Part) : prtV (l ++ [p]) = prtV l ++ [.int .i32 p.1, .string ⟨p.2.toArray⟩] := by simp [prtV, sv]
theorem cell_two_new (w : World) (x y : Value) (t : TypeId) : ∀ j u, [x, y][j]? = some u → (w.alloc (.cells #[x, y] t)).cell? ((⟨w.heap.size, 0, none⟩ : Addr).add j) = some u := by
 intro j u hj
 match j, hj with
 | 0, hj => simp at hj; subst hj; simp [Addr.add]
 | 1, hj => simp at hj; subst hj; simp [Addr.add]
theorem cell_two_set (w : World) (a : Addr) (z x y : Value) (t : TypeId) : ∀ j u, [x, y][j]? = some u → ((w.setCell a z).alloc (.cells #[x, y] t)).cell? ((⟨w.heap.size, 0, none⟩ : Addr).add j) = some u := by
 have h := cell_two_new (w.setCell a z) x y t
 have e : (w.setCell a z).heap.size = w.heap.size := by simp
 rw [e] at h
 exact h
theorem Boxed.fr {W W' : World} {B : Nat} {t : TypeId} {v : Value} (h : Boxed W B t v) (f : Fr W W') : Boxed W' B t v := h.kept f.grown (by simp)
theorem keeps_fr {B : Nat} {W W' : World} (f : Fr W W') : KeepsFrom B W W' := ⟨f.size, fun k o _ hk _ => (f.block k (Array.getElem?_eq_some_iff.1 hk).1).trans hk⟩
theorem owns_fr {W W' : World} {base : Nat} {e : TypeId} {size : Nat} {v : Value} {n : Nat} {xs : List Value} (h : W.ownsRow base e size v n xs) (f : Fr W W') : W'.ownsRow base e size v n xs := h.kept f.grown (by cases hq : v.ownBlock <;> simp)
theorem store_flag {w W W1 : World} {B N n : Nat} {S : ByteArray} {v u0 u : Value} {xs : List Value} (hf : Fr W W1) (hv : Boxed W B 170 v) (he : Boxed W (B + 1) 4 u0) (hs : Boxed W (B + 1 + 1) 9 (.string S))
  (hrow : W.ownsRow B 183 2 v n xs) (hB : Below B w W) :
  KeepsFrom N W (W1.setCell ⟨B + 1, 0, none⟩ u) ∧ Kp B (B + 1 + 1) W (W1.setCell ⟨B + 1, 0, none⟩ u) ∧ Boxed (W1.setCell ⟨B + 1, 0, none⟩ u) B 170 v ∧ Boxed (W1.setCell ⟨B + 1, 0, none⟩ u) (B + 1) 4 u ∧
   Boxed (W1.setCell ⟨B + 1, 0, none⟩ u) (B + 1 + 1) 9 (.string S) ∧ (W1.setCell ⟨B + 1, 0, none⟩ u).ownsRow B 183 2 v n xs ∧ Below B w (W1.setCell ⟨B + 1, 0, none⟩ u) := by
 have hv1 := Boxed.fr hv hf
 have he1 := Boxed.fr he hf
 have hs1 := Boxed.fr hs hf
 have hr1 := owns_fr hrow hf
 have hb1 : Below B W (W1.setCell ⟨B + 1, 0, none⟩ u) := (Below.mono hf (by have := hv.lt; omega)).setCell (p := ⟨B + 1, 0, none⟩) (by show B ≤ B + 1; omega) u
 have hs2 := hs1.other (B' := B + 1) (by omega) u
 exact ⟨(keeps_fr hf).trans ((KeepsOthers.setCell _ _ _).from _), ⟨hb1, hs2.trans hs.symm⟩, hv1.other (by omega) u, he1.set u, hs2, ownsRow_setCell_other hr1 (a := ⟨B + 1, 0, none⟩) (fun e => he1.not_row (by decide) hr1 e.symm) u, hB.trans hb1⟩
theorem append_flag {w W w1 : World} {B N n m : Nat} {S : ByteArray} {v v' u : Value} {xs ys : List Value} {tmp : Obj} (hv : Boxed W B 170 v) (he : Boxed W (B + 1) 4 u) (hs : Boxed W (B + 1 + 1) 9 (.string S))
  (hrow : W.ownsRow B 183 2 v n xs) (hB : Below B w W) (hown' : w1.ownsRow B 183 2 v' m ys) (hgrow : (W.alloc tmp).grownBy w1 v.ownBlock) :
  Boxed w1 B 170 v ∧ KeepsFrom N W (w1.setCell ⟨B, 0, none⟩ v') ∧ Kp B (B + 1 + 1) W (w1.setCell ⟨B, 0, none⟩ v') ∧ Boxed (w1.setCell ⟨B, 0, none⟩ v') B 170 v' ∧ Boxed (w1.setCell ⟨B, 0, none⟩ v') (B + 1) 4 u ∧
   Boxed (w1.setCell ⟨B, 0, none⟩ v') (B + 1 + 1) 9 (.string S) ∧ (w1.setCell ⟨B, 0, none⟩ v').ownsRow B 183 2 v' m ys ∧ Below B w (w1.setCell ⟨B, 0, none⟩ v') := by
 obtain ⟨a1, a2, a3, a4, a5⟩ := hv.appended (by decide) hrow (by have := hv.lt; omega) (Nat.le_refl _) hown' hgrow
 have he2 : Boxed w1 (B + 1) 4 u := (he.alloc tmp).kept hgrow (he.not_row (by decide) hrow)
 have hs2 : Boxed w1 (B + 1 + 1) 9 (.string S) := (hs.alloc tmp).kept hgrow (hs.not_row (by decide) hrow)
 have hs3 := hs2.other (B' := B) (by omega) v'
 exact ⟨a1, a4.from _, ⟨a5, hs3.trans hs.symm⟩, a2, he2.other (by omega) v', hs3, a3, hB.trans a5⟩
def PtAns (S : ByteArray) (w : World) (e : Ending) (W' : World) : Prop :=
 ((LK.run (LK.pc S.data.toList)).1 = true ∧ e = .returned (.tuple #[.slice none 0 0, .int .i64 1]) ∧ Fr w W') ∨
 ((LK.run (LK.pc S.data.toList)).1 = false ∧ ∃ v, e = .returned (.tuple #[v, .int .i64 0]) ∧ W'.ownsRow w.heap.size 183 2 v (LK.run (LK.pc S.data.toList)).2.length (prtV (LK.run (LK.pc S.data.toList)).2) ∧ Fr w W')
set_option maxRecDepth 100000 in
set_option maxHeartbeats 2000000 in
theorem partsOf_in (n : Nat) (hn : 5 ≤ n) (S : ByteArray) (hS : S.size ≤ 32) (w : World) (hT : Tb w) :
  CallsIn Fence.wide n Tryz.prog 142 #[.string S] w fun e W' => PtAns S w e W' := by
 have h1 : 1 ≤ n := by omega
 have hz : ¬ (32 : Int) < (S.size : Int) := by omega
 obtain ⟨i0, hi, hz0, hz1, hz2⟩ := info_parts Tryz.infoPart
 refine callsIn_of_wp_marks Tryz.func142 rfl trivial ?_ rfl
 simp only [Tryz.ntmps142, List.size_toArray, List.length_cons, List.length_nil, Nat.reduceAdd, Nat.reduceSub, Array.replicate_succ, Array.replicate_zero, List.push_toArray, List.append_toArray, List.nil_append, List.cons_append]
 gi_wp2_with (refine ⟨trivial, ?_⟩; gi_at_call 147; refine (callsIn_wide.2 (pieces_any S _)).mono ?_; rintro _ _ ⟨rfl, rfl⟩)
 obtain ⟨W0, hW0⟩ : ∃ W0, ((w.alloc (.cells #[.slice none 0 0] 170)).alloc (.cells #[.bool false] 4)).alloc (.cells #[.string S] 9) = W0 := ⟨_, rfl⟩
 have bP : Boxed W0 w.heap.size 170 (.slice none 0 0) := by rw [← hW0]; exact ((Boxed.new w _ _).alloc _).alloc _
 have bE : Boxed W0 (w.heap.size + 1) 4 (.bool false) := by
  rw [← hW0]
  have := (Boxed.new (w.alloc (.cells #[.slice none 0 0] 170)) 4 (.bool false)).alloc (.cells #[.string S] 9)
  rwa [World.size_alloc] at this
 have bS : Boxed W0 (w.heap.size + 1 + 1) 9 (.string S) := by
  rw [← hW0]
  have := Boxed.new ((w.alloc (.cells #[.slice none 0 0] 170)).alloc (.cells #[.bool false] 4)) 9 (.string S)
  rwa [World.size_alloc, World.size_alloc] at this
 have hB0 : Below w.heap.size w W0 := by rw [← hW0]; exact (((Fr.refl w).alloc _).alloc _).alloc _
 have hsz : W0.heap.size = w.heap.size + 3 := by rw [← hW0]; simp
 have hlen : (LK.pc S.data.toList).length ≤ 32 := by
  have h1 := LK.pc_len S.data.toList
  have h2 : S.data.toList.length = S.size := by rw [Array.length_toList]; rfl
  omega
 rw [hW0]
 clear hW0
 refine wpIn_rangeFunc_ownG rfl h1 (gf := 158) (lb := #[.pointer (some ⟨w.heap.size + 1 + 1, 0, none⟩)]) rfl trivial (enters_of Tryz.func158 (by kernel_rfl) rfl)
  (seq_stops (n - 1) (by omega) S (by omega) (w.heap.size + 1 + 1) w.heap.size W0 hT.size (by omega) bS.cell (hT.fr hB0)) kp_t (kp_b (by omega) (by omega)) (Below.refl _ _) (fun _ => rfl)
  (fun pre W => (∃ v, Boxed W w.heap.size 170 v ∧ W.ownsRow w.heap.size 183 2 v (LK.run pre).2.length (prtV (LK.run pre).2) ∧ True) ∧ Boxed W (w.heap.size + 1) 4 (.bool (LK.run pre).1) ∧ Boxed W (w.heap.size + 1 + 1) 9 (.string S) ∧ Below w.heap.size w W)
  (fun _ _ _ => False)
  (OwnFrom.and (Own.from (holdsRow_own w.heap.size w.heap.size 170 183 2 (fun pre => (LK.run pre).2.length) (fun pre => prtV (LK.run pre).2) (fun pre v => True)) _) (OwnFrom.and (Own.from (boxed_own (w.heap.size + 1) 4 (fun pre => .bool (LK.run pre).1)) _) (OwnFrom.and (Own.from (boxed_own (w.heap.size + 1 + 1) 9 (fun pre => .string S)) _) (ownFrom_below (Nat.le_refl _) (by omega)))))
  (fun _ _ _ _ _ hs _ _ => hs)
  ⟨⟨_, bP, World.ownsRow_nil _ _ _ _, trivial⟩, bE, bS, hB0⟩
  (fun x => { tmps := #[.string S, undef, .slice none 0 0, .int .i64 0, .pointer (some ⟨w.heap.size, 0, none⟩), .pointer (some ⟨w.heap.size + 1, 0, none⟩), .string ⟨x.toArray⟩, undef, .string S, .int .i64 S.size, .bool false, .string S, .func (.func 158) #[] #[.pointer (some ⟨w.heap.size + 1 + 1, 0, none⟩)], .string ⟨x.toArray⟩, undef, undef, undef, undef, undef, undef, undef, undef, undef, undef, undef, undef, undef, undef, undef], defers := [] }) ?assign ?body ?done ?stop
 case assign =>
  intro l x W K hK
  gi_wp2
  exact hK
 case body =>
  rintro l pre x W ⟨⟨v, hv, hrow, _⟩, he, hs, hB⟩ hlt
  have hTW : Tb W := hT.fr hB
  have hkd := kindOf_any ⟨x.toArray⟩ W hTW
  have hst := LK.run_snoc pre x
  have hps0 := LK.run_len pre
  obtain ⟨ee, hee⟩ : ∃ ee, (LK.run pre).1 = ee := ⟨_, rfl⟩
  obtain ⟨ps, hps⟩ : ∃ ps, (LK.run pre).2 = ps := ⟨_, rfl⟩
  obtain ⟨K, hK⟩ : ∃ K, LK.kd x = K := ⟨_, rfl⟩
  rw [hee] at he
  rw [hps] at hrow hps0
  rw [show (⟨x.toArray⟩ : ByteArray).data.toList = x from rfl, hK] at hkd
  have HS : Hid (LK.run (pre ++ [x]) = if (if ee then 97 else K) = 92 then (true, ps) else (false, ps ++ [((if ee then 97 else K), x)])) := by
   unfold Hid
   rw [hst]
   unfold LK.step LK.kdE
   rw [hee, hps, hK]
  have hpl : ps.length < 32 := by omega
  clear hst hee hps hK hps0
  cases ee
  ·
   by_cases h92 : K = 92
   ·
    have hb92 : (K == 92) = true := by simp [h92]
    have HS2 : Hid (LK.run (pre ++ [x]) = (true, ps)) := by unfold Hid; rw [HS.out]; simp [h92]
    clear HS
    gi_wp2_with fail
    refine ⟨trivial, fun _ => by omega, ?_⟩
    refine (CallsIn.inRound l (callsIn_wide.2 hkd)).mono ?_
    rintro _ W1 ⟨rfl, hf⟩
    have ce := (Boxed.fr he hf).cell
    have fe := (Boxed.fr he hf).frozen
    obtain ⟨g1, g2, g3, g4, g5, g6, g7⟩ := store_flag (N := W0.heap.size) (u := .bool true) hf hv he hs hrow hB
    clear hkd
    gi_wp2
    refine ⟨g1, g2, ⟨v, g3, ?_, trivial⟩, ?_, g5, g7⟩
    ·
     rw [HS2.out]
     exact g6
    ·
     rw [HS2.out]
     exact g4
   ·
    have hb92 : (K == 92) = false := by simp [h92]
    have HS2 : Hid (LK.run (pre ++ [x]) = (false, ps ++ [(K, x)])) := by unfold Hid; rw [HS.out]; simp [h92]
    clear HS
    gi_wp2_with fail
    refine ⟨trivial, fun _ => by omega, ?_⟩
    refine (CallsIn.inRound l (callsIn_wide.2 hkd)).mono ?_
    rintro _ W1 ⟨rfl, hf⟩
    have ce := (Boxed.fr he hf).cell
    have fe := (Boxed.fr he hf).frozen
    obtain ⟨g1, g2, g3, g4, g5, g6, g7⟩ := store_flag (N := W0.heap.size) (u := .bool false) hf hv he hs hrow hB
    have cv := g3.cell
    clear hkd
    gi_wp2_with (gi_at_builtin; refine wpListIn_append_own _ rfl _ _ 170 rfl w.heap.size 183 i0 (.agg #[.int .i32 0, .string ⟨#[]⟩]) 2 24 Tryz.underlying170 hi hz0 hz1 hz2 rfl (by decide) _ _ _ rfl (g6.alloc _) ⟨W1.heap.size, 0, none⟩ 1 1 [.int .i32 K, .string ⟨x.toArray⟩] rfl rfl ?c1 (by simp [Value.oneCell']) (by unfold maxLen; omega) (by omega) (by have := hB.size; have := hf.size; simp; omega) ?_)
    case c1 => exact cell_two_set W1 _ _ _ _ _
    intro v' w1 hown' hgrow _
    obtain ⟨g', cap', rfl⟩ := ownsRow_succ hown'
    obtain ⟨k0, k1, k2, k3, k4, k5, k6, k7⟩ := append_flag (N := W0.heap.size) g3 g4 g5 g6 g7 hown' hgrow
    have hc1 := k0.cell
    have hf1 := k0.frozen
    gi_wp2
    refine ⟨g1.trans k1, kp_t g2 k2, ⟨_, k3, ?_, trivial⟩, ?_, k5, k7⟩
    ·
     rw [HS2.out]
     simpa [prtV_snoc] using k6
    ·
     rw [HS2.out]
     exact k4
  ·
   have HS2 : Hid (LK.run (pre ++ [x]) = (false, ps ++ [(97, x)])) := by unfold Hid; rw [HS.out]; simp
   clear HS
   gi_wp2_with fail
   refine ⟨trivial, fun _ => by omega, ?_⟩
   refine (CallsIn.inRound l (callsIn_wide.2 hkd)).mono ?_
   rintro _ W1 ⟨rfl, hf⟩
   have ce := (Boxed.fr he hf).cell
   have fe := (Boxed.fr he hf).frozen
   obtain ⟨g1, g2, g3, g4, g5, g6, g7⟩ := store_flag (N := W0.heap.size) (u := .bool false) hf hv he hs hrow hB
   have cv := g3.cell
   clear hkd
   gi_wp2_with (gi_at_builtin; refine wpListIn_append_own _ rfl _ _ 170 rfl w.heap.size 183 i0 (.agg #[.int .i32 0, .string ⟨#[]⟩]) 2 24 Tryz.underlying170 hi hz0 hz1 hz2 rfl (by decide) _ _ _ rfl (g6.alloc _) ⟨W1.heap.size, 0, none⟩ 1 1 [.int .i32 97, .string ⟨x.toArray⟩] rfl rfl ?c1 (by simp [Value.oneCell']) (by unfold maxLen; omega) (by omega) (by have := hB.size; have := hf.size; simp; omega) ?_)
   case c1 => exact cell_two_set W1 _ _ _ _ _
   intro v' w1 hown' hgrow _
   obtain ⟨g', cap', rfl⟩ := ownsRow_succ hown'
   obtain ⟨k0, k1, k2, k3, k4, k5, k6, k7⟩ := append_flag (N := W0.heap.size) g3 g4 g5 g6 g7 hown' hgrow
   have hc1 := k0.cell
   have hf1 := k0.frozen
   gi_wp2
   refine ⟨g1.trans k1, kp_t g2 k2, ⟨_, k3, ?_, trivial⟩, ?_, k5, k7⟩
   ·
    rw [HS2.out]
    simpa [prtV_snoc] using k6
   ·
    rw [HS2.out]
    exact k4
 case done =>
  rintro D ys W hD rfl ⟨⟨v, hv, hrow, _⟩, he, hs, hB⟩ hK
  have hc := hv.cell
  have hce := he.cell
  have hfin : Fr w (W.putObj D (.deferred none)) := hB.trans (belowK_b (w := w) (Nat.le_refl _) W D _ _ (by omega) hK rfl rfl)
  cases hrun : (LK.run (LK.pc S.data.toList)).1 with
  | true =>
   rw [hrun] at hce
   gi_wp2
   refine ⟨by simp, .inl ⟨_, _, rfl, run_takeDeferred hK, ?_⟩⟩
   exact ⟨_, results_tmp2 rfl _ _ _, .inl ⟨hrun, rfl, hfin⟩⟩
  | false =>
   rw [hrun] at hce
   gi_wp2
   refine ⟨by simp, .inl ⟨_, _, rfl, run_takeDeferred hK, ?_⟩⟩
   exact ⟨_, results_tmp2 rfl _ _ _, .inr ⟨hrun, v, rfl, ownsRow_putObj hrow _ hK rfl, hfin⟩⟩
 case stop =>
  rintro D c pre W _ _ h _
  exact h.elim
end Go.Proofs.YtbcfdhimngoplaaGreatDoor
namespace Go.Proofs.YtbcfdhimngoplaaGreatDoor
open Go.ChangeShapes Go.WideShapes Go.ChangeAt Go.RowKit Go.Shelf
set_option linter.unusedVariables false
def IsPt (w : World) (v : Value) (l : List LK.Part) : Prop :=
 ∃ (a : Option Addr) (cap : Nat), v = .slice a l.length cap ∧ l.length ≤ cap ∧ (l = [] ∨ ∃ b o, a = some ⟨b, o, none⟩ ∧ b < w.heap.size ∧ ∀ i q, l[i]? = some q → w.cell? ⟨b, o + i * 2, none⟩ = some (.int .i32 q.1) ∧ w.cell? ⟨b, o + i * 2 + 1, none⟩ = some (sv q.2))
theorem IsPt.fr {w w' : World} {v : Value} {l : List LK.Part} (h : IsPt w v l) (f : Fr w w') : IsPt w' v l := by
 obtain ⟨a, cap, rfl, hc, h0 | ⟨b, o, rfl, hb, hcl⟩⟩ := h
 · exact ⟨a, cap, rfl, hc, Or.inl h0⟩
 · exact ⟨_, cap, rfl, hc, Or.inr ⟨b, o, rfl, Nat.lt_of_lt_of_le hb f.size, fun i q hi => ⟨(Below.cell f (p := ⟨b, o + i * 2, none⟩) hb).trans (hcl i q hi).1, (Below.cell f (p := ⟨b, o + i * 2 + 1, none⟩) hb).trans (hcl i q hi).2⟩⟩⟩
theorem prtV_at (l : List LK.Part) (i : Nat) (q : LK.Part) (h : l[i]? = some q) : (prtV l)[i * 2]? = some (.int .i32 q.1) ∧ (prtV l)[i * 2 + 1]? = some (sv q.2) := by
 induction l generalizing i with
 | nil => simp at h
 | cons p l ih =>
  cases i with
  | zero => simp at h; subst h; simp [prtV]
  | succ i =>
   have := ih i (by simpa using h)
   have e : prtV (p :: l) = .int .i32 p.1 :: sv p.2 :: prtV l := by simp [prtV]
   rw [e, show (i + 1) * 2 = i * 2 + 1 + 1 by omega, show i * 2 + 1 + 1 + 1 = (i * 2 + 1) + 1 + 1 by omega]
   simpa using this
theorem pt_of_own {w : World} {base : Nat} {v : Value} {l : List LK.Part} (h : w.ownsRow base 183 2 v l.length (prtV l)) : IsPt w v l := by
 have hl := h.1
 rcases h.2 with ⟨rfl, h0⟩ | ⟨g, cap, cur, rfl, hb, hg, h2⟩
 ·
  have : l = [] := List.eq_nil_of_length_eq_zero h0
  subst this
  exact ⟨none, 0, rfl, Nat.le_refl _, Or.inl rfl⟩
 ·
  obtain ⟨h3, h4, h5, h6⟩ := h2
  refine ⟨_, cap, rfl, h3, Or.inr ⟨g, 0, rfl, (Array.getElem?_eq_some_iff.1 hg).1, fun i q hi => ?_⟩⟩
  have hil := (List.getElem?_eq_some_iff.1 hi).1
  obtain ⟨c0, c1⟩ := prtV_at l i q hi
  rw [← h6, List.getElem?_take, if_pos (by omega), Array.getElem?_toList] at c0 c1
  constructor
  · simp [World.cell?, hg, c0]
  · simp [World.cell?, hg, c1]
set_option maxRecDepth 100000 in
set_option maxHeartbeats 1000000 in
theorem standClo_any (k : Int) (x : Value) (w : World) (hx : x.oneCell' = true) :
  Calls Tryz.prog 151 #[.agg #[.int .i32 k, x]] w fun e w' => e = .returned (.bool (k != 37)) ∧ Fr w w' := by
 go_enter Tryz.func151, Tryz.ntmps151
 go_wp2
 go_ret
 exact ⟨rfl, (Fr.refl w).alloc _⟩
theorem tl_inj {a b : ByteArray} (h : a.toList = b.toList) : a = b := by
 rw [Lib.toList_data, Lib.toList_data] at h
 cases a with
 | mk a =>
  cases b with
  | mk b => exact congrArg ByteArray.mk (Array.toList_inj.1 h)
theorem allS_any (l : List LK.Part) : (l.all fun q => q.1 == 37) = !(l.any fun q => q.1 != 37) := by
 induction l with
 | nil => rfl
 | cons q l ih => simp only [List.all_cons, List.any_cons, ih, Bool.not_or, bne, Bool.not_not]
theorem meas_star (L M p u i : Nat) (hu : u ≤ i) (hp : p < M) : (L - i) * (M + 2) + (M - (p + 1)) < (L - u) * (M + 2) + (M - p) := by
 have h : (L - i) * (M + 2) ≤ (L - u) * (M + 2) := Nat.mul_le_mul_right _ (by omega)
 omega
theorem meas_back (L M p q u : Nat) (hu : u < L) (hq : q ≤ M) : (L - (u + 1)) * (M + 2) + (M - q) < (L - u) * (M + 2) + (M - p) := by
 have h : (L - u) * (M + 2) = (L - (u + 1)) * (M + 2) + (M + 2) := by
  have e : L - u = (L - (u + 1)) + 1 := by omega
  rw [e, Nat.succ_mul]
 omega
theorem Fr.drewN {a b : World} (h : Fr a b) (n : Nat) : Fr a (b.drewN n) := by
 induction n with
 | zero => exact h
 | succ n ih => exact ih.drew
set_option maxRecDepth 100000 in
set_option maxHeartbeats 2000000 in
theorem standFor_any (v u : Value) (P : List LK.Part) (T : List LK.Bs) (w : World) (hP : IsPt w v P) (hT : IsTx w u T) (hp : P.length ≤ 64) (ht : T.length ≤ 64)
  (hcf : ∀ v' l W, IsPt W v' l → l.length ≤ 64 → Calls Tryz.prog 150 #[v', .func (.func 151) #[] #[]] W fun e w' => e = .returned (.bool (l.any fun q => q.1 != 37)) ∧ Fr W w') :
  Calls Tryz.prog 144 #[v, u] w fun e w' => e = .returned (.bool (LK.mt P T)) ∧ Fr w w' := by
 obtain ⟨a, cap, rfl, hcap, hcP⟩ := hP
 obtain ⟨a2, cap2, rfl, hcap2, hcT⟩ := hT
 have HP : Hid _ := hcP
 have HT : Hid _ := hcT
 have HC : Hid _ := hcf
 clear hcP hcT hcf
 go_enter Tryz.func144, Tryz.ntmps144
 go_wp2
 go_step3
 go_wp2
 go_step3
 go_wp2
 go_loopw [5, 6, 7, 8] (fun pv av lv uv wr => ∃ (p i u : Nat) (last : Int), pv = .int .i64 p ∧ av = .int .i64 i ∧ lv = .int .i64 last ∧ uv = .int .i64 u ∧ LK.Inv P T (LK.mt P T) p i last u ∧ Fr w wr) (fun pv _ _ uv _ => (T.length - (intOf uv).toNat) * (P.length + 2) + (P.length - (intOf pv).toNat))
 case atStart => exact ⟨0, 0, 0, -1, rfl, rfl, rfl, rfl, LK.inv_start P T, Fr.refl _⟩
 case round =>
  obtain ⟨p, i, u, last, rfl, rfl, rfl, rfl, hinv, hfr⟩ := hrel
  have hp0 : p ≤ P.length := hinv.1
  have hi0 : i ≤ T.length := hinv.2.1
  have hu0 : u ≤ i := hinv.2.2.1
  have hlast : last = -1 ∨ ∃ k : Nat, last = k := by
   rcases hinv.2.2.2 with ⟨h, _⟩ | ⟨k, h, _⟩
   · exact Or.inl h
   · exact Or.inr ⟨k, h⟩
  by_cases hlt : i < T.length
  ·
   have hltZ : (i : Int) < (T.length : Int) := by omega
   obtain ⟨x, hx⟩ : ∃ x, T[i]? = some x := ⟨T[i], List.getElem?_eq_getElem hlt⟩
   obtain ⟨b2, rfl, hb2, hcT⟩ : ∃ b, a2 = some ⟨b, 0, none⟩ ∧ b < w.heap.size ∧ ∀ i x, T[i]? = some x → w.cell? ⟨b, i, none⟩ = some (sv x) := by
    rcases HT.out with h | h
    · rw [h] at hlt; simp at hlt
    · exact h
   have cx := (Below.cell hfr (p := ⟨b2, i, none⟩) hb2).trans (hcT i x hx)
   clear hcT
   by_cases hpl : p < P.length
   ·
    have hplZ : (p : Int) < (P.length : Int) := by omega
    obtain ⟨q, hq⟩ : ∃ q, P[p]? = some q := ⟨P[p], List.getElem?_eq_getElem hpl⟩
    obtain ⟨b, o, rfl, hb, hcP⟩ : ∃ b o, a = some ⟨b, o, none⟩ ∧ b < w.heap.size ∧ ∀ i q, P[i]? = some q → w.cell? ⟨b, o + i * 2, none⟩ = some (.int .i32 q.1) ∧ w.cell? ⟨b, o + i * 2 + 1, none⟩ = some (sv q.2) := by
     rcases HP.out with h | h
     · rw [h] at hpl; simp at hpl
     · exact h
    have c0 := (Below.cell hfr (p := ⟨b, o + p * 2, none⟩) hb).trans (hcP p q hq).1
    have c1 := (Below.cell hfr (p := ⟨b, o + p * 2 + 1, none⟩) hb).trans (hcP p q hq).2
    clear hcP
    obtain ⟨k, y⟩ := q
    unfold sv at c1 cx
    simp only at c0 c1
    have HI : Hid _ := hinv
    have HQ : Hid _ := hq
    have HX : Hid _ := hx
    have HF : Hid _ := hfr
    clear hinv hq hx hfr
    by_cases h37 : k = 37
    ·
     have b37 : (k == 37) = true := by simp [h37]
     have HI2 : Hid (LK.Inv P T (LK.mt P T) (p + 1) i p i) := LK.inv_star HI.out hlt HQ.out h37
     have hm := meas_star T.length P.length p u i hu0 hpl
     clear HI
     go_wp2
     go_roundw
     case rel => exact ⟨p + 1, i, i, p, by simp, rfl, rfl, rfl, HI2.out, HF.out⟩
     case measure => simpa [intOf] using hm
    ·
     have b37 : (k == 37) = false := by simp [h37]
     by_cases h95 : k = 95
     ·
      have b95 : (k == 95) = true := by simp [h95]
      have HI2 : Hid (LK.Inv P T (LK.mt P T) (p + 1) (i + 1) last u) := LK.inv_one HI.out HX.out HQ.out h37 (by simp [LK.one, h95])
      have hm := meas_star T.length P.length p u u (Nat.le_refl _) hpl
      clear HI
      go_wp2
      go_quiet (fail)
      go_wp2
      go_roundw
      case rel => exact ⟨p + 1, i + 1, u, last, by simp, by simp, rfl, rfl, HI2.out, Fr.drewN HF.out _⟩
      case measure => simpa [intOf] using hm
     ·
      have b95 : (k == 95) = false := by simp [h95]
      by_cases hyx : y = x
      ·
       subst hyx
       have HI2 : Hid (LK.Inv P T (LK.mt P T) (p + 1) (i + 1) last u) := LK.inv_one HI.out HX.out HQ.out h37 (by simp [LK.one])
       have hm := meas_star T.length P.length p u u (Nat.le_refl _) hpl
       clear HI
       go_wp2
       go_quiet (fail)
       go_wp2
       go_roundw
       case rel => exact ⟨p + 1, i + 1, u, last, by simp, by simp, rfl, rfl, HI2.out, Fr.drewN HF.out _⟩
       case measure => simpa [intOf] using hm
      ·
       have hm1 : LK.one (k, y) x = false := by simp [LK.one, h95, hyx]
       have HM : Hid (P.length ≤ p ∨ ∃ q, P[p]? = some q ∧ q.1 ≠ 37 ∧ LK.one q x = false) := Or.inr ⟨(k, y), HQ.out, h37, hm1⟩
       clear hm1
       obtain ⟨sy, hsy⟩ : ∃ sy : ByteArray, sy = ⟨y.toArray⟩ := ⟨_, rfl⟩
       obtain ⟨sx, hsx⟩ : ∃ sx : ByteArray, sx = ⟨x.toArray⟩ := ⟨_, rfl⟩
       have hne : ¬ sy = sx := by
        rw [hsy, hsx]
        intro e
        have := congrArg (fun z => z.data.toList) e
        exact hyx (by simpa using this)
       rw [← hsy] at c1
       rw [← hsx] at cx
       have hne1 : (sy.toList == sx.toList) = false := beq_false_of_ne (fun e => hne (tl_inj e))
       clear hsy hsx
       rcases hlast with h1 | ⟨kk, h1⟩
       ·
        subst h1
        have HR : Hid (LK.mt P T = false) := LK.inv_none HI.out HX.out HM.out
        clear HI
        go_wp2
        go_quiet (fail)
        go_wp2
        try rw [Exit.noGoto_ret]
        go_ret
        exact ⟨by rw [HR.out]; rfl, Fr.drewN HF.out _⟩
       ·
        subst h1
        have HI2 : Hid (LK.Inv P T (LK.mt P T) (kk + 1) (u + 1) kk (u + 1)) := LK.inv_back HI.out HX.out HM.out
        have hkk : kk + 1 ≤ P.length := HI2.out.1
        have hm := meas_back T.length P.length p (kk + 1) u (by omega) hkk
        have hkz : ¬ ((kk : Int) < 0) := by omega
        clear HI
        go_wp2
        go_quiet (fail)
        go_wp2
        go_roundw
        case rel => exact ⟨kk + 1, u + 1, u + 1, kk, by simp, by simp, rfl, by simp, HI2.out, Fr.drewN HF.out _⟩
        case measure => simpa [intOf] using hm
   ·
    have hplZ : ¬ ((p : Int) < (P.length : Int)) := by omega
    have HM : Hid (P.length ≤ p ∨ ∃ q, P[p]? = some q ∧ q.1 ≠ 37 ∧ LK.one q x = false) := Or.inl (by omega)
    have HI : Hid _ := hinv
    have HX : Hid _ := hx
    have HF : Hid _ := hfr
    clear hinv hx hfr
    rcases hlast with h1 | ⟨kk, h1⟩
    ·
     subst h1
     have HR : Hid (LK.mt P T = false) := LK.inv_none HI.out HX.out HM.out
     clear HI
     go_wp2
     go_ret
     exact ⟨by rw [HR.out]; rfl, HF.out⟩
    ·
     subst h1
     have HI2 : Hid (LK.Inv P T (LK.mt P T) (kk + 1) (u + 1) kk (u + 1)) := LK.inv_back HI.out HX.out HM.out
     have hkk : kk + 1 ≤ P.length := HI2.out.1
     have hm := meas_back T.length P.length p (kk + 1) u (by omega) hkk
     have hkz : ¬ ((kk : Int) < 0) := by omega
     clear HI
     go_wp2
     go_roundw
     case rel => exact ⟨kk + 1, u + 1, u + 1, kk, by simp, by simp, rfl, by simp, HI2.out, HF.out⟩
     case measure => simpa [intOf] using hm
  ·
   have hltZ : ¬ ((i : Int) < (T.length : Int)) := by omega
   obtain rfl : i = T.length := by omega
   have HR : Hid (LK.mt P T = !((P.drop p).any fun q => q.1 != 37)) := by
    unfold Hid
    rw [LK.inv_end hinv]
    exact allS_any _
   have hdl : (P.drop p).length = P.length - p := List.length_drop
   have hpt0 : cap = p → ∀ c, IsPt wr (.slice a (P.length - p) c) (P.drop p) := fun e c => ⟨a, c, by rw [hdl], by omega, Or.inl (List.drop_eq_nil_of_le (by omega))⟩
   have hpt1 : IsPt wr (.slice (Option.map (fun x => x.add (p * 2)) a) (P.length - p) (cap - p)) (P.drop p) := by
    refine ⟨_, cap - p, by rw [hdl], by omega, ?_⟩
    rcases HP.out with h | ⟨b, o, rfl, hb, hc⟩
    · rw [h]; exact Or.inl (by simp)
    ·
     refine Or.inr ⟨b, o + p * 2, ?_, Nat.lt_of_lt_of_le hb hfr.size, fun i q hi => ?_⟩
     ·
      simp only [Option.map_some, Option.some.injEq]
      unfold Addr.add
      split
      · rename_i h0; simp only [h0, Nat.add_zero]
      · rfl
     ·
      rw [List.getElem?_drop] at hi
      obtain ⟨c0, c1⟩ := hc (p + i) q hi
      rw [show o + p * 2 + i * 2 = o + (p + i) * 2 by omega]
      exact ⟨(Below.cell hfr (p := ⟨b, o + (p + i) * 2, none⟩) hb).trans c0, (Below.cell hfr (p := ⟨b, o + (p + i) * 2 + 1, none⟩) hb).trans c1⟩
   have HF : Hid _ := hfr
   have H0 : Hid _ := hpt0
   have H1 : Hid _ := hpt1
   clear hinv hfr hpt0 hpt1
   go_wp2_with fail
   ·
    refine (HC.out _ (P.drop p) wr (H0.out (by assumption) _) (by omega)).mono ?_
    rintro _ w1 ⟨rfl, hf⟩
    go_wp2
    try rw [Exit.noGoto_ret]
    go_ret
    exact ⟨by rw [HR.out]; rfl, Fr.trans HF.out hf⟩
   ·
    refine (HC.out _ (P.drop p) wr H1.out (by omega)).mono ?_
    rintro _ w1 ⟨rfl, hf⟩
    go_wp2
    try rw [Exit.noGoto_ret]
    go_ret
    exact ⟨by rw [HR.out]; rfl, Fr.trans HF.out hf⟩
end Go.Proofs.YtbcfdhimngoplaaGreatDoor
namespace Go.Proofs.YtbcfdhimngoplaaGreatDoor
open Go.ChangeShapes Go.WideShapes Go.ChangeAt Go.RowKit Go.Shelf
set_option linter.unusedVariables false
set_option maxRecDepth 100000 in
set_option maxHeartbeats 2000000 in
theorem indexFunc_any (v : Value) (P : List LK.Part) (w : World) (hP : IsPt w v P) (hp : P.length ≤ 64) :
  Calls Tryz.prog 161 #[v, .func (.func 151) #[] #[]] w fun e w' => ∃ j : Int, e = .returned (.int .i64 j) ∧ (P.any fun q => q.1 != 37) = decide (0 ≤ j) ∧ Fr w w' := by
 obtain ⟨a, cap, rfl, hcap, hcP⟩ := hP
 have HP : Hid _ := hcP
 clear hcP
 go_enter Tryz.func161, Tryz.ntmps161
 go_wp2
 go_loopw [8] (fun iv wr => ∃ (i : Nat), iv = .int .i64 i ∧ i ≤ P.length ∧ (P.any fun q => q.1 != 37) = ((P.drop i).any fun q => q.1 != 37) ∧ Fr w wr) (fun iv _ => P.length - (intOf iv).toNat)
 case atStart => exact ⟨0, rfl, Nat.zero_le _, by simp, Fr.refl _⟩
 case round =>
  obtain ⟨i, rfl, hi, hall, hfr⟩ := hrel
  have HA : Hid _ := hall
  have HF : Hid _ := hfr
  clear hall
  by_cases hlt : i < P.length
  ·
   have hltZ : (i : Int) < (P.length : Int) := by omega
   obtain ⟨q, hq⟩ : ∃ q, P[i]? = some q := ⟨P[i], List.getElem?_eq_getElem hlt⟩
   obtain ⟨b, o, rfl, hb, hc⟩ : ∃ b o, a = some ⟨b, o, none⟩ ∧ b < w.heap.size ∧ ∀ i q, P[i]? = some q → w.cell? ⟨b, o + i * 2, none⟩ = some (.int .i32 q.1) ∧ w.cell? ⟨b, o + i * 2 + 1, none⟩ = some (sv q.2) := by
    rcases HP.out with h | h
    · rw [h] at hlt; simp at hlt
    · exact h
   have c0 := (Below.cell hfr (p := ⟨b, o + i * 2, none⟩) hb).trans (hc i q hq).1
   have c1 := (Below.cell hfr (p := ⟨b, o + i * 2 + 1, none⟩) hb).trans (hc i q hq).2
   have hdr : P.drop i = q :: P.drop (i + 1) := LK.drop_at hq
   have HD : Hid ((P.any fun q => q.1 != 37) = ((q.1 != 37) || (P.drop (i + 1)).any fun q => q.1 != 37)) := by
    unfold Hid
    rw [HA.out, hdr, List.any_cons]
   clear hc hfr hdr hq HA
   obtain ⟨k, y⟩ := q
   unfold sv at c1
   simp only at c0 c1
   by_cases h37 : k = 37
   ·
    subst h37
    have hcl : Calls Tryz.prog 151 #[.agg #[.int .i32 37, .string ⟨y.toArray⟩]] wr fun e w' => e = .returned (.bool false) ∧ Fr wr w' := standClo_any 37 (.string ⟨y.toArray⟩) wr rfl
    go_wp2_with (go_at_call 151; refine hcl.mono ?_; rintro _ w1 ⟨rfl, hf⟩)
    go_roundw
    case rel => exact ⟨i + 1, by simp, hlt, by rw [HD.out]; simp, Fr.trans HF.out hf⟩
    case measure => simp [intOf]; omega
   ·
    have b37 : (k != 37) = true := by simp [h37]
    have hcl := standClo_any k (.string ⟨y.toArray⟩) wr rfl
    rw [b37] at hcl
    go_wp2_with (go_at_call 151; refine hcl.mono ?_; rintro _ w1 ⟨rfl, hf⟩)
    go_ret
    exact ⟨i, rfl, by rw [HD.out]; simp [b37], Fr.trans HF.out hf⟩
  ·
   have hltZ : ¬ (i : Int) < (P.length : Int) := by omega
   have HD : Hid ((P.any fun q => q.1 != 37) = false) := by
    unfold Hid
    rw [HA.out, List.drop_eq_nil_of_le (by omega)]
    rfl
   clear HA hfr
   go_wp2
   go_ret
   exact ⟨-1, rfl, by rw [HD.out]; rfl, HF.out⟩
set_option maxHeartbeats 1000000 in
theorem containsFunc_any (v : Value) (P : List LK.Part) (w : World) (hP : IsPt w v P) (hp : P.length ≤ 64) :
  Calls Tryz.prog 150 #[v, .func (.func 151) #[] #[]] w fun e w' => e = .returned (.bool (P.any fun q => q.1 != 37)) ∧ Fr w w' := by
 have hix := indexFunc_any v P w hP hp
 clear hP
 go_enter Tryz.func150, Tryz.ntmps150
 go_wp2_with (go_at_call 161; refine hix.mono ?_)
 rintro _ w1 ⟨j, rfl, hj, hf⟩
 have HJ : Hid _ := hj
 clear hj hix
 go_wp2
 go_ret
 exact ⟨by rw [HJ.out]; rfl, hf⟩
theorem standFor_all (v u : Value) (P : List LK.Part) (T : List LK.Bs) (w : World) (hP : IsPt w v P) (hT : IsTx w u T) (hp : P.length ≤ 64) (ht : T.length ≤ 64) :
  Calls Tryz.prog 144 #[v, u] w fun e w' => e = .returned (.bool (LK.mt P T)) ∧ Fr w w' :=
 standFor_any v u P T w hP hT hp ht fun v' l W h hl => containsFunc_any v' l W h hl
def perr (S : ByteArray) : Nat := if 32 < S.size then 2 else if (LK.run (LK.pc S.data.toList)).1 = true then 1 else 0
def prts (S : ByteArray) : List LK.Part := (LK.run (LK.pc S.data.toList)).2
theorem prts_len (S : ByteArray) (h : perr S = 0) : (prts S).length ≤ 32 := by
 have h1 := LK.run_len (LK.pc S.data.toList)
 have h2 := LK.pc_len S.data.toList
 have h3 : S.data.toList.length = S.size := by rw [Array.length_toList]; rfl
 unfold perr at h
 unfold prts
 split at h
 · cases h
 · omega
def PO (S : ByteArray) (w : World) (v : Value) (W' : World) : Prop := (perr S = 0 → IsPt W' v (prts S)) ∧ Fr w W'
set_option maxRecDepth 100000 in
set_option maxHeartbeats 1000000 in
theorem partsOf_any (S : ByteArray) (w : World) (hb : S.size ≤ 9223372036854775807) (hT : Tb w) :
  Calls Tryz.prog 142 #[.string S] w fun e W' => ∃ v, e = .returned (.tuple #[v, .int .i64 (perr S)]) ∧ PO S w v W' := by
 by_cases h32 : 32 < S.size
 ·
  have hz : (32 : Int) < (S.size : Int) := by omega
  have hpe : perr S = 2 := by unfold perr; rw [if_pos h32]
  rw [hpe]
  go_enter Tryz.func142, Tryz.ntmps142
  go_wp2
  go_ret2
  exact ⟨_, rfl, ⟨fun h => (by rw [hpe] at h; cases h), Fr.refl _⟩⟩
 ·
  refine (callsIn_wide.1 (partsOf_in 5 (Nat.le_refl _) S (by omega) w hT)).mono ?_
  rintro e W' (⟨h1, rfl, hf⟩ | ⟨h1, v, rfl, hr, hf⟩)
  ·
   have hpe : perr S = 1 := by unfold perr; rw [if_neg h32, if_pos h1]
   rw [hpe]
   exact ⟨_, rfl, ⟨fun h => (by rw [hpe] at h; cases h), hf⟩⟩
  ·
   have hpe : perr S = 0 := by unfold perr; rw [if_neg h32, if_neg (by rw [h1]; decide)]
   rw [hpe]
   exact ⟨v, rfl, ⟨fun _ => pt_of_own hr, hf⟩⟩
def merr (S s : ByteArray) : Nat := if perr S ≠ 0 then perr S else if 16 < s.size then 2 else 0
def mtc (S s : ByteArray) : Bool := LK.mt (prts S) (LK.pc s.data.toList)
set_option maxRecDepth 100000 in
set_option maxHeartbeats 2000000 in
theorem match_any (S s : ByteArray) (w : World) (hb : S.size ≤ 9223372036854775807) (hb2 : s.size ≤ 9223372036854775807) (hT : Tb w) :
  Calls Tryz.prog 135 #[.string S, .string s] w fun e W' => e = .returned (.tuple #[.bool (decide (merr S s = 0) && mtc S s), .int .i64 (merr S s)]) ∧ Fr w W' := by
 have hpo := partsOf_any S w hb hT
 by_cases hpe : perr S = 0
 ·
  have hpl := prts_len S hpe
  have HPE : Hid _ := hpe
  rw [hpe] at hpo
  by_cases h16 : 16 < s.size
  ·
   have hme : merr S s = 2 := by unfold merr; rw [if_neg (by rw [HPE.out]; decide), if_pos h16]
   rw [hme]
   clear hpe hme
   go_enter Tryz.func135, Tryz.ntmps135
   go_wp2_with (go_at_call 142; refine hpo.mono ?_)
   rintro _ w1 ⟨v, rfl, hpo1⟩
   have hf := hpo1.2
   have hpc := likePieces_any s w1 hb2 (hT.fr hf)
   rw [if_pos h16, if_pos h16] at hpc
   clear hpo hpo1
   go_wp2_with (go_at_call 143; refine hpc.mono ?_)
   rintro _ w2 ⟨u, l, rfl, _, _, hf2⟩
   clear hpc
   go_wp2
   go_ret2
   exact ⟨rfl, hf.trans hf2⟩
  ·
   have hme : merr S s = 0 := by unfold merr; rw [if_neg (by rw [HPE.out]; decide), if_neg h16]
   rw [hme]
   have htl : (LK.pc s.data.toList).length ≤ 16 := by
    have h2 := LK.pc_len s.data.toList
    have h3 : s.data.toList.length = s.size := by rw [Array.length_toList]; rfl
    omega
   clear hpe hme
   go_enter Tryz.func135, Tryz.ntmps135
   go_wp2_with (go_at_call 142; refine hpo.mono ?_)
   rintro _ w1 ⟨v, rfl, hpo1⟩
   have hf := hpo1.2
   have hpt1 := hpo1.1 HPE.out
   have hpc := likePieces_any s w1 hb2 (hT.fr hf)
   rw [if_neg h16, if_neg h16] at hpc
   clear hpo hpo1
   go_wp2_with (go_at_call 143; refine hpc.mono ?_)
   rintro _ w2 ⟨u, l, rfl, rfl, htx, hf2⟩
   have hsf := standFor_all v u (prts S) (LK.pc s.data.toList) w2 (hpt1.fr hf2) htx (by omega) (by omega)
   have e0 : LK.mt (prts S) (LK.pc s.data.toList) = mtc S s := rfl
   rw [e0] at hsf
   obtain ⟨bb, hbb⟩ : ∃ bb, mtc S s = bb := ⟨_, rfl⟩
   rw [hbb] at hsf
   have HBB : Hid _ := hbb
   clear hbb
   clear hpc hpt1 htx e0
   go_wp2_with (go_at_call 144; refine hsf.mono ?_)
   rintro _ w3 ⟨rfl, hf3⟩
   go_wp2
   go_ret2
   exact ⟨by rw [HBB.out]; simp, (hf.trans hf2).trans hf3⟩
 ·
  have hme : merr S s = perr S := by unfold merr; rw [if_pos hpe]
  rw [hme]
  generalize hpp : perr S = pp at hpo hpe
  have hz : ((pp : Int) != 0) = true := by simp [hpe]
  have hz2 : ¬ ((pp : Int) = 0) := by omega
  have hd : decide (pp = 0) = false := by simp [hpe]
  rw [hd]
  clear hme hpp
  go_enter Tryz.func135, Tryz.ntmps135
  go_wp2_with (go_at_call 142; refine hpo.mono ?_)
  rintro _ w1 ⟨v, rfl, hpo1⟩
  have hf := hpo1.2
  clear hpo hpo1
  go_wp2
  go_ret2
  exact ⟨rfl, hf⟩
end Go.Proofs.YtbcfdhimngoplaaGreatDoor
