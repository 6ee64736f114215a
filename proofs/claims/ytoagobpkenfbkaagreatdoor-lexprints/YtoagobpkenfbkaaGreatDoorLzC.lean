/-
  The document's test of a byte, of a blank, and where the next token begins.
-/
import Derived.Test.YtoagobpkenfbkaaGreatDoorTabs
import Derived.Test.YtoagobpkenfbkaaGreatDoorOpenT
namespace Go.Proofs.YtoagobpkenfbkaaGreatDoor
open Go.ChangeShapes Go.WideShapes Go.ChangeAt Go.RowKit Go.Shelf
set_option linter.unusedVariables false
set_option linter.unusedSimpArgs false

/-- a byte within bounds stands at a place -/
def LX.inr (l : List UInt8) (i a b : Nat) : Bool := match l[i]? with
  | some c => decide (a ≤ c.toNat) && decide (c.toNat ≤ b)
  | none => false
theorem byte_at (S : ByteArray) (k : Nat) (h : k < S.size) : S.data.toList[k]? = some S[k] := by
  rw [Array.getElem?_toList]
  exact Array.getElem?_eq_getElem h
theorem wrap_byte (b : UInt8) : wrap64 (b.toNat : Int) = (b.toNat : Int) := by
  have := b.toNat_lt
  unfold wrap64
  omega
theorem in_out (S : ByteArray) (i : Int) (a b : Nat) (h0 : 0 ≤ i) (h : ¬ i < (S.size : Int)) : LX.inr S.data.toList i.toNat a b = false := by
  unfold LX.inr
  rw [List.getElem?_eq_none]
  rw [Array.length_toList]
  have e : S.data.size = S.size := rfl
  omega
theorem in_at (S : ByteArray) (k : Nat) (lo hi : Int) (h1 : 0 ≤ lo) (h2 : 0 ≤ hi) (h : k < S.size) : LX.inr S.data.toList k lo.toNat hi.toNat = (decide (lo ≤ (S[k].toNat : Int)) && decide ((S[k].toNat : Int) ≤ hi)) := by
  unfold LX.inr
  rw [byte_at S k h]
  show (decide (lo.toNat ≤ S[k].toNat) && decide (S[k].toNat ≤ hi.toNat)) = _
  congr 1
  · exact decide_eq_decide.2 (by omega)
  · exact decide_eq_decide.2 (by omega)

set_option maxHeartbeats 1000000 in
theorem in_core (S : ByteArray) (i lo hi : Int) (r : Bool) (w : World) (fit : (¬ i < (S.size : Int) ∧ r = false) ∨ ∃ (k : Nat) (h : k < S.size), i = k ∧ r = (decide (lo ≤ (S[k].toNat : Int)) && decide ((S[k].toNat : Int) ≤ hi))) :
    Calls Tryz.prog 26 #[.string S, .int .i64 i, .int .i64 lo, .int .i64 hi] w fun e w' => e = .returned (.bool r) ∧ w' = w := by
  rcases fit with ⟨h1, rfl⟩ | ⟨k, hk, rfl, rfl⟩
  · go_enter Tryz.func26, Tryz.ntmps26
    go_wp2
    go_ret
    exact ⟨rfl, rfl⟩
  · have hlt : (k : Int) < (S.size : Int) := by omega
    have hw := wrap_byte S[k]
    go_enter Tryz.func26, Tryz.ntmps26
    go_wp2
    · go_ret
      have hh : lo ≤ (S[k].toNat : Int) := by assumption
      exact ⟨by simp [hh], rfl⟩
    · go_ret
      have hh : (S[k].toNat : Int) < lo := by assumption
      exact ⟨by rw [decide_eq_false (by omega)]; rfl, rfl⟩

theorem in_any (S : ByteArray) (i lo hi : Int) (h0 : 0 ≤ i) (h1 : 0 ≤ lo) (h2 : 0 ≤ hi) (w : World) :
    Calls Tryz.prog 26 #[.string S, .int .i64 i, .int .i64 lo, .int .i64 hi] w fun e w' => e = .returned (.bool (LX.inr S.data.toList i.toNat lo.toNat hi.toNat)) ∧ w' = w := by
  refine in_core S i lo hi _ w ?_
  by_cases h : i < (S.size : Int)
  · have hk : i.toNat < S.size := by omega
    exact Or.inr ⟨i.toNat, hk, by omega, in_at S i.toNat lo hi h1 h2 hk⟩
  · exact Or.inl ⟨h, in_out S i _ _ h0 h⟩
theorem inr_some {l : List UInt8} {i a b : Nat} {c : UInt8} (h : l[i]? = some c) : LX.inr l i a b = (decide (a ≤ c.toNat) && decide (c.toNat ≤ b)) := by unfold LX.inr; rw [h]
theorem blank_in (c : UInt8) : LX.blank c = ((decide (32 ≤ c.toNat) && decide (c.toNat ≤ 32)) || ((decide (9 ≤ c.toNat) && decide (c.toNat ≤ 10)) || (decide (13 ≤ c.toNat) && decide (c.toNat ≤ 13)))) := by
  unfold LX.blank
  rw [Bool.eq_iff_iff]
  simp only [Bool.or_eq_true, Bool.and_eq_true, decide_eq_true_eq]
  omega

set_option maxRecDepth 100000 in
set_option maxHeartbeats 1000000 in
theorem isBlank_any (S : ByteArray) (k : Nat) (h : k < S.size) (w : World) :
    Calls Tryz.prog 27 #[.string S, .int .i64 (k : Int)] w fun e w' => e = .returned (.bool (LX.blank S[k])) ∧ w' = w := by
  have hb := byte_at S k h
  have c1 := fun W => in_any S (k : Int) 32 32 (by omega) (by decide) (by decide) W
  have c2 := fun W => in_any S (k : Int) 9 10 (by omega) (by decide) (by decide) W
  have c3 := fun W => in_any S (k : Int) 13 13 (by omega) (by decide) (by decide) W
  rw [Int.toNat_natCast, inr_some hb] at c1 c2 c3
  rw [blank_in]
  simp only [show (32 : Int).toNat = 32 from rfl, show (9 : Int).toNat = 9 from rfl, show (10 : Int).toNat = 10 from rfl, show (13 : Int).toNat = 13 from rfl] at c1 c2 c3
  generalize (decide (32 ≤ S[k].toNat) && decide (S[k].toNat ≤ 32)) = x1 at *
  generalize (decide (9 ≤ S[k].toNat) && decide (S[k].toNat ≤ 10)) = x2 at *
  generalize (decide (13 ≤ S[k].toNat) && decide (S[k].toNat ≤ 13)) = x3 at *
  clear hb h
  cases x1
  · cases x2
    · go_enter Tryz.func27, Tryz.ntmps27
      go_wp2_with fail
      refine (c1 _).mono ?_
      rintro _ w1 ⟨rfl, rfl⟩
      go_wp2_with fail
      refine (c2 _).mono ?_
      rintro _ w2 ⟨rfl, rfl⟩
      go_wp2_with fail
      refine (c3 _).mono ?_
      rintro _ w3 ⟨rfl, rfl⟩
      go_wp2_with fail
      go_ret
      exact ⟨by simp, rfl⟩
    · go_enter Tryz.func27, Tryz.ntmps27
      go_wp2_with fail
      refine (c1 _).mono ?_
      rintro _ w1 ⟨rfl, rfl⟩
      go_wp2_with fail
      refine (c2 _).mono ?_
      rintro _ w2 ⟨rfl, rfl⟩
      go_wp2_with fail
      go_ret
      exact ⟨by simp, rfl⟩
  · go_enter Tryz.func27, Tryz.ntmps27
    go_wp2_with fail
    refine (c1 _).mono ?_
    rintro _ w1 ⟨rfl, rfl⟩
    go_wp2_with fail
    go_ret
    exact ⟨by simp, rfl⟩

theorem in45 (S : ByteArray) (k : Nat) : LX.inr S.data.toList k 45 45 = decide (S.data.toList[k]? = some 45) := by
  unfold LX.inr
  cases h : S.data.toList[k]? with
  | none => simp
  | some c =>
    simp only [Option.some.injEq]
    rw [Bool.eq_iff_iff]
    simp only [Bool.and_eq_true, decide_eq_true_eq]
    constructor
    · intro h2
      apply UInt8.toNat_inj.1
      show c.toNat = 45
      omega
    · rintro rfl
      exact ⟨by decide, by decide⟩

set_option maxRecDepth 100000 in
set_option maxHeartbeats 2000000 in
theorem skipped_any (S : ByteArray) (w : World) (hs : S.size ≤ 9223372036854775806) :
    Calls Tryz.prog 17 #[.string S, .int .i64 0] w fun e w' => e = .returned (.int .i64 (LX.sk false S.data.toList : Int)) ∧ w' = w := by
  have hlen : S.data.toList.length = S.size := ba_len S
  obtain ⟨R, hR⟩ : ∃ R, LX.sk false S.data.toList = R := ⟨_, rfl⟩
  rw [hR]
  have HR : Hid _ := hR
  clear hR
  go_enter Tryz.func17, Tryz.ntmps17
  go_wp2_with fail
  go_loopw [1, 5] (fun iv mv wr => ∃ (i : Nat) (m : Bool), iv = .int .i64 i ∧ mv = .bool m ∧ i ≤ S.size ∧ R = i + LX.sk m (S.data.toList.drop i) ∧ wr = w) (fun iv _ _ => S.size - (intOf iv).toNat)
  case atStart => exact ⟨0, false, rfl, rfl, Nat.zero_le _, by rw [← HR.out]; simp, rfl⟩
  case round =>
    obtain ⟨i, m, rfl, rfl, hi, hrun, rfl⟩ := hrel
    by_cases hlt : i < S.size
    · have hltZ : (i : Int) < (S.size : Int) := by omega
      have hd : S.data.toList.drop i = S[i] :: S.data.toList.drop (i + 1) := by
        rw [List.drop_eq_getElem_cons (by omega)]
        rfl
      rw [hd] at hrun
      cases m with
      | true =>
        rw [LX.sk_t] at hrun
        by_cases hb : S[i].toNat = 10
        · rw [if_pos hb] at hrun
          have hb1 : ((S[i].toNat : Int) != 10) = false := by simp [hb]
          have hb2 : ((S[i].toNat : Int) = 10) := by omega
          have HN : Hid (R = (i + 1) + LX.sk false (S.data.toList.drop (i + 1))) := by unfold Hid; omega
          clear hrun hd hb hlen
          go_wp2_with fail
          go_roundw
          case rel => exact ⟨i + 1, false, by go_num, rfl, by omega, HN.out, by first | rfl | trivial⟩
          case measure => simp [intOf]; omega
        · rw [if_neg hb] at hrun
          have hb1 : ((S[i].toNat : Int) != 10) = true := by simp; omega
          have hb2 : ¬ ((S[i].toNat : Int) = 10) := by omega
          have HN : Hid (R = (i + 1) + LX.sk true (S.data.toList.drop (i + 1))) := by unfold Hid; omega
          clear hrun hd hb hlen
          go_wp2_with fail
          go_roundw
          case rel => exact ⟨i + 1, true, by go_num, rfl, by omega, HN.out, by first | rfl | trivial⟩
          case measure => simp [intOf]; omega
      | false =>
        rw [LX.sk_f] at hrun
        have hbi := byte_at S i hlt
        have c1 := fun W => in_any S (i : Int) 45 45 (by omega) (by decide) (by decide) W
        have c2 := fun W => in_any S ((i : Int) + 1) 45 45 (by omega) (by decide) (by decide) W
        have c3 := fun W => isBlank_any S i hlt W
        rw [Int.toNat_natCast, show (45 : Int).toNat = 45 from rfl, in45, hbi] at c1
        rw [show ((i : Int) + 1).toNat = i + 1 by omega, show (45 : Int).toNat = 45 from rfl, in45] at c2
        have hhead : (S.data.toList.drop (i + 1)).head? = S.data.toList[i + 1]? := List.head?_drop
        rw [hhead] at hrun
        by_cases hb1 : S[i] = 45
        · have e1 : decide (some S[i] = some (45 : UInt8)) = true := by simp [hb1]
          rw [e1] at c1
          have hbl : LX.blank S[i] = false := by rw [hb1]; rfl
          have h45 : S[i].toNat = 45 := by rw [hb1]; rfl
          rw [hbl] at hrun
          rw [if_neg (by decide)] at hrun
          by_cases hb2 : S.data.toList[i + 1]? = some 45
          · rw [decide_eq_true hb2] at c2
            rw [if_pos ⟨h45, hb2⟩] at hrun
            have HN : Hid (R = (i + 1) + LX.sk true (S.data.toList.drop (i + 1))) := by unfold Hid; omega
            clear hrun hd hb1 hb2 hlen hhead hbi e1 hbl h45 c3
            go_wp2_with fail
            refine (c1 _).mono ?_
            rintro _ w1 ⟨rfl, rfl⟩
            go_wp2_with fail
            refine (c2 _).mono ?_
            rintro _ w2 ⟨rfl, rfl⟩
            go_wp2_with fail
            go_roundw
            case rel => exact ⟨i + 1, true, by go_num, rfl, by omega, HN.out, by first | rfl | trivial⟩
            case measure => simp [intOf]; omega
          · rw [decide_eq_false hb2] at c2
            rw [if_neg (fun c => hb2 c.2)] at hrun
            rw [hbl] at c3
            have HN : Hid (R = i) := hrun
            clear hrun hd hb1 hb2 hlen hhead hbi e1 hbl h45
            go_wp2_with fail
            refine (c1 _).mono ?_
            rintro _ w1 ⟨rfl, rfl⟩
            go_wp2_with fail
            refine (c2 _).mono ?_
            rintro _ w2 ⟨rfl, rfl⟩
            go_wp2_with fail
            refine (c3 _).mono ?_
            rintro _ w3 ⟨rfl, rfl⟩
            go_wp2_with fail
            go_ret
            exact ⟨by rw [HN.out]; rfl, by first | rfl | trivial⟩
        · have e1 : decide (some S[i] = some (45 : UInt8)) = false := by simp [hb1]
          rw [e1] at c1
          have h45 : ¬ S[i].toNat = 45 := fun c => hb1 (UInt8.toNat_inj.1 c)
          cases hbl : LX.blank S[i] with
          | true =>
            rw [hbl] at hrun c3
            rw [if_pos rfl] at hrun
            have HN : Hid (R = (i + 1) + LX.sk false (S.data.toList.drop (i + 1))) := by unfold Hid; omega
            clear hrun hd hb1 hlen hhead hbi e1 hbl h45 c2
            go_wp2_with fail
            refine (c1 _).mono ?_
            rintro _ w1 ⟨rfl, rfl⟩
            go_wp2_with fail
            refine (c3 _).mono ?_
            rintro _ w3 ⟨rfl, rfl⟩
            go_wp2_with fail
            go_roundw
            case rel => exact ⟨i + 1, false, by go_num, rfl, by omega, HN.out, by first | rfl | trivial⟩
            case measure => simp [intOf]; omega
          | false =>
            rw [hbl] at hrun c3
            rw [if_neg (by decide), if_neg (fun c => h45 c.1)] at hrun
            have HN : Hid (R = i) := hrun
            clear hrun hd hb1 hlen hhead hbi e1 hbl h45 c2
            go_wp2_with fail
            refine (c1 _).mono ?_
            rintro _ w1 ⟨rfl, rfl⟩
            go_wp2_with fail
            refine (c3 _).mono ?_
            rintro _ w3 ⟨rfl, rfl⟩
            go_wp2_with fail
            go_ret
            exact ⟨by rw [HN.out]; rfl, by first | rfl | trivial⟩
    · have hltZ : ¬ (i : Int) < (S.size : Int) := by omega
      have hd : S.data.toList.drop i = [] := List.drop_of_length_le (by omega)
      rw [hd, LX.sk_nil] at hrun
      have HN : Hid (R = i) := hrun
      clear hrun hd hlen
      go_wp2_with fail
      go_ret
      exact ⟨by rw [HN.out]; rfl, by first | rfl | trivial⟩
end Go.Proofs.YtoagobpkenfbkaaGreatDoor
