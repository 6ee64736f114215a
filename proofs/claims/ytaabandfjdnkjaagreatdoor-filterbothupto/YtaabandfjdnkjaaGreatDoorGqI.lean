/-
  What belongs together: CtQ, ReA, ReB.
-/
import Derived.Test.YtaabandfjdnkjaaGreatDoorCtR
import Derived.Test.YtaabandfjdnkjaaGreatDoorGpD
import Derived.Test.YtaabandfjdnkjaaGreatDoorExC
import Derived.Test.YtaabandfjdnkjaaGreatDoorRfV
import Derived.Test.YtaabandfjdnkjaaGreatDoorEvK
import Derived.Test.YtaabandfjdnkjaaGreatDoorExP
namespace Go.Proofs.YtaabandfjdnkjaaGreatDoor
open Go.ChangeShapes Go.WideShapes Go.ChangeAt Go.RowKit
set_option linter.unusedVariables false
set_option linter.unusedSimpArgs false
set_option maxRecDepth 100000
theorem ba_eta (s : ByteArray) : (⟨s.data.toList.toArray⟩ : ByteArray) = s := by cases s; rfl
theorem ba_len (s : ByteArray) : s.data.toList.length = s.size := by rw [Array.length_toList]; rfl
theorem dataApp (a b : ByteArray) : (a ++ b).data.toList = a.data.toList ++ b.data.toList := by simp
namespace LX
open VS (Bs dig)
theorem great_iff {b : UInt8} : great b = true ↔ 65 ≤ b.toNat ∧ b.toNat ≤ 90 := by
 unfold great
 rw [Bool.and_eq_true, decide_eq_true_eq, decide_eq_true_eq]
theorem letter_iff {b : UInt8} : letter b = true ↔ (97 ≤ b.toNat ∧ b.toNat ≤ 122) ∨ b.toNat = 95 ∨ (65 ≤ b.toNat ∧ b.toNat ≤ 90) := by
 unfold letter
 rw [Bool.or_eq_true, small_iff, great_iff]
 omega
theorem low_same {b : UInt8} (h : great b = false) : low b = b := by
 unfold low
 rw [if_neg (by rw [h]; decide)]
theorem low_word {b : UInt8} (h : inWord b = true) : (small (low b) || dig (low b)) = true := by
 have key : ∀ n : Fin 256, inWord (UInt8.ofNat n.val) = true → (small (low (UInt8.ofNat n.val)) || dig (low (UInt8.ofNat n.val))) = true := by decide +kernel
 have := key ⟨b.toNat, b.toNat_lt⟩
 simp only [UInt8.ofNat_toNat] at this
 exact this h
theorem low_letter {b : UInt8} (h : letter b = true) : small (low b) = true := by
 have key : ∀ n : Fin 256, letter (UInt8.ofNat n.val) = true → small (low (UInt8.ofNat n.val)) = true := by decide +kernel
 have := key ⟨b.toNat, b.toNat_lt⟩
 simp only [UInt8.ofNat_toNat] at this
 exact this h
end LX
theorem exact1 (s : ByteArray) (i : Nat) (h : i < s.size) : (s.extract i (i + 1)).data.toList = [s[i]] := by
 have : (s.extract i (i + 1)).data.toList = (s.data.toList.drop i).take 1 := by simp
 rw [this, List.drop_eq_getElem_cons (by simpa using h)]
 rfl
def LX.inr (l : List UInt8) (i a b : Nat) : Bool := match l[i]? with
 | some c => decide (a ≤ c.toNat) && decide (c.toNat ≤ b)
 | none => false
theorem byte_at (S : ByteArray) (k : Nat) (h : k < S.size) : S.data.toList[k]? = some S[k] := by
 rw [Array.getElem?_toList]
 exact Array.getElem?_eq_getElem h
theorem wrap_byte (b : UInt8) : wrap64 (b.toNat : Int) = (b.toNat : Int) := by
 have := b.toNat_lt
 unfold wrap64
 omega
theorem in_out (S : ByteArray) (i : Int) (a b : Nat) (h0 : 0 ≤ i) (h : ¬ i < (S.size : Int)) : LX.inr S.data.toList i.toNat a b = false := by
 unfold LX.inr
 rw [List.getElem?_eq_none]
 rw [Array.length_toList]
 have e : S.data.size = S.size := rfl
 omega
theorem in_at (S : ByteArray) (k : Nat) (lo hi : Int) (h1 : 0 ≤ lo) (h2 : 0 ≤ hi) (h : k < S.size) : LX.inr S.data.toList k lo.toNat hi.toNat = (decide (lo ≤ (S[k].toNat : Int)) && decide ((S[k].toNat : Int) ≤ hi)) := by
 unfold LX.inr
 rw [byte_at S k h]
 show (decide (lo.toNat ≤ S[k].toNat) && decide (S[k].toNat ≤ hi.toNat)) = _
 congr 1
 · exact decide_eq_decide.2 (by omega)
 · exact decide_eq_decide.2 (by omega)
set_option maxHeartbeats 1000000 in
theorem in_core (S : ByteArray) (i lo hi : Int) (r : Bool) (w : World) (fit : (¬ i < (S.size : Int) ∧ r = false) ∨ ∃ (k : Nat) (h : k < S.size), i = k ∧ r = (decide (lo ≤ (S[k].toNat : Int)) && decide ((S[k].toNat : Int) ≤ hi))) :
  Calls Tryz.prog 116 #[.string S, .int .i64 i, .int .i64 lo, .int .i64 hi] w fun e w' => e = .returned (.bool r) ∧ w' = w := by
 rcases fit with ⟨h1, rfl⟩ | ⟨k, hk, rfl, rfl⟩
 ·
  go_enter Tryz.func116, Tryz.ntmps116
  go_wp2
  go_ret
  exact ⟨rfl, rfl⟩
 ·
  have hlt : (k : Int) < (S.size : Int) := by omega
  have hw := wrap_byte S[k]
  go_enter Tryz.func116, Tryz.ntmps116
  go_wp2
  ·
   go_ret
   have hh : lo ≤ (S[k].toNat : Int) := by assumption
   exact ⟨by simp [hh], rfl⟩
  ·
   go_ret
   have hh : (S[k].toNat : Int) < lo := by assumption
   exact ⟨by rw [decide_eq_false (by omega)]; rfl, rfl⟩
theorem in_any (S : ByteArray) (i lo hi : Int) (h0 : 0 ≤ i) (h1 : 0 ≤ lo) (h2 : 0 ≤ hi) (w : World) :
  Calls Tryz.prog 116 #[.string S, .int .i64 i, .int .i64 lo, .int .i64 hi] w fun e w' => e = .returned (.bool (LX.inr S.data.toList i.toNat lo.toNat hi.toNat)) ∧ w' = w := by
 refine in_core S i lo hi _ w ?_
 by_cases h : i < (S.size : Int)
 ·
  have hk : i.toNat < S.size := by omega
  exact Or.inr ⟨i.toNat, hk, by omega, in_at S i.toNat lo hi h1 h2 hk⟩
 · exact Or.inl ⟨h, in_out S i _ _ h0 h⟩
theorem inr_some {l : List UInt8} {i a b : Nat} {c : UInt8} (h : l[i]? = some c) : LX.inr l i a b = (decide (a ≤ c.toNat) && decide (c.toNat ≤ b)) := by unfold LX.inr; rw [h]
theorem one_conv (w : World) (n : Nat) (h : n < 256) :
  (convert 137 9 (.slice (some ⟨w.heap.size, 0, none⟩) 1 1)).run Tryz.prog (w.alloc (.cells #[.int .u8 (n : Int)] 5)) = .ok (.string ⟨#[UInt8.ofNat n]⟩) (w.alloc (.cells #[.int .u8 (n : Int)] 5)) := by
 refine run_convert_bytes_back (P := Tryz.prog) _ 137 9 5 ⟨w.heap.size, 0, none⟩ 1 [UInt8.ofNat n] Tryz.underlying137 Tryz.underlying5 Tryz.underlying9 ?_
 intro j hj
 have : j = 0 := by simpa using hj
 subst this
 have hc := (Blk.new w #[.int .u8 (n : Int)] 5).cell 0 rfl
 rw [Addr.add_lit]
 rw [Nat.zero_add, hc]
 have e : (UInt8.ofNat n).toNat = n := by rw [UInt8.toNat_ofNat']; exact Nat.mod_eq_of_lt h
 simp only [List.getElem_cons_zero]
 rw [e]
 rfl
theorem oneByte_any (n : Nat) (w : World) (h : n < 256) :
  Calls Tryz.prog 117 #[.int .i64 (n : Int)] w fun e w' => e = .returned (.string ⟨#[UInt8.ofNat n]⟩) ∧ Fr w w' := by
 have hc := one_conv w n h
 have h' : (n : Int) < 256 := by omega
 go_enter Tryz.func117, Tryz.ntmps117
 go_wp2
 go_ret
 exact ⟨rfl, (Fr.refl _).alloc _⟩
theorem oneByte_int (n : Int) (w : World) (h0 : 0 ≤ n) (h1 : n < 256) :
  Calls Tryz.prog 117 #[.int .i64 n] w fun e w' => e = .returned (.string ⟨#[UInt8.ofNat n.toNat]⟩) ∧ Fr w w' := by
 obtain ⟨k, rfl⟩ := Int.eq_ofNat_of_zero_le h0
 rw [Int.toNat_natCast]
 exact oneByte_any k w (by omega)
def LX.at? (p : UInt8 → Bool) (l : List UInt8) (i : Nat) : Bool := match l[i]? with
 | some c => p c
 | none => false
theorem at_some {p : UInt8 → Bool} {l : List UInt8} {i : Nat} {c : UInt8} (h : l[i]? = some c) : LX.at? p l i = p c := by unfold LX.at?; rw [h]
theorem let_in (l : List UInt8) (i : Nat) : LX.at? LX.letter l i = (LX.inr l i 97 122 || (LX.inr l i 65 90 || LX.inr l i 95 95)) := by
 unfold LX.at? LX.inr
 cases l[i]? with
 | none => rfl
 | some c =>
  simp only
  rw [Bool.eq_iff_iff, LX.letter_iff]
  simp only [Bool.or_eq_true, Bool.and_eq_true, decide_eq_true_eq]
  omega
theorem dig_in (l : List UInt8) (i : Nat) : LX.at? VS.dig l i = LX.inr l i 48 57 := by
 unfold LX.at? LX.inr
 cases l[i]? with
 | none => rfl
 | some c => rfl
set_option maxHeartbeats 1000000 in
theorem rletter_any (S : ByteArray) (k : Nat) (w : World) : Calls Tryz.prog 92 #[.string S, .int .i64 (k : Int)] w fun e w' => e = .returned (.bool (LX.at? LX.letter S.data.toList k)) ∧ w' = w := by
 have c1 := fun W => in_any S (k : Int) 97 122 (by omega) (by decide) (by decide) W
 have c2 := fun W => in_any S (k : Int) 65 90 (by omega) (by decide) (by decide) W
 have c3 := fun W => in_any S (k : Int) 95 95 (by omega) (by decide) (by decide) W
 rw [Int.toNat_natCast] at c1 c2 c3
 rw [let_in]
 simp only [show (97 : Int).toNat = 97 from rfl, show (122 : Int).toNat = 122 from rfl, show (65 : Int).toNat = 65 from rfl, show (90 : Int).toNat = 90 from rfl, show (95 : Int).toNat = 95 from rfl] at c1 c2 c3
 generalize LX.inr S.data.toList k 97 122 = x1 at *
 generalize LX.inr S.data.toList k 65 90 = x2 at *
 generalize LX.inr S.data.toList k 95 95 = x3 at *
 cases x1
 ·
  cases x2
  ·
   go_enter Tryz.func92, Tryz.ntmps92
   go_wp2_with fail
   refine (c1 _).mono ?_
   rintro _ w1 ⟨rfl, rfl⟩
   go_wp2_with fail
   refine (c2 _).mono ?_
   rintro _ w2 ⟨rfl, rfl⟩
   go_wp2_with fail
   refine (c3 _).mono ?_
   rintro _ w3 ⟨rfl, rfl⟩
   go_wp2_with fail
   go_ret
   exact ⟨by simp, rfl⟩
  ·
   go_enter Tryz.func92, Tryz.ntmps92
   go_wp2_with fail
   refine (c1 _).mono ?_
   rintro _ w1 ⟨rfl, rfl⟩
   go_wp2_with fail
   refine (c2 _).mono ?_
   rintro _ w2 ⟨rfl, rfl⟩
   go_wp2_with fail
   go_ret
   exact ⟨by simp, rfl⟩
 ·
  go_enter Tryz.func92, Tryz.ntmps92
  go_wp2_with fail
  refine (c1 _).mono ?_
  rintro _ w1 ⟨rfl, rfl⟩
  go_wp2_with fail
  go_ret
  exact ⟨by simp, rfl⟩
set_option maxHeartbeats 1000000 in
theorem rdigit_any (S : ByteArray) (k : Nat) (w : World) : Calls Tryz.prog 93 #[.string S, .int .i64 (k : Int)] w fun e w' => e = .returned (.bool (LX.at? VS.dig S.data.toList k)) ∧ w' = w := by
 have c1 := fun W => in_any S (k : Int) 48 57 (by omega) (by decide) (by decide) W
 rw [Int.toNat_natCast] at c1
 rw [dig_in]
 simp only [show (48 : Int).toNat = 48 from rfl, show (57 : Int).toNat = 57 from rfl] at c1
 generalize LX.inr S.data.toList k 48 57 = x1 at *
 go_enter Tryz.func93, Tryz.ntmps93
 go_wp2_with fail
 refine (c1 _).mono ?_
 rintro _ w1 ⟨rfl, rfl⟩
 go_wp2_with fail
 go_ret
 exact ⟨rfl, rfl⟩
theorem low_val {b : UInt8} (h : LX.great b = true) : UInt8.ofNat ((b.toNat : Int) + 32).toNat = LX.low b := by
 unfold LX.low
 rw [if_pos h]
 unfold LX.great at h
 simp only [Bool.and_eq_true, decide_eq_true_eq] at h
 apply UInt8.toNat_inj.1
 rw [UInt8.toNat_ofNat', UInt8.toNat_add]
 show ((b.toNat : Int) + 32).toNat % 256 = (b.toNat + 32) % 256
 omega
theorem great_in (S : ByteArray) (k : Nat) (h : k < S.size) : LX.inr S.data.toList k 65 90 = LX.great S[k] := by
 rw [inr_some (byte_at S k h)]
 rfl
theorem take_low (S : ByteArray) (i : Nat) (h : i < S.size) : (S.data.toList.take (i + 1)).map LX.low = (S.data.toList.take i).map LX.low ++ [LX.low S[i]] := by
 rw [List.take_add_one, byte_at S i h]
 simp
set_option maxHeartbeats 2000000 in
theorem smallOf_any (S : ByteArray) (w : World) (hs : S.size ≤ 9223372036854775807) : Calls Tryz.prog 94 #[.string S] w fun e w' => e = .returned (.string ⟨(S.data.toList.map LX.low).toArray⟩) ∧ Fr w w' := by
 have hlen := ba_len S
 go_enter Tryz.func94, Tryz.ntmps94
 go_wp2_with fail
 go_loopw [3, 4] (fun ov iv wr => ∃ (i : Nat) (O : ByteArray), iv = .int .i64 i ∧ ov = .string O ∧ O.data.toList = (S.data.toList.take i).map LX.low ∧ i ≤ S.size ∧ Fr w wr) (fun _ iv _ => S.size - (intOf iv).toNat)
 case atStart => exact ⟨0, ⟨#[]⟩, rfl, rfl, by simp, Nat.zero_le _, Fr.refl _⟩
 case round =>
  obtain ⟨i, O, rfl, rfl, hO, hi, hfr⟩ := hrel
  have hOs : O.size = i := by
   have := congrArg List.length hO
   rw [ba_len, List.length_map, List.length_take] at this
   omega
  by_cases hlt : i < S.size
  ·
   have hltZ : (i : Int) < (S.size : Int) := by omega
   have c1 := fun W => in_any S (i : Int) 65 90 (by omega) (by decide) (by decide) W
   rw [Int.toNat_natCast, show (65 : Int).toNat = 65 from rfl, show (90 : Int).toNat = 90 from rfl, great_in S i hlt] at c1
   have HT : Hid _ := take_low S i hlt
   have HO : Hid _ := hO
   have HOS : Hid _ := hOs
   have hos1 : (O.size : Int) + 1 ≤ 9223372036854775807 := by omega
   have hos2 : O.size + 1 ≤ 9223372036854775807 := by omega
   cases hg : LX.great S[i] with
   | true =>
    rw [hg] at c1
    have hb : (S[i].toNat : Int) + 32 < 256 := by
     unfold LX.great at hg
     simp only [Bool.and_eq_true, decide_eq_true_eq] at hg
     omega
    have c2 := fun W => oneByte_int ((S[i].toNat : Int) + 32) W (by omega) hb
    rw [low_val hg] at c2
    have hs1 : (⟨#[LX.low S[i]]⟩ : ByteArray).size = 1 := rfl
    have HL : Hid ((⟨#[LX.low S[i]]⟩ : ByteArray).data.toList = [LX.low S[i]]) := rfl
    obtain ⟨X, hX⟩ : ∃ X : ByteArray, (⟨#[LX.low S[i]]⟩ : ByteArray) = X := ⟨_, rfl⟩
    rw [hX] at c2 hs1 HL
    clear hg hO hOs hlen hX
    go_wp2_with fail
    refine (c1 _).mono ?_
    rintro _ w1 ⟨rfl, rfl⟩
    go_wp2_with fail
    refine (c2 _).mono ?_
    rintro _ w2 ⟨rfl, f2⟩
    have F2 : Hid (Fr w w2) := hfr.trans f2
    clear f2 c1 c2 hfr
    go_wp2_with fail
    go_roundw
    case rel => exact ⟨i + 1, O ++ X, by go_num, rfl, by rw [dataApp, HO.out, HL.out, HT.out], by omega, F2.out⟩
    case measure => simp [intOf]; omega
   | false =>
    rw [hg] at c1
    have HL : Hid ((S.extract i (i + 1)).data.toList = [LX.low S[i]]) := by
     unfold Hid
     rw [exact1 S i hlt, LX.low_same hg]
    have hs1 : (S.extract i (i + 1)).size = 1 := by rw [ByteArray.size_extract]; omega
    have hz1 : (i : Int) + 1 ≤ (S.size : Int) := by omega
    clear hg hO hOs hlen
    go_wp2_with fail
    refine (c1 _).mono ?_
    rintro _ w1 ⟨rfl, rfl⟩
    clear c1
    go_wp2_with fail
    go_roundw
    case rel => exact ⟨i + 1, O ++ S.extract i (i + 1), by go_num, rfl, by rw [dataApp, HO.out, HL.out, HT.out], by omega, hfr⟩
    case measure => simp [intOf]; omega
  ·
   obtain rfl : i = S.size := by omega
   have HX : Hid (O = ⟨(S.data.toList.map LX.low).toArray⟩) := by
    unfold Hid
    rw [← ba_eta O, hO, List.take_of_length_le (by omega)]
   go_wp2_with fail
   go_ret
   exact ⟨by rw [← HX.out]; rfl, hfr⟩
end Go.Proofs.YtaabandfjdnkjaaGreatDoor
namespace Go.Proofs.YtaabandfjdnkjaaGreatDoor
open Go.ChangeShapes Go.WideShapes Go.ChangeAt Go.RowKit
set_option linter.unusedVariables false
set_option linter.unusedSimpArgs false
set_option maxRecDepth 100000
theorem isWd_eq (l : List UInt8) : LX.isWd l = (l.all LX.inWord && (LX.at? LX.letter l 0 && decide (l.map LX.low = l))) := by
 cases l with
 | nil => rfl
 | cons b r =>
  have e0 : LX.at? LX.letter (b :: r) 0 = LX.letter b := rfl
  rw [e0, Bool.eq_iff_iff]
  simp only [LX.isWd, Bool.and_eq_true, List.all_eq_true, decide_eq_true_eq]
  constructor
  ·
   rintro ⟨h1, h2⟩
   have hlow : ∀ c ∈ b :: r, LX.low c = c := fun c hc => by
    apply LX.low_same
    have := h2 c hc
    simp only [Bool.or_eq_true] at this
    unfold LX.great
    rcases this with h | h
    ·
     rw [LX.small_iff] at h
     rw [Bool.and_eq_false_iff]
     simp only [decide_eq_false_iff_not]
     omega
    ·
     unfold VS.dig at h
     simp only [Bool.and_eq_true, decide_eq_true_eq] at h
     rw [Bool.and_eq_false_iff]
     simp only [decide_eq_false_iff_not]
     omega
   refine ⟨fun c hc => ?_, ?_, ?_⟩
   ·
    have := h2 c hc
    unfold LX.inWord LX.letter
    simp only [Bool.or_eq_true] at this ⊢
    rcases this with h | h
    · exact Or.inl (Or.inl h)
    · exact Or.inr h
   ·
    unfold LX.letter
    rw [h1]
    rfl
   ·
    conv => rhs; rw [← List.map_id (b :: r)]
    exact List.map_congr_left (fun c hc => by rw [hlow c hc]; rfl)
  ·
   rintro ⟨h1, h2, h3⟩
   have hlow : ∀ c ∈ b :: r, LX.low c = c := by
    have : (b :: r).map LX.low = (b :: r).map id := by rw [List.map_id]; exact h3
    intro c hc
    exact List.map_inj_left.1 this c hc
   refine ⟨?_, fun c hc => ?_⟩
   ·
    have := LX.low_letter h2
    rw [hlow b (by simp)] at this
    exact this
   ·
    have := LX.low_word (h1 c hc)
    rw [hlow c hc] at this
    exact this
theorem all_take_snoc {S : ByteArray} {p : UInt8 → Bool} {i : Nat} (h : i < S.size) (h1 : (S.data.toList.take i).all p = true) (h2 : p S[i] = true) : (S.data.toList.take (i + 1)).all p = true := by
 rw [List.take_add_one, byte_at S i h]
 simp [h1, h2]
theorem all_badp {S : ByteArray} {p : UInt8 → Bool} {i : Nat} (h : i < S.size) (h2 : p S[i] = false) : S.data.toList.all p = false := by
 have hm : S[i] ∈ S.data.toList := List.mem_of_getElem? (byte_at S i h)
 rw [List.all_eq_false]
 exact ⟨_, hm, by simp [h2]⟩
set_option maxHeartbeats 2000000 in
theorem isWord_any (S : ByteArray) (w : World) (hs : S.size ≤ 9223372036854775807) : Calls Tryz.prog 77 #[.string S] w fun e w' => e = .returned (.bool (LX.isWd S.data.toList)) ∧ Fr w w' := by
 have hlen := ba_len S
 have hW := isWd_eq S.data.toList
 go_enter Tryz.func77, Tryz.ntmps77
 go_wp2_with fail
 go_loopw [3] (fun iv wr => ∃ (i : Nat), iv = .int .i64 i ∧ (S.data.toList.take i).all LX.inWord = true ∧ i ≤ S.size ∧ Fr w wr) (fun iv _ => S.size - (intOf iv).toNat)
 case atStart => exact ⟨0, rfl, by simp, Nat.zero_le _, Fr.refl _⟩
 case round =>
  obtain ⟨i, rfl, hall, hi, hfr⟩ := hrel
  by_cases hlt : i < S.size
  ·
   have hltZ : (i : Int) < (S.size : Int) := by omega
   have c1 := fun W => rletter_any S i W
   have c2 := fun W => rdigit_any S i W
   rw [at_some (byte_at S i hlt)] at c1 c2
   have HA := @all_take_snoc S LX.inWord i hlt hall
   have HB := @all_badp S LX.inWord i hlt
   have hin : LX.inWord S[i] = (LX.letter S[i] || VS.dig S[i]) := rfl
   rw [hin] at HA HB
   cases hl : LX.letter S[i] with
   | true =>
    rw [hl] at c1 HA
    have HN : Hid _ := HA rfl
    clear HA HB hin hl hall hlen hW c2
    go_wp2_with fail
    refine (c1 _).mono ?_
    rintro _ w1 ⟨rfl, rfl⟩
    go_wp2_with fail
    go_roundw
    case rel => exact ⟨i + 1, by go_num, HN.out, by omega, hfr⟩
    case measure => simp [intOf]; omega
   | false =>
    cases hd : VS.dig S[i] with
    | true =>
     rw [hl] at c1
     rw [hd] at c2
     rw [hl, hd] at HA
     have HN : Hid _ := HA rfl
     clear HA HB hin hl hd hall hlen hW
     go_wp2_with fail
     refine (c1 _).mono ?_
     rintro _ w1 ⟨rfl, rfl⟩
     go_wp2_with fail
     refine (c2 _).mono ?_
     rintro _ w2 ⟨rfl, rfl⟩
     go_wp2_with fail
     go_roundw
     case rel => exact ⟨i + 1, by go_num, HN.out, by omega, hfr⟩
     case measure => simp [intOf]; omega
    | false =>
     rw [hl] at c1
     rw [hd] at c2
     rw [hl, hd] at HB
     rw [HB rfl] at hW
     have HN : Hid (LX.isWd S.data.toList = false) := hW
     clear HA HB hin hl hd hall hlen hW
     go_wp2_with fail
     refine (c1 _).mono ?_
     rintro _ w1 ⟨rfl, rfl⟩
     go_wp2_with fail
     refine (c2 _).mono ?_
     rintro _ w2 ⟨rfl, rfl⟩
     go_wp2_with fail
     go_ret
     exact ⟨by rw [HN.out]; rfl, hfr⟩
  ·
   obtain rfl : i = S.size := by omega
   rw [List.take_of_length_le (by omega)] at hall
   rw [hall, Bool.true_and] at hW
   have c1 : ∀ W, Calls Tryz.prog 92 #[.string S, .int .i64 0] W fun e w' => e = .returned (.bool (LX.at? LX.letter S.data.toList 0)) ∧ w' = W := fun W => rletter_any S 0 W
   have c2 := fun W => smallOf_any S W hs
   have hltZ : ¬ (S.size : Int) < (S.size : Int) := by omega
   cases h0 : LX.at? LX.letter S.data.toList 0 with
   | false =>
    rw [h0] at c1 hW
    have HN : Hid (LX.isWd S.data.toList = false) := hW
    clear h0 hW hall hlen c2
    go_wp2_with fail
    refine (c1 _).mono ?_
    rintro _ w1 ⟨rfl, rfl⟩
    go_wp2_with fail
    go_ret
    exact ⟨by rw [HN.out]; rfl, hfr⟩
   | true =>
    rw [h0, Bool.true_and] at hW
    rw [h0] at c1
    by_cases hq : S.data.toList.map LX.low = S.data.toList
    ·
     rw [decide_eq_true hq] at hW
     rw [hq, ba_eta] at c2
     have HN : Hid (LX.isWd S.data.toList = true) := hW
     clear h0 hW hall hlen hq
     go_wp2_with fail
     refine (c1 _).mono ?_
     rintro _ w1 ⟨rfl, rfl⟩
     go_wp2_with fail
     refine (c2 _).mono ?_
     rintro _ w2 ⟨rfl, f2⟩
     have F2 : Hid (Fr w w2) := hfr.trans f2
     clear f2 c1 c2 hfr
     go_wp2_with fail
     go_ret
     exact ⟨by rw [HN.out]; rfl, F2.out⟩
    ·
     rw [decide_eq_false hq] at hW
     have HN : Hid (LX.isWd S.data.toList = false) := hW
     have hne : ¬ (⟨(S.data.toList.map LX.low).toArray⟩ : ByteArray).toList = S.toList := fun c => hq (by
      rw [Lib.toList_data, Lib.toList_data] at c
      exact c)
     have n1 : ((⟨(S.data.toList.map LX.low).toArray⟩ : ByteArray).toList == S.toList) = false := by simpa using hne
     obtain ⟨X, hX⟩ : ∃ X : ByteArray, (⟨(S.data.toList.map LX.low).toArray⟩ : ByteArray) = X := ⟨_, rfl⟩
     rw [hX] at c2 hne n1
     clear h0 hW hall hlen hq hX
     go_wp2_with fail
     refine (c1 _).mono ?_
     rintro _ w1 ⟨rfl, rfl⟩
     go_wp2_with fail
     refine (c2 _).mono ?_
     rintro _ w2 ⟨rfl, f2⟩
     have F2 : Hid (Fr w w2) := hfr.trans f2
     clear f2 c1 c2 hfr
     go_wp2_with fail
     go_ret
     exact ⟨by rw [HN.out]; rfl, F2.out⟩
end Go.Proofs.YtaabandfjdnkjaaGreatDoor
namespace Go.Proofs.YtaabandfjdnkjaaGreatDoor
open Go.ChangeShapes Go.WideShapes Go.ChangeAt Go.RowKit
set_option linter.unusedVariables false
set_option linter.unusedSimpArgs false
set_option maxRecDepth 100000
def allB : ByteArray := ⟨#[32, 97, 110, 100, 32, 97, 110, 121, 32, 97, 115, 32, 97, 115, 99, 32, 98, 101, 103, 105, 110, 32, 98, 101, 116, 119, 101, 101, 110, 32, 98, 108, 111, 98, 32, 98, 121, 32, 99, 111, 109, 109, 105, 116, 32, 99, 111, 117, 110, 116, 32, 99, 114, 101, 97, 116, 101, 32, 100, 101, 108, 101, 116, 101, 32, 100, 101, 115, 99, 32, 100, 105, 115, 116, 105, 110, 99, 116, 32, 100, 114, 111, 112, 32, 102, 114, 111, 109, 32, 103, 114, 111, 117, 112, 32, 105, 110, 32, 105, 110, 115, 101, 114, 116, 32, 105, 110, 116, 101, 103, 101, 114, 32, 105, 110, 116, 111, 32, 105, 115, 32, 108, 105, 107, 101, 32, 108, 105, 109, 105, 116, 32, 109, 97, 120, 32, 109, 105, 110, 32, 110, 111, 116, 32, 110, 117, 108, 108, 32, 111, 102, 102, 115, 101, 116, 32, 111, 114, 32, 111, 114, 100, 101, 114, 32, 114, 111, 108, 108, 98, 97, 99, 107, 32, 115, 101, 108, 101, 99, 116, 32, 115, 101, 116, 32, 115, 117, 109, 32, 116, 97, 98, 108, 101, 32, 116, 101, 120, 116, 32, 117, 110, 105, 113, 117, 101, 32, 117, 112, 100, 97, 116, 101, 32, 118, 97, 108, 117, 101, 115, 32, 119, 104, 101, 114, 101, 32]⟩
theorem allB_list : allB.data.toList = LX.rall := by decide +kernel
theorem allB_size : allB.size = 227 := by rw [← ba_len, allB_list]; decide +kernel
set_option maxHeartbeats 2000000 in
theorem resWord_any (S : ByteArray) (w : World) (hs : S.size ≤ 140737488355327) : Calls Tryz.prog 78 #[.string S] w fun e w' => e = .returned (.bool (decide (S.data.toList ∈ LX.rsv))) ∧ Fr w w' := by
 obtain ⟨A, hA⟩ : ∃ A : ByteArray, (⟨#[32, 97, 110, 100, 32, 97, 110, 121, 32, 97, 115, 32, 97, 115, 99, 32, 98, 101, 103, 105, 110, 32, 98, 101, 116, 119, 101, 101, 110, 32, 98, 108, 111, 98, 32, 98, 121, 32, 99, 111, 109, 109, 105, 116, 32, 99, 111, 117, 110, 116, 32, 99, 114, 101, 97, 116, 101, 32, 100, 101, 108, 101, 116, 101, 32, 100, 101, 115, 99, 32, 100, 105, 115, 116, 105, 110, 99, 116, 32, 100, 114, 111, 112, 32, 102, 114, 111, 109, 32, 103, 114, 111, 117, 112, 32, 105, 110, 32, 105, 110, 115, 101, 114, 116, 32, 105, 110, 116, 101, 103, 101, 114, 32, 105, 110, 116, 111, 32, 105, 115, 32, 108, 105, 107, 101, 32, 108, 105, 109, 105, 116, 32, 109, 97, 120, 32, 109, 105, 110, 32, 110, 111, 116, 32, 110, 117, 108, 108, 32, 111, 102, 102, 115, 101, 116, 32, 111, 114, 32, 111, 114, 100, 101, 114, 32, 114, 111, 108, 108, 98, 97, 99, 107, 32, 115, 101, 108, 101, 99, 116, 32, 115, 101, 116, 32, 115, 117, 109, 32, 116, 97, 98, 108, 101, 32, 116, 101, 120, 116, 32, 117, 110, 105, 113, 117, 101, 32, 117, 112, 100, 97, 116, 101, 32, 118, 97, 108, 117, 101, 115, 32, 119, 104, 101, 114, 101, 32]⟩ : ByteArray) = A := ⟨_, rfl⟩
 have hAl : A.data.toList = LX.rall := by rw [← hA]; exact allB_list
 have hAs : A.size = 227 := by rw [← hA]; exact allB_size
 have hR := LX.rsv_found S.data.toList
 have hWd := LX.rsv_wd S.data.toList
 have hF := @LX.rsv_of_found S.data.toList
 have hll := ba_len S
 have hrl : LX.rall.length = 227 := by rw [← hAl, ba_len]; exact hAs
 rw [hll, hrl] at hR
 rw [hll, hrl] at hF
 have cw := fun W => isWord_any S W (by omega)
 have HQ : Hid ((⟨#[32]⟩ ++ S ++ ⟨#[32]⟩ : ByteArray).data.toList = 32 :: (S.data.toList ++ [32])) := by
  unfold Hid
  rw [dataApp, dataApp]
  rfl
 have HA : Hid _ := hAl
 have HR : Hid _ := hR
 have HW : Hid _ := hWd
 have HF : Hid _ := hF
 have HH : Hid _ := hA
 clear hAl hR hWd hF hrl
 go_enter Tryz.func78, Tryz.ntmps78
 go_wp2_with fail
 clear hA
 go_loopw [5] (fun iv wr => ∃ (i : Nat), iv = .int .i64 i ∧ i ≤ 300 ∧ (S.data.toList ∈ LX.rsv → i ≤ LX.at_ S.data.toList) ∧ Fr w wr) (fun iv _ => 300 - (intOf iv).toNat)
 case atStart => exact ⟨0, rfl, by omega, fun _ => Nat.zero_le _, Fr.refl _⟩
 case round =>
  obtain ⟨i, rfl, hi, hin, hfr⟩ := hrel
  by_cases hlt : i + S.size + 2 ≤ 227
  ·
   have hz1 : (i : Int) + (S.size : Int) + 2 ≤ 227 := by omega
   have hz2 : (i : Int) ≤ (i : Int) + (S.size : Int) + 2 := by omega
   have hs1 : 1 + S.size ≤ 9223372036854775807 := by omega
   have hs2 : 1 + S.size + 1 ≤ 9223372036854775807 := by omega
   have hP : (A.extract i (i + S.size + 2)).data.toList = (LX.rall.drop i).take (S.size + 2) := by
    rw [← HA.out]
    rw [ByteArray.data_extract, Array.toList_extract, List.extract_eq_take_drop]
    congr 1
    omega
   have HIN : Hid _ := hin
   by_cases hE : A.extract i (i + S.size + 2) = ⟨#[32]⟩ ++ S ++ ⟨#[32]⟩
   ·
    have hfound : (LX.rall.drop i).take (S.size + 2) = 32 :: (S.data.toList ++ [32]) := by rw [← hP, hE]; exact HQ.out
    cases hwd : LX.isWd S.data.toList with
    | true =>
     have hmem := HF.out hwd i hlt hfound
     have HM : Hid (decide (S.data.toList ∈ LX.rsv) = true) := decide_eq_true hmem
     rw [hwd] at cw
     clear hfound hwd hmem hP hin hll
     go_wp2_with fail
     refine (cw _).mono ?_
     rintro _ w1 ⟨rfl, f1⟩
     have F1 : Hid (Fr w w1) := hfr.trans f1
     clear f1 hfr cw hE
     go_wp2_with fail
     go_ret
     exact ⟨by rw [HM.out]; rfl, F1.out⟩
    | false =>
     rw [hwd] at cw
     have HN : Hid (S.data.toList ∈ LX.rsv → i + 1 ≤ LX.at_ S.data.toList) := fun c => by
      have := HW.out c
      rw [hwd] at this
      cases this
     clear hfound hwd hP hin hll
     go_wp2_with fail
     refine (cw _).mono ?_
     rintro _ w1 ⟨rfl, f1⟩
     have F1 : Hid (Fr w w1) := hfr.trans f1
     clear f1 hfr cw hE
     go_wp2_with fail
     go_roundw
     case rel => exact ⟨i + 1, by go_num, by omega, HN.out, F1.out⟩
     case measure => simp [intOf]; omega
   ·
    have hne : ¬ (A.extract i (i + S.size + 2)).toList = (⟨#[32]⟩ ++ S ++ ⟨#[32]⟩ : ByteArray).toList := fun c => hE (by
     rw [Lib.toList_data, Lib.toList_data] at c
     rw [← ba_eta (A.extract i (i + S.size + 2)), c, ba_eta])
    have n1 : ((A.extract i (i + S.size + 2)).toList == (⟨#[32]⟩ ++ S ++ ⟨#[32]⟩ : ByteArray).toList) = false := by simpa using hne
    have HN : Hid (S.data.toList ∈ LX.rsv → i + 1 ≤ LX.at_ S.data.toList) := fun c => by
     have h1 := HIN.out c
     have h2 := (HR.out c).2
     by_cases h3 : i = LX.at_ S.data.toList
     ·
      exfalso
      rw [← h3, ← hP] at h2
      refine hE ?_
      rw [← ba_eta (A.extract i (i + S.size + 2)), h2, ← HQ.out, ba_eta]
     · omega
    clear hP hin hll hE cw
    go_wp2_with fail
    go_roundw
    case rel => exact ⟨i + 1, by go_num, by omega, HN.out, hfr⟩
    case measure => simp [intOf]; omega
  ·
   have hz1 : ¬ ((i : Int) + (S.size : Int) + 2 ≤ 227) := by omega
   have hz3 : (227 : Int) < (i : Int) + (S.size : Int) + 2 := by omega
   have HM : Hid (decide (S.data.toList ∈ LX.rsv) = false) := decide_eq_false (fun c => by
    have h1 := hin c
    have h2 := (HR.out c).1
    omega)
   clear hin hll cw
   go_wp2_with fail
   go_ret
   exact ⟨by rw [HM.out]; rfl, hfr⟩
theorem chkWord_iff (l : List UInt8) : LX.chkWord l = 0 ↔ LX.isWd l = true ∧ l.length ≤ 12 := by
 cases l with
 | nil => exact ⟨fun h => (by cases h), fun h => (by cases h.1)⟩
 | cons b r =>
  have e : LX.chkWord (b :: r) = if LX.small b = true ∧ ((b :: r).all fun c => LX.small c || VS.dig c) = true then (if 12 < (b :: r).length then 2 else 0) else 1 := rfl
  have e2 : LX.isWd (b :: r) = (LX.small b && (b :: r).all fun c => LX.small c || VS.dig c) := rfl
  rw [e, e2, Bool.and_eq_true]
  by_cases h : LX.small b = true ∧ ((b :: r).all fun c => LX.small c || VS.dig c) = true
  ·
   rw [if_pos h]
   by_cases h2 : 12 < (b :: r).length
   · rw [if_pos h2]; exact ⟨fun h3 => (by cases h3), fun h3 => (by omega)⟩
   · rw [if_neg h2]; exact ⟨fun _ => ⟨h, by omega⟩, fun _ => rfl⟩
  · rw [if_neg h]; exact ⟨fun h3 => (by cases h3), fun h3 => absurd h3.1 h⟩
theorem nm_eq (l : List UInt8) : LX.nm l = (LX.isWd l && (decide (l.length ≤ 12) && !decide (l ∈ LX.rsv))) := by
 unfold LX.nm
 rw [← Bool.and_assoc]
 congr 1
 rw [Bool.eq_iff_iff, Bool.and_eq_true, decide_eq_true_eq, decide_eq_true_eq]
 exact chkWord_iff l
set_option maxHeartbeats 2000000 in
theorem nameCheck_any (S : ByteArray) (w : World) (hs : S.size ≤ 140737488355327) : Calls Tryz.prog 58 #[.string S] w fun e w' => e = .returned (.bool (LX.nm S.data.toList)) ∧ Fr w w' := by
 have cw := fun W => isWord_any S W (by omega)
 have cr := fun W => resWord_any S W hs
 rw [nm_eq, ba_len]
 generalize LX.isWd S.data.toList = x1 at *
 generalize decide (S.data.toList ∈ LX.rsv) = x3 at *
 cases x1
 ·
  go_enter Tryz.func58, Tryz.ntmps58
  go_wp2_with fail
  refine (cw _).mono ?_
  rintro _ w1 ⟨rfl, f1⟩
  go_wp2_with fail
  go_ret
  exact ⟨rfl, f1⟩
 ·
  by_cases h2 : S.size ≤ 12
  ·
   rw [decide_eq_true h2]
   have h2' : (S.size : Int) ≤ 12 := by omega
   go_enter Tryz.func58, Tryz.ntmps58
   go_wp2_with fail
   refine (cw _).mono ?_
   rintro _ w1 ⟨rfl, f1⟩
   have F1 := hideP f1
   clear f1
   go_wp2_with fail
   refine (cr _).mono ?_
   rintro _ w2 ⟨rfl, f2⟩
   have F2 := hideP (F1.out.trans f2)
   clear f2
   go_wp2_with fail
   go_ret
   exact ⟨by cases x3 <;> rfl, F2.out⟩
  ·
   rw [decide_eq_false h2]
   have h2' : (12 : Int) < (S.size : Int) := by omega
   go_enter Tryz.func58, Tryz.ntmps58
   go_wp2_with fail
   refine (cw _).mono ?_
   rintro _ w1 ⟨rfl, f1⟩
   have F1 := hideP f1
   clear f1
   go_wp2_with fail
   go_ret
   exact ⟨rfl, F1.out⟩
end Go.Proofs.YtaabandfjdnkjaaGreatDoor
namespace Go.Proofs.YtaabandfjdnkjaaGreatDoor
open Go.ChangeShapes Go.WideShapes Go.ChangeAt Go.RowKit
set_option linter.unusedVariables false
set_option linter.unusedSimpArgs false
set_option maxRecDepth 100000
set_option maxHeartbeats 2000000
theorem least_cell (w : World) (op : Int) (h : 1 ≤ op ∧ op ≤ 25) (h2 : op ≠ 22) (h3 : op ≠ 23) : (w.alloc (.cells #[.int .i64 (-1), .int .i64 0, .int .i64 0, .int .i64 1, .int .i64 1, .int .i64 2, .int .i64 2, .int .i64 2, .int .i64 2, .int .i64 2, .int .i64 2, .int .i64 2, .int .i64 2, .int .i64 2, .int .i64 2, .int .i64 2, .int .i64 2, .int .i64 2, .int .i64 1, .int .i64 1, .int .i64 2, .int .i64 2, .int .i64 2, .int .i64 2, .int .i64 3, .int .i64 3] 3)).cell? ⟨w.heap.size, op.toNat, none⟩ = some (.int .i64 (EX.kl op)) ∧ EX.km op = EX.kl op := by
 have hop : op = 1 ∨ op = 2 ∨ op = 3 ∨ op = 4 ∨ op = 5 ∨ op = 6 ∨ op = 7 ∨ op = 8 ∨ op = 9 ∨ op = 10 ∨ op = 11 ∨ op = 12 ∨ op = 13 ∨ op = 14 ∨ op = 15 ∨ op = 16 ∨ op = 17 ∨ op = 18 ∨ op = 19 ∨ op = 20 ∨ op = 21 ∨ op = 24 ∨ op = 25 := by omega
 have HB := fun i (u : Value) => (Blk.new w #[.int .i64 (-1), .int .i64 0, .int .i64 0, .int .i64 1, .int .i64 1, .int .i64 2, .int .i64 2, .int .i64 2, .int .i64 2, .int .i64 2, .int .i64 2, .int .i64 2, .int .i64 2, .int .i64 2, .int .i64 2, .int .i64 2, .int .i64 2, .int .i64 2, .int .i64 1, .int .i64 1, .int .i64 2, .int .i64 2, .int .i64 2, .int .i64 2, .int .i64 3, .int .i64 3] 3).cell i (u := u)
 clear h h2 h3
 rcases hop with rfl | rfl | rfl | rfl | rfl | rfl | rfl | rfl | rfl | rfl | rfl | rfl | rfl | rfl | rfl | rfl | rfl | rfl | rfl | rfl | rfl | rfl | rfl <;> exact ⟨HB _ _ rfl, by decide⟩
theorem rkidsOf_in (op : Int) (w : World) (h : 1 ≤ op ∧ op ≤ 25) : Calls Tryz.prog 56 #[.int .i64 op] w fun e w' => e = .returned (.tuple #[.int .i64 (EX.kl op), .int .i64 (EX.km op)]) ∧ Fr w w' := by
 have g1 : ¬ op < 1 := by omega
 have g2 : ¬ 25 < op := by omega
 by_cases h22 : op = 22
 ·
  subst h22
  go_enter Tryz.func56, Tryz.ntmps56
  go_wp2_with fail
  go_ret2
  exact ⟨rfl, (Fr.refl _).alloc _⟩
 by_cases h23 : op = 23
 ·
  subst h23
  go_enter Tryz.func56, Tryz.ntmps56
  go_wp2_with fail
  go_ret2
  exact ⟨rfl, (Fr.refl _).alloc _⟩
 obtain ⟨hc, hkm⟩ := least_cell w op h h22 h23
 rw [hkm]
 have e22 : (op == 22) = false := by simpa using h22
 have e23 : (op == 23) = false := by simpa using h23
 have F1 := hideP ((Fr.refl w).alloc (.cells #[.int .i64 (-1), .int .i64 0, .int .i64 0, .int .i64 1, .int .i64 1, .int .i64 2, .int .i64 2, .int .i64 2, .int .i64 2, .int .i64 2, .int .i64 2, .int .i64 2, .int .i64 2, .int .i64 2, .int .i64 2, .int .i64 2, .int .i64 2, .int .i64 2, .int .i64 1, .int .i64 1, .int .i64 2, .int .i64 2, .int .i64 2, .int .i64 2, .int .i64 3, .int .i64 3] 3))
 generalize EX.kl op = kl at *
 have g3 : 0 ≤ op := by omega
 have g4 : op < 26 := by omega
 clear h hkm
 go_enter Tryz.func56, Tryz.ntmps56
 go_upto_region 6 with fail
 generalize w.alloc (.cells #[.int .i64 (-1), .int .i64 0, .int .i64 0, .int .i64 1, .int .i64 1, .int .i64 2, .int .i64 2, .int .i64 2, .int .i64 2, .int .i64 2, .int .i64 2, .int .i64 2, .int .i64 2, .int .i64 2, .int .i64 2, .int .i64 2, .int .i64 2, .int .i64 2, .int .i64 1, .int .i64 1, .int .i64 2, .int .i64 2, .int .i64 2, .int .i64 2, .int .i64 3, .int .i64 3] 3) = W at *
 go_region
 all_goals (
  go_wp2_with fail
  go_ret2
  exact ⟨rfl, by first | exact F1.out.drew | exact F1.out⟩)
theorem rkidsOf_out (op : Int) (w : World) (h : op < 1 ∨ 25 < op) : Calls Tryz.prog 56 #[.int .i64 op] w fun e w' => e = .returned (.tuple #[.int .i64 (-1), .int .i64 (-1)]) ∧ Fr w w' := by
 rcases h with h | h
 ·
  go_enter Tryz.func56, Tryz.ntmps56
  go_wp2_with fail
  go_ret2
  exact ⟨rfl, (Fr.refl _).alloc _⟩
 ·
  have h0 : ¬ op < 1 := by omega
  go_enter Tryz.func56, Tryz.ntmps56
  go_wp2_with fail
  go_ret2
  exact ⟨rfl, (Fr.refl _).alloc _⟩
theorem nodeCheck_any (n : EX.Nd) (w : World) (hn : n.nm.size ≤ 140737488355327) :
  Calls Tryz.prog 38 #[EX.val n] w fun e w' => e = .returned (.int .i64 (EX.nchk n)) ∧ Fr w w' := by
 have hw := nchk_ways n _ rfl
 have hlc : EX.lchk n.v = if VM.chk n.v ≠ 0 then VM.chk n.v else if n.v.n < 0 then 3 else 0 := rfl
 have cl := fun W => rcheck_any n.v.k n.v.n n.v.s W
 have ck := fun W h => rkidsOf_in n.op W h
 have cko := fun W h => rkidsOf_out n.op W h
 have cn := fun W => nameCheck_any n.nm W hn
 rw [show VM.chk ⟨n.v.k, n.v.n, n.v.s⟩ = VM.chk n.v from rfl] at cl
 have hkl : (1 ≤ n.op ∧ n.op ≤ 25) → 0 ≤ EX.kl n.op := fun _ => by unfold EX.kl; (repeat' split) <;> decide
 generalize EX.nchk n = z at *
 generalize VM.chk n.v = vc at *
 generalize EX.lchk n.v = lc at *
 obtain ⟨op, kids, ⟨vk, vn, vs⟩, nm⟩ := n
 simp only [EX.val] at *
 generalize EX.kl op = kl at *
 generalize EX.km op = km at *
 generalize LX.nm nm.data.toList = q at *
 have F0 := fun (o : Obj) => hideP ((Fr.refl w).alloc o)
 rcases hw with ⟨h1, rfl⟩ | ⟨h1, rfl⟩ | ⟨h1, h2, h3, rfl⟩ | ⟨h1, h2, h3, h4, rfl⟩ | ⟨⟨h1, h2, h3, h4⟩, hw⟩
 ·
  have CK := hideP (fun W => cko W (.inl h1))
  clear ck cko hkl hlc
  go_enter Tryz.func38, Tryz.ntmps38
  go_wp2_with fail
  refine (CK.out _).mono ?_
  rintro _ w1 ⟨rfl, f1⟩
  go_wp2_with fail
  go_ret
  exact ⟨rfl, (F0 _).out.trans f1⟩
 ·
  have CK := hideP (fun W => cko W (.inr h1))
  clear ck cko hkl hlc
  go_enter Tryz.func38, Tryz.ntmps38
  go_wp2_with fail
  refine (CK.out _).mono ?_
  rintro _ w1 ⟨rfl, f1⟩
  go_wp2_with fail
  go_ret
  exact ⟨rfl, (F0 _).out.trans f1⟩
 ·
  have CK := hideP (fun W => ck W (by constructor <;> omega))
  have hk0 : ¬ kl < 0 := by have := hkl (by constructor <;> omega); omega
  have HB := hideP (Blk.new w #[.int .i64 op, .int .i64 kids, .int .i64 vk, .int .i64 vn, .string vs, .string nm] 28)
  clear ck cko hkl hlc
  go_enter Tryz.func38, Tryz.ntmps38
  go_wp2_with fail
  refine (CK.out _).mono ?_
  rintro _ w1 ⟨rfl, f1⟩
  have x0 := (HB.out.fr f1).cell 0 rfl
  have x1 := (HB.out.fr f1).cell 1 rfl
  have x2 := (HB.out.fr f1).cell 2 rfl
  have x3 := (HB.out.fr f1).cell 3 rfl
  have x4 := (HB.out.fr f1).cell 4 rfl
  have x5 := (HB.out.fr f1).cell 5 rfl
  have F1 := hideP ((F0 _).out.trans f1)
  go_wp2_with fail
  go_ret
  exact ⟨rfl, F1.out⟩
 ·
  have h3' : ¬ kids < kl := by omega
  have CK := hideP (fun W => ck W (by constructor <;> omega))
  have hk0 : ¬ kl < 0 := by have := hkl (by constructor <;> omega); omega
  have HB := hideP (Blk.new w #[.int .i64 op, .int .i64 kids, .int .i64 vk, .int .i64 vn, .string vs, .string nm] 28)
  clear ck cko hkl hlc
  go_enter Tryz.func38, Tryz.ntmps38
  go_wp2_with fail
  refine (CK.out _).mono ?_
  rintro _ w1 ⟨rfl, f1⟩
  have x0 := (HB.out.fr f1).cell 0 rfl
  have x1 := (HB.out.fr f1).cell 1 rfl
  have x2 := (HB.out.fr f1).cell 2 rfl
  have x3 := (HB.out.fr f1).cell 3 rfl
  have x4 := (HB.out.fr f1).cell 4 rfl
  have x5 := (HB.out.fr f1).cell 5 rfl
  have F1 := hideP ((F0 _).out.trans f1)
  go_wp2_with fail
  go_ret
  exact ⟨rfl, F1.out⟩
 ·
  have h3' : ¬ kids < kl := by omega
  have h4' : ¬ km < kids := by omega
  rcases hw with ⟨a1, a2, rfl⟩ | ⟨rfl, a2, rfl⟩ | ⟨a1, a2, a3, a4, rfl⟩ | ⟨rfl, a2, rfl⟩ | ⟨rfl, a2, rfl⟩ | ⟨a1, a2, a3, a4, rfl⟩
  ·
   have b1 : (op != 1) = true := by simpa using a1
   have b2 : (op == 1) = false := by simpa using a1
   rcases nul_not a2 with c1 | ⟨c1, c2⟩ | ⟨c1, c2, c3⟩
   ·
    simp only at c1
    have d1 : (vk == 0) = false := by simpa using c1
    have d2 : (vk != 0) = true := by simpa using c1
    clear a2
    have CK := hideP (fun W => ck W (by constructor <;> omega))
    have hk0 : ¬ kl < 0 := by have := hkl (by constructor <;> omega); omega
    have HB := hideP (Blk.new w #[.int .i64 op, .int .i64 kids, .int .i64 vk, .int .i64 vn, .string vs, .string nm] 28)
    clear ck cko hkl hlc
    go_enter Tryz.func38, Tryz.ntmps38
    go_wp2_with fail
    refine (CK.out _).mono ?_
    rintro _ w1 ⟨rfl, f1⟩
    have x0 := (HB.out.fr f1).cell 0 rfl
    have x1 := (HB.out.fr f1).cell 1 rfl
    have x2 := (HB.out.fr f1).cell 2 rfl
    have x3 := (HB.out.fr f1).cell 3 rfl
    have x4 := (HB.out.fr f1).cell 4 rfl
    have x5 := (HB.out.fr f1).cell 5 rfl
    have F1 := hideP ((F0 _).out.trans f1)
    go_wp2_with fail
    go_ret
    exact ⟨rfl, F1.out⟩
   ·
    simp only at c1 c2
    subst c1
    have d1 : (vn == 0) = false := by simpa using c2
    have d2 : (vn != 0) = true := by simpa using c2
    clear a2
    have CK := hideP (fun W => ck W (by constructor <;> omega))
    have hk0 : ¬ kl < 0 := by have := hkl (by constructor <;> omega); omega
    have HB := hideP (Blk.new w #[.int .i64 op, .int .i64 kids, .int .i64 0, .int .i64 vn, .string vs, .string nm] 28)
    clear ck cko hkl hlc
    go_enter Tryz.func38, Tryz.ntmps38
    go_wp2_with fail
    refine (CK.out _).mono ?_
    rintro _ w1 ⟨rfl, f1⟩
    have x0 := (HB.out.fr f1).cell 0 rfl
    have x1 := (HB.out.fr f1).cell 1 rfl
    have x2 := (HB.out.fr f1).cell 2 rfl
    have x3 := (HB.out.fr f1).cell 3 rfl
    have x4 := (HB.out.fr f1).cell 4 rfl
    have x5 := (HB.out.fr f1).cell 5 rfl
    have F1 := hideP ((F0 _).out.trans f1)
    go_wp2_with fail
    go_ret
    exact ⟨rfl, F1.out⟩
   ·
    simp only at c1 c2 c3
    subst c1 c2
    obtain ⟨d1, d2, d3⟩ := size_some c3
    clear a2
    have CK := hideP (fun W => ck W (by constructor <;> omega))
    have hk0 : ¬ kl < 0 := by have := hkl (by constructor <;> omega); omega
    have HB := hideP (Blk.new w #[.int .i64 op, .int .i64 kids, .int .i64 0, .int .i64 0, .string vs, .string nm] 28)
    clear ck cko hkl hlc
    go_enter Tryz.func38, Tryz.ntmps38
    go_wp2_with fail
    refine (CK.out _).mono ?_
    rintro _ w1 ⟨rfl, f1⟩
    have x0 := (HB.out.fr f1).cell 0 rfl
    have x1 := (HB.out.fr f1).cell 1 rfl
    have x2 := (HB.out.fr f1).cell 2 rfl
    have x3 := (HB.out.fr f1).cell 3 rfl
    have x4 := (HB.out.fr f1).cell 4 rfl
    have x5 := (HB.out.fr f1).cell 5 rfl
    have F1 := hideP ((F0 _).out.trans f1)
    go_wp2_with fail
    go_ret
    exact ⟨rfl, F1.out⟩
  ·
   obtain ⟨d1, d2, d3⟩ := size_some a2
   clear a2
   have CK := hideP (fun W => ck W (by constructor <;> omega))
   have hk0 : ¬ kl < 0 := by have := hkl (by constructor <;> omega); omega
   have HB := hideP (Blk.new w #[.int .i64 1, .int .i64 kids, .int .i64 vk, .int .i64 vn, .string vs, .string nm] 28)
   clear ck cko hkl hlc
   go_enter Tryz.func38, Tryz.ntmps38
   go_wp2_with fail
   refine (CK.out _).mono ?_
   rintro _ w1 ⟨rfl, f1⟩
   have x0 := (HB.out.fr f1).cell 0 rfl
   have x1 := (HB.out.fr f1).cell 1 rfl
   have x2 := (HB.out.fr f1).cell 2 rfl
   have x3 := (HB.out.fr f1).cell 3 rfl
   have x4 := (HB.out.fr f1).cell 4 rfl
   have x5 := (HB.out.fr f1).cell 5 rfl
   have F1 := hideP ((F0 _).out.trans f1)
   go_wp2_with fail
   go_ret
   exact ⟨rfl, F1.out⟩
  ·
   obtain ⟨d1, d2, d3⟩ := size_some a4
   have hv := nul_of a3
   simp only [EX.nul, VM.Vl.mk.injEq] at hv
   obtain ⟨rfl, rfl, rfl⟩ := hv
   have b1 : (op != 1) = true := by simpa using a1
   have b3 : (op != 2) = true := by simpa using a2
   clear a3 a4
   have CK := hideP (fun W => ck W (by constructor <;> omega))
   have hk0 : ¬ kl < 0 := by have := hkl (by constructor <;> omega); omega
   have HB := hideP (Blk.new w #[.int .i64 op, .int .i64 kids, .int .i64 0, .int .i64 0, .string ⟨#[]⟩, .string nm] 28)
   clear ck cko hkl hlc
   go_enter Tryz.func38, Tryz.ntmps38
   go_wp2_with fail
   refine (CK.out _).mono ?_
   rintro _ w1 ⟨rfl, f1⟩
   have x0 := (HB.out.fr f1).cell 0 rfl
   have x1 := (HB.out.fr f1).cell 1 rfl
   have x2 := (HB.out.fr f1).cell 2 rfl
   have x3 := (HB.out.fr f1).cell 3 rfl
   have x4 := (HB.out.fr f1).cell 4 rfl
   have x5 := (HB.out.fr f1).cell 5 rfl
   have F1 := hideP ((F0 _).out.trans f1)
   go_wp2_with fail
   go_ret
   exact ⟨rfl, F1.out⟩
  ·
   obtain rfl := size_nil a2
   clear a2
   by_cases hv0 : vc = 0
   ·
    subst hv0
    by_cases hvn : vn < 0
    ·
     obtain rfl : z = 3 := hlc.trans ((if_neg (by simp)).trans (if_pos hvn))
     have CK := hideP (fun W => ck W (by constructor <;> omega))
     have hk0 : ¬ kl < 0 := by have := hkl (by constructor <;> omega); omega
     have HB := hideP (Blk.new w #[.int .i64 1, .int .i64 kids, .int .i64 vk, .int .i64 vn, .string vs, .string ⟨#[]⟩] 28)
     clear ck cko hkl hlc
     go_enter Tryz.func38, Tryz.ntmps38
     go_wp2_with fail
     refine (CK.out _).mono ?_
     rintro _ w1 ⟨rfl, f1⟩
     have x0 := (HB.out.fr f1).cell 0 rfl
     have x1 := (HB.out.fr f1).cell 1 rfl
     have x2 := (HB.out.fr f1).cell 2 rfl
     have x3 := (HB.out.fr f1).cell 3 rfl
     have x4 := (HB.out.fr f1).cell 4 rfl
     have x5 := (HB.out.fr f1).cell 5 rfl
     have F1 := hideP ((F0 _).out.trans f1)
     go_wp2_with fail
     refine (cl _).mono ?_
     rintro _ w2 ⟨rfl, f2⟩
     have y0 := (HB.out.fr (f1.trans f2)).cell 0 rfl
     have y3 := (HB.out.fr (f1.trans f2)).cell 3 rfl
     have F2 := hideP (F1.out.trans f2)
     clear f2
     go_wp2_with fail
     go_ret
     exact ⟨rfl, F2.out⟩
    ·
     obtain rfl : z = 0 := hlc.trans ((if_neg (by simp)).trans (if_neg hvn))
     have CK := hideP (fun W => ck W (by constructor <;> omega))
     have hk0 : ¬ kl < 0 := by have := hkl (by constructor <;> omega); omega
     have HB := hideP (Blk.new w #[.int .i64 1, .int .i64 kids, .int .i64 vk, .int .i64 vn, .string vs, .string ⟨#[]⟩] 28)
     clear ck cko hkl hlc
     go_enter Tryz.func38, Tryz.ntmps38
     go_wp2_with fail
     refine (CK.out _).mono ?_
     rintro _ w1 ⟨rfl, f1⟩
     have x0 := (HB.out.fr f1).cell 0 rfl
     have x1 := (HB.out.fr f1).cell 1 rfl
     have x2 := (HB.out.fr f1).cell 2 rfl
     have x3 := (HB.out.fr f1).cell 3 rfl
     have x4 := (HB.out.fr f1).cell 4 rfl
     have x5 := (HB.out.fr f1).cell 5 rfl
     have F1 := hideP ((F0 _).out.trans f1)
     go_wp2_with fail
     refine (cl _).mono ?_
     rintro _ w2 ⟨rfl, f2⟩
     have y0 := (HB.out.fr (f1.trans f2)).cell 0 rfl
     have y3 := (HB.out.fr (f1.trans f2)).cell 3 rfl
     have F2 := hideP (F1.out.trans f2)
     clear f2
     go_wp2_with fail
     go_ret
     exact ⟨rfl, F2.out⟩
   ·
    obtain rfl : z = vc := hlc.trans (if_pos hv0)
    have e1 : ((z : Int) != 0) = true := by simp; omega
    have e2 : ¬ ((z : Int) = 0) := by omega
    have CK := hideP (fun W => ck W (by constructor <;> omega))
    have hk0 : ¬ kl < 0 := by have := hkl (by constructor <;> omega); omega
    have HB := hideP (Blk.new w #[.int .i64 1, .int .i64 kids, .int .i64 vk, .int .i64 vn, .string vs, .string ⟨#[]⟩] 28)
    clear ck cko hkl hlc
    go_enter Tryz.func38, Tryz.ntmps38
    go_wp2_with fail
    refine (CK.out _).mono ?_
    rintro _ w1 ⟨rfl, f1⟩
    have x0 := (HB.out.fr f1).cell 0 rfl
    have x1 := (HB.out.fr f1).cell 1 rfl
    have x2 := (HB.out.fr f1).cell 2 rfl
    have x3 := (HB.out.fr f1).cell 3 rfl
    have x4 := (HB.out.fr f1).cell 4 rfl
    have x5 := (HB.out.fr f1).cell 5 rfl
    have F1 := hideP ((F0 _).out.trans f1)
    go_wp2_with fail
    refine (cl _).mono ?_
    rintro _ w2 ⟨rfl, f2⟩
    have y0 := (HB.out.fr (f1.trans f2)).cell 0 rfl
    have y3 := (HB.out.fr (f1.trans f2)).cell 3 rfl
    have F2 := hideP (F1.out.trans f2)
    clear f2
    go_wp2_with fail
    go_ret
    exact ⟨rfl, F2.out⟩
  ·
   have hv := nul_of a2
   simp only [EX.nul, VM.Vl.mk.injEq] at hv
   obtain ⟨rfl, rfl, rfl⟩ := hv
   clear a2
   cases q
   ·
    have CK := hideP (fun W => ck W (by constructor <;> omega))
    have hk0 : ¬ kl < 0 := by have := hkl (by constructor <;> omega); omega
    have HB := hideP (Blk.new w #[.int .i64 2, .int .i64 kids, .int .i64 0, .int .i64 0, .string ⟨#[]⟩, .string nm] 28)
    clear ck cko hkl hlc
    go_enter Tryz.func38, Tryz.ntmps38
    go_wp2_with fail
    refine (CK.out _).mono ?_
    rintro _ w1 ⟨rfl, f1⟩
    have x0 := (HB.out.fr f1).cell 0 rfl
    have x1 := (HB.out.fr f1).cell 1 rfl
    have x2 := (HB.out.fr f1).cell 2 rfl
    have x3 := (HB.out.fr f1).cell 3 rfl
    have x4 := (HB.out.fr f1).cell 4 rfl
    have x5 := (HB.out.fr f1).cell 5 rfl
    have F1 := hideP ((F0 _).out.trans f1)
    go_wp2_with fail
    refine (cn _).mono ?_
    rintro _ w2 ⟨rfl, f2⟩
    have y0 := (HB.out.fr (f1.trans f2)).cell 0 rfl
    have y3 := (HB.out.fr (f1.trans f2)).cell 3 rfl
    have F2 := hideP (F1.out.trans f2)
    clear f2
    go_wp2_with fail
    go_ret
    exact ⟨rfl, F2.out⟩
   ·
    have CK := hideP (fun W => ck W (by constructor <;> omega))
    have hk0 : ¬ kl < 0 := by have := hkl (by constructor <;> omega); omega
    have HB := hideP (Blk.new w #[.int .i64 2, .int .i64 kids, .int .i64 0, .int .i64 0, .string ⟨#[]⟩, .string nm] 28)
    clear ck cko hkl hlc
    go_enter Tryz.func38, Tryz.ntmps38
    go_wp2_with fail
    refine (CK.out _).mono ?_
    rintro _ w1 ⟨rfl, f1⟩
    have x0 := (HB.out.fr f1).cell 0 rfl
    have x1 := (HB.out.fr f1).cell 1 rfl
    have x2 := (HB.out.fr f1).cell 2 rfl
    have x3 := (HB.out.fr f1).cell 3 rfl
    have x4 := (HB.out.fr f1).cell 4 rfl
    have x5 := (HB.out.fr f1).cell 5 rfl
    have F1 := hideP ((F0 _).out.trans f1)
    go_wp2_with fail
    refine (cn _).mono ?_
    rintro _ w2 ⟨rfl, f2⟩
    have y0 := (HB.out.fr (f1.trans f2)).cell 0 rfl
    have y3 := (HB.out.fr (f1.trans f2)).cell 3 rfl
    have F2 := hideP (F1.out.trans f2)
    clear f2
    go_wp2_with fail
    go_ret
    exact ⟨rfl, F2.out⟩
  ·
   obtain rfl := size_nil a4
   have hv := nul_of a3
   simp only [EX.nul, VM.Vl.mk.injEq] at hv
   obtain ⟨rfl, rfl, rfl⟩ := hv
   have b1 : (op != 1) = true := by simpa using a1
   have b2 : (op == 1) = false := by simpa using a1
   have b3 : (op != 2) = true := by simpa using a2
   have b4 : (op == 2) = false := by simpa using a2
   clear a3 a4
   have CK := hideP (fun W => ck W (by constructor <;> omega))
   have hk0 : ¬ kl < 0 := by have := hkl (by constructor <;> omega); omega
   have HB := hideP (Blk.new w #[.int .i64 op, .int .i64 kids, .int .i64 0, .int .i64 0, .string ⟨#[]⟩, .string ⟨#[]⟩] 28)
   clear ck cko hkl hlc
   go_enter Tryz.func38, Tryz.ntmps38
   go_wp2_with fail
   refine (CK.out _).mono ?_
   rintro _ w1 ⟨rfl, f1⟩
   have x0 := (HB.out.fr f1).cell 0 rfl
   have x1 := (HB.out.fr f1).cell 1 rfl
   have x2 := (HB.out.fr f1).cell 2 rfl
   have x3 := (HB.out.fr f1).cell 3 rfl
   have x4 := (HB.out.fr f1).cell 4 rfl
   have x5 := (HB.out.fr f1).cell 5 rfl
   have F1 := hideP ((F0 _).out.trans f1)
   go_wp2_with fail
   go_ret
   exact ⟨rfl, F1.out⟩
end Go.Proofs.YtaabandfjdnkjaaGreatDoor
namespace Go.Proofs.YtaabandfjdnkjaaGreatDoor
open Go.ChangeShapes Go.WideShapes Go.ChangeAt Go.RowKit
set_option linter.unusedVariables false
set_option linter.unusedSimpArgs false
set_option maxRecDepth 100000
set_option maxHeartbeats 4000000
theorem EX.ck_eq (e : List EX.Nd) : EX.ck e = if 60 < e.length then 2 else if e.length = 0 then 1 else match EX.up EX.dOf e [] with
  | .error c => c
  | .ok out => if 1 < out.length then 1 else if 12 < out.headD 0 then 10 else 0 := by
 unfold EX.ck EX.dep
 split
 ·
  rename_i c hc
  split at hc
  · cases hc; rename_i h; rw [if_pos h]
  rename_i h1
  split at hc
  · cases hc; rename_i h; rw [if_neg h1, if_pos h]
  rename_i h2
  rw [if_neg h1, if_neg h2]
  split at hc
  · rename_i hu; cases hc; rw [hu]
  ·
   rename_i out hu
   rw [hu]
   split at hc
   · cases hc; rename_i h; simp only [if_pos h]
   rename_i h3
   split at hc
   · cases hc; rename_i h; simp only [if_neg h3, if_pos h]
   · cases hc
 ·
  rename_i y hc
  split at hc
  · cases hc
  rename_i h1
  split at hc
  · cases hc
  rename_i h2
  rw [if_neg h1, if_neg h2]
  split at hc
  · cases hc
  ·
   rename_i out hu
   rw [hu]
   split at hc
   · cases hc
   rename_i h3
   split at hc
   · cases hc
   · rename_i h4; simp only [if_neg h3, if_neg h4]
theorem EX.mx_drop (l : List Nat) (k : Nat) (h : k < l.length) : EX.mx (l.drop (l.length - (k + 1))) = max (l[l.length - (k + 1)]'(by omega)) (EX.mx (l.drop (l.length - k))) := by
 rw [List.drop_eq_getElem_cons (show l.length - (k + 1) < l.length by omega), show l.length - (k + 1) + 1 = l.length - k by omega]
 generalize l.drop (l.length - k) = r
 generalize l[l.length - (k + 1)] = x
 unfold EX.mx
 simp only [List.foldl_cons]
 have key : ∀ (r : List Nat) (a : Nat), r.foldl max a = max a (r.foldl max 0) := by
  intro r
  induction r with
  | nil => intro a; simp
  | cons y r ih =>
   intro a
   simp only [List.foldl_cons]
   rw [ih (max a y), ih (max 0 y)]
   omega
 rw [key r (max 0 x)]
 omega
theorem rexprCheck_any (v : Value) (e : List EX.Nd) (w : World) (h : IsL cdN w v e) (hn : ∀ n ∈ e, n.nm.size ≤ 140737488355327) (hl : e.length ≤ 9223372036854775806) :
  Calls Tryz.prog 14 #[v] w fun r w' => r = .returned (.int .i64 (EX.ck e)) ∧ Fr w w' := by
 have HZ := hideP (EX.ck_eq e)
 generalize EX.ck e = z at *
 obtain ⟨a, cap, rfl, hcap, hcs⟩ := h
 have HC := hideP hcs
 have HN := hideP hn
 clear hcs hn
 obtain ⟨i0, hi0, hz0, hz1, hz2⟩ := info_parts Tryz.infoElem
 by_cases h60 : 60 < e.length
 ·
  have h60' : (60 : Int) < (e.length : Int) := by omega
  replace HZ := hideP (HZ.out.trans (if_pos h60))
  go_enter Tryz.func14, Tryz.ntmps14
  go_wp2_with fail
  go_ret
  exact ⟨ret_int (by rw [HZ.out]; rfl), Fr.refl _⟩
 have h60' : ¬ (60 : Int) < (e.length : Int) := by omega
 replace HZ := hideP (HZ.out.trans (if_neg h60))
 by_cases h0 : e.length = 0
 ·
  replace HZ := hideP (HZ.out.trans (if_pos h0))
  rw [h0] at h60' ⊢
  go_enter Tryz.func14, Tryz.ntmps14
  go_wp2_with fail
  go_ret
  exact ⟨ret_int (by rw [HZ.out]; rfl), Fr.refl _⟩
 have h0' : ¬ ((e.length : Int) = 0) := by omega
 have h0b : ((e.length : Int) == 0) = false := by rw [beq_eq_false_iff_ne]; exact h0'
 replace HZ := hideP (HZ.out.trans (if_neg h0))
 have HPos := hideP (fun out (h1 : EX.up EX.dOf e [] = .ok out) => EX.up_pos e [] out h1 (.inl (fun h3 => h0 (by rw [h3]; rfl))))
 clear h0
 go_enter Tryz.func14, Tryz.ntmps14
 go_wp2_with fail
 go_loopw [3, 4, 5, 6, 7, 8] (fun fv iv _ _ _ _ wr => ∃ (i : Nat) (free : List Nat), iv = .int .i64 i ∧ i ≤ e.length ∧ EX.up EX.dOf e [] = EX.up EX.dOf (e.drop i) free ∧ wr.ownsRow w.heap.size 3 1 fv free.length (flat cdI free) ∧ Fr w wr ∧ (∀ x ∈ free, x ≤ i) ∧ free.length ≤ i) (fun _ iv _ _ _ _ _ => e.length - (intOf iv).toNat)
 case atStart => exact ⟨0, [], rfl, Nat.zero_le _, rfl, World.ownsRow_nil _ _ _ _, Fr.refl _, fun x hx => by simp at hx, Nat.le_refl _⟩
 case round =>
  obtain ⟨i, free, rfl, hi, hall, hown, hfr, hbd, hfl⟩ := hrel
  obtain ⟨fa, fc, rfl⟩ := own_slice hown
  have HA := hideP hall
  have HO := hideP hown
  have HF := hideP hfr
  have HBd := hideP hbd
  obtain ⟨L, hL⟩ : ∃ L, free.length = L := ⟨_, rfl⟩
  have HL := hideP hL
  rw [hL] at HO hfl ⊢
  clear hall hown hfr hbd hL
  by_cases hlt : i < e.length
  ·
   have hlt' : (i : Int) < (e.length : Int) := by omega
   obtain ⟨b, o, rfl, hb, hc⟩ : ∃ b o, a = some ⟨b, o, none⟩ ∧ b < w.heap.size ∧ At cdN w b o e := by
    rcases HC.out with h | h
    · rw [h] at hlt; simp at hlt
    · exact h
   obtain ⟨c0, c1, c2, c3, c4, c5⟩ := (hc.fr hb HF.out).nd i hlt
   have HC1 := hideP (fun W (g : Fr w W) => ((hc.fr hb g).nd i hlt).2.1)
   have hn := HN.out e[i] (List.getElem_mem hlt)
   rw [List.drop_eq_getElem_cons hlt] at HA
   generalize e[i] = n at *
   have HNc := hideP (fun W => nodeCheck_any n W hn)
   have hk0 := fun h => EX.kids_nonneg (n := n) h
   have hk7 : EX.nchk n = 0 → n.kids ≤ 7 := fun h => by
    unfold EX.nchk at h
    split at h
    · cases h
    split at h
    · cases h
    have : EX.km n.op ≤ 7 := by unfold EX.km; (repeat' split) <;> decide
    omega
   have hup : EX.up EX.dOf (n :: e.drop (i + 1)) free = match EX.dOf n (free.drop (L - n.kids.toNat)) with
     | .error c => .error c
     | .ok x => EX.up EX.dOf (e.drop (i + 1)) (free.take (L - n.kids.toNat) ++ [x]) := by
    rw [EX.up]
    simp only [HL.out]
    cases EX.dOf n (free.drop (L - n.kids.toNat)) <;> rfl
   rw [hup] at HA
   have hdof : EX.dOf n (free.drop (L - n.kids.toNat)) = if EX.nchk n ≠ 0 then .error (EX.nchk n) else if ((free.drop (L - n.kids.toNat)).length : Int) < n.kids then .error 1 else .ok (EX.mx (free.drop (L - n.kids.toNat)) + 1) := rfl
   rw [hdof, List.length_drop, HL.out] at HA
   generalize EX.nchk n = nz at *
   obtain ⟨op, kids, ⟨vk, vn, vs⟩, nm⟩ := n
   simp only [EX.val] at c0 c1 c2 c3 c4 c5 HNc HC1 HA hk0 hk7
   clear hc hn hup hdof
   by_cases hnz : nz = 0
   case neg =>
    rw [if_pos hnz] at HA
    have HZ2 : Hid (z = nz) := by
     refine HZ.out.trans ?_
     rw [HA.out]
    have e1 : ((nz : Int) != 0) = true := by simp; omega
    have e2 : ¬ ((nz : Int) = 0) := by omega
    go_wp2_with fail
    refine (HNc.out _).mono ?_
    rintro _ w2 ⟨rfl, f2⟩
    go_wp2_with fail
    go_ret
    exact ⟨ret_int (by rw [HZ2.out]), HF.out.trans f2⟩
   subst hnz
   obtain ⟨K, rfl⟩ : ∃ K : Nat, kids = (K : Int) := ⟨kids.toNat, by have := hk0 rfl; omega⟩
   have hK7 : K ≤ 7 := by have := hk7 rfl; omega
   simp only [Int.toNat_natCast] at HA
   rw [if_neg (by simp)] at HA
   clear hk0 hk7
   by_cases hLK : L < K
   ·
    have hLK' : (L : Int) < (K : Int) := by omega
    rw [if_pos (show (((L - (L - K) : Nat)) : Int) < (K : Int) by omega)] at HA
    have HZ2 : Hid (z = 1) := by
     refine HZ.out.trans ?_
     rw [HA.out]
    go_wp2_with fail
    refine (HNc.out _).mono ?_
    rintro _ w2 ⟨rfl, f2⟩
    have c1 := HC1.out w2 (HF.out.trans f2)
    go_wp2_with fail
    go_ret
    exact ⟨ret_int (by rw [HZ2.out]; rfl), HF.out.trans f2⟩
   ·
    have hLK' : ¬ (L : Int) < (K : Int) := by omega
    rw [if_neg (show ¬ (((L - (L - K) : Nat)) : Int) < (K : Int) by omega)] at HA
    go_wp2_with fail
    refine (HNc.out _).mono ?_
    rintro _ w2 ⟨rfl, f2⟩
    have F2 := hideP (HF.out.trans f2)
    have HO2 := hideP (own_fr HO.out f2)
    have c1 := HC1.out w2 F2.out
    clear f2 c0 c2 c3 c4 c5
    go_wp2_with fail
    clear c1
    go_loopw [3, 6, 7, 8] (fun dv mv kv _ wr => ∃ k : Nat, kv = .int .i64 k ∧ k ≤ K ∧ dv = .slice fa (L - k) fc ∧ mv = .int .i64 ((EX.mx (free.drop (L - k)) : Nat) : Int) ∧ wr = w2) (fun _ _ kv _ _ => K - (intOf kv).toNat)
    case atStart => exact ⟨0, rfl, Nat.zero_le _, rfl, by
     rw [Nat.sub_zero, ← HL.out, List.drop_length]; rfl, rfl⟩
    case round =>
     obtain ⟨k, rfl, hk, rfl, rfl, rfl⟩ := hrel
     have c1 := HC1.out _ F2.out
     by_cases hkl : k < K
     ·
      have hkl' : (k : Int) < (K : Int) := by omega
      obtain ⟨m, hm⟩ : ∃ m, L - k = m + 1 := ⟨L - k - 1, by omega⟩
      have HM := hideP hm
      obtain ⟨ga, gc, hge, hgc, hgg⟩ := isL_own (E := cdI) (l := free) (by rw [HL.out]; exact HO2.out)
      have hge' : fa = ga ∧ fc = gc := by
       injection hge with h1 h2 h3
       exact ⟨h1, h3⟩
      obtain ⟨rfl, rfl⟩ := hge'
      obtain ⟨g, og, rfl, hgb, hgat⟩ : ∃ b o, fa = some ⟨b, o, none⟩ ∧ b < wr.heap.size ∧ At cdI wr b o free := by
       rcases hgg with h | h
       ·
        have := HL.out
        rw [h] at this
        simp at this
        omega
       · exact h
      have hml : m < free.length := by rw [HL.out]; omega
      have d0 := hgat.i1 m hml
      have hmx := EX.mx_drop free k (by rw [HL.out]; omega)
      have hfm : free.length - (k + 1) = m := by rw [HL.out]; omega
      have hbm := HBd.out free[m] (List.getElem_mem hml)
      have hx : (free[free.length - (k + 1)]'(by omega)) = free[m] := by congr 1
      rw [hx, hfm, HL.out, hm] at hmx
      have hgc' : L ≤ fc := by rw [← HL.out]; exact hgc
      rw [hm] at ⊢
      generalize free[m] = x at *
      generalize hq : EX.mx (free.drop (m + 1)) = q at *
      have HX := hideP hmx
      have hx1 : (1 : Int) ≤ (m : Int) + 1 := by omega
      have hx4 : (m : Int) ≤ 60 := by omega
      have hx2 : (m : Int) + 1 ≤ (fc : Int) := by omega
      have hx3 : (m : Int) ≤ (fc : Int) := by omega
      have HK1 : Hid (L - (k + 1) = m) := by unfold Hid; omega
      clear hgat hgg hge hmx hfm hm hx
      by_cases hgt : q < x
      ·
       have hgt' : (q : Int) < (x : Int) := by omega
       go_wp2_with fail
       go_roundw
       case rel => exact ⟨k + 1, by go_num, by omega, by rw [HK1.out], by rw [HK1.out, HX.out]; congr 2; omega, by first | rfl | trivial⟩
       case measure => simp [intOf]; omega
      ·
       have hgt' : ¬ (q : Int) < (x : Int) := by omega
       go_wp2_with fail
       go_roundw
       case rel => exact ⟨k + 1, by go_num, by omega, by rw [HK1.out], by rw [HK1.out, HX.out]; congr 2; omega, by first | rfl | trivial⟩
       case measure => simp [intOf]; omega
     ·
      obtain rfl : k = K := by omega
      have hkl' : ((k : Int) < (k : Int)) = False := by simp
      have hqb : EX.mx (free.drop (L - k)) ≤ i := EX.mx_le (fun y hy => HBd.out y (List.mem_of_mem_drop hy))
      have HTk := hideP (show wr.ownsRow w.heap.size 3 1 (.slice fa (L - k) fc) (L - k) (flat cdI (free.take (L - k))) from by
       have h := own_take (m := L - k) HO2.out (by omega) (by decide)
       have e9 := flat_take cdI free (L - k) (by rw [HL.out]; omega)
       rw [← e9]
       exact h)
      have HOk : Hid (∀ y ∈ free.take (L - k) ++ [EX.mx (free.drop (L - k)) + 1], y ≤ i + 1) := by
       intro y hy
       rcases List.mem_append.1 hy with h | h
       · have := HBd.out y (List.mem_of_mem_take h); omega
       ·
        obtain rfl : y = _ := by simpa using h
        omega
      have HLn : Hid ((free.take (L - k) ++ [EX.mx (free.drop (L - k)) + 1]).length = L - k + 1) := by
       unfold Hid
       rw [List.length_append, List.length_take, HL.out, Nat.min_eq_left (by omega)]
       rfl
      generalize hq : EX.mx (free.drop (L - k)) = q at *
      generalize hM : L - k = M at *
      have hMb : M ≤ 60 := by omega
      have hMi : M ≤ i := by omega
      have HLit := hideP (fun (W : World) => show IsL cdI (W.alloc (.cells #[.int .i64 ((q : Int) + 1)] 3)) (.slice (some ⟨W.heap.size, 0, none⟩) 1 1) [q + 1] from by
       have h := lit_one cdI W (q + 1) 3
       have e9 : (cdI.c (q + 1)).toArray = #[.int .i64 ((q : Int) + 1)] := by simp [cdI]
       rw [e9] at h
       exact h)
      have HZq : Hid (EX.up EX.dOf e [] = EX.up EX.dOf (e.drop (i + 1)) (free.take M ++ [q + 1])) := HA.out
      have FA := hideP (fun (W : World) => (Fr.refl W).alloc (.cells #[.int .i64 ((q : Int) + 1)] 3))
      have hq1 : (q : Int) + 1 ≤ 1000 := by omega
      have hq2 : 0 ≤ (q : Int) + 1 := by omega
      have hszw := F2.out.size
      clear hq hM HA
      go_wp2_with (at_builtin; refine wpList_append_L cdI rfl _ _ 47 3 i0 _ 8 rfl Tryz.underlying47 hi0 hz0 hz1 hz2 rfl w.heap.size _ M _ rfl (own_fr HTk.out (FA.out wr)) _ [q + 1] rfl (HLit.out wr) ?c3 ?c4 ?c5 ?_)
      case c3 => unfold maxLen; simp <;> omega
      case c4 => simp <;> omega
      case c5 => simp <;> omega
      intro v5 wB own5 gr5
      have FB := hideP (show Fr w wB from Below.grown (F2.out.trans (FA.out wr)) gr5 (Nat.le_trans F2.out.size (by simp)) (own_base (own_fr HTk.out (FA.out wr))))
      have HN5 := hideP (show wB.ownsRow w.heap.size 3 1 v5 (free.take M ++ [q + 1]).length (flat cdI (free.take M ++ [q + 1])) from by
       rw [HLn.out]
       exact own5)
      clear own5 gr5
      go_wp2_with fail
      go_roundw
      case rel => exact ⟨i + 1, free.take M ++ [q + 1], by go_num, by omega, HZq.out, HN5.out, FB.out, HOk.out, by rw [HLn.out]; omega⟩
      case measure => simp [intOf]; omega
  ·
   obtain rfl : i = e.length := by omega
   have hlt' : ((e.length : Int) < (e.length : Int)) = False := by simp
   have hok : EX.up EX.dOf e [] = .ok free := by
    rw [HA.out, List.drop_length]
    rfl
   have hpos := HPos.out free hok
   replace HZ := hideP (show z = if 1 < free.length then 1 else if 12 < free.headD 0 then 10 else 0 from by
    refine HZ.out.trans ?_
    rw [hok])
   rw [HL.out] at HZ
   have hL0 : L ≠ 0 := fun h => hpos (List.length_eq_zero_iff.1 (by rw [HL.out]; exact h))
   clear hok
   by_cases hL1 : L = 1
   ·
    subst hL1
    replace HZ := hideP (HZ.out.trans (if_neg (by omega)))
    obtain ⟨x, rfl⟩ : ∃ x, free = [x] := by
     match free, HL.out with
     | [x], _ => exact ⟨x, rfl⟩
    obtain ⟨ga, gc, hge, hgc, hgg⟩ := isL_own (E := cdI) (l := [x]) HO.out
    cases hge
    obtain ⟨g, og, rfl, hgb, hgat⟩ : ∃ b o, fa = some ⟨b, o, none⟩ ∧ b < wr.heap.size ∧ At cdI wr b o [x] := by
     rcases hgg with h | h
     · cases h
     · exact h
    have d0 := hgat.i1 0 (by simp)
    simp only [List.getElem_cons_zero, Nat.add_zero] at d0
    simp only [List.headD_cons] at HZ
    clear hgat hgg hpos
    by_cases h12 : 12 < x
    ·
     have h12' : (12 : Int) < (x : Int) := by omega
     replace HZ := hideP (HZ.out.trans (if_pos h12))
     go_wp2_with fail
     go_ret
     exact ⟨ret_int (by rw [HZ.out]; rfl), HF.out⟩
    ·
     have h12' : ¬ (12 : Int) < (x : Int) := by omega
     replace HZ := hideP (HZ.out.trans (if_neg h12))
     go_wp2_with fail
     go_ret
     exact ⟨ret_int (by rw [HZ.out]; rfl), HF.out⟩
   ·
    replace HZ := hideP (HZ.out.trans (if_pos (by omega)))
    have e1 : ((L : Int) != 1) = true := by simp; omega
    have e2 : ¬ ((L : Int) = 1) := by omega
    go_wp2_with fail
    go_ret
    exact ⟨ret_int (by rw [HZ.out]; rfl), HF.out⟩
end Go.Proofs.YtaabandfjdnkjaaGreatDoor
