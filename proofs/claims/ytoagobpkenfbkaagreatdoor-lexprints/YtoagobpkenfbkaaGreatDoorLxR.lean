/-
  quotedSize, blobSize: how many bytes a literal takes.
-/
import Derived.Test.YtoagobpkenfbkaaGreatDoorLxQ
namespace Go.Proofs.YtoagobpkenfbkaaGreatDoor
open Go.ChangeShapes Go.WideShapes Go.ChangeAt Go.RowKit
set_option linter.unusedVariables false
set_option linter.unusedSimpArgs false
set_option maxRecDepth 100000

theorem hexClo_any (b : UInt8) (w : World) : Calls Tryz.prog 60 #[.int .u8 (b.toNat : Int)] w fun e w' => e = .returned (.bool (LX.hexd b)) ∧ w' = w := by
  have hs := fun W => isDigit_any b W
  obtain ⟨q, hq⟩ : ∃ q, LX.hexd b = q := ⟨_, rfl⟩
  rw [hq]
  cases hb : VS.dig b with
  | true =>
    have HE : Hid (q = true) := by unfold Hid; rw [← hq]; exact LX.hexd_iff.2 (Or.inl (LX.dig_iff.1 hb))
    rw [hb] at hs
    clear hq hb
    go_enter Tryz.func60, Tryz.ntmps60
    go_wp2_with fail
    refine (hs _).mono ?_
    rintro _ w1 ⟨rfl, rfl⟩
    go_wp2_with fail
    go_ret
    exact ⟨by rw [HE.out]; rfl, by first | rfl | trivial⟩
  | false =>
    have hnd : ¬ (48 ≤ b.toNat ∧ b.toNat ≤ 57) := fun h => by rw [LX.dig_iff.2 h] at hb; cases hb
    rw [hb] at hs
    have hw : b.toNat < 65 ∨ (65 ≤ b.toNat ∧ b.toNat ≤ 70) ∨ (70 < b.toNat ∧ b.toNat < 97) ∨ (97 ≤ b.toNat ∧ b.toNat ≤ 102) ∨ 102 < b.toNat := by omega
    clear hb
    rcases hw with h | ⟨h1, h2⟩ | ⟨h1, h2⟩ | ⟨h1, h2⟩ | h
    · have HE : Hid (q = false) := by unfold Hid; rw [← hq]; exact LX.not_true (fun h' => by have := LX.hexd_iff.1 h'; omega)
      have a97 : (b.toNat : Int) < 97 := by omega
      have b97 : decide ((97 : Int) ≤ (b.toNat : Int)) = false := by rw [decide_eq_false_iff_not]; omega
      have c97 : ((97 : Int) ≤ (b.toNat : Int)) = False := by simp; omega
      have a65 : (b.toNat : Int) < 65 := by omega
      have b65 : decide ((65 : Int) ≤ (b.toNat : Int)) = false := by rw [decide_eq_false_iff_not]; omega
      have c65 : ((65 : Int) ≤ (b.toNat : Int)) = False := by simp; omega
      clear hq hnd
      go_enter Tryz.func60, Tryz.ntmps60
      go_wp2_with fail
      refine (hs _).mono ?_
      rintro _ w1 ⟨rfl, rfl⟩
      go_wp2_with fail
      go_ret
      exact ⟨by rw [HE.out]; rfl, by first | rfl | trivial⟩
    · have HE : Hid (q = true) := by unfold Hid; rw [← hq]; exact LX.hexd_iff.2 (by omega)
      have a97 : (b.toNat : Int) < 97 := by omega
      have b97 : decide ((97 : Int) ≤ (b.toNat : Int)) = false := by rw [decide_eq_false_iff_not]; omega
      have c97 : ((97 : Int) ≤ (b.toNat : Int)) = False := by simp; omega
      have a65 : (65 : Int) ≤ (b.toNat : Int) := by omega
      have a70 : (b.toNat : Int) ≤ 70 := by omega
      clear hq hnd
      go_enter Tryz.func60, Tryz.ntmps60
      go_wp2_with fail
      refine (hs _).mono ?_
      rintro _ w1 ⟨rfl, rfl⟩
      go_wp2_with fail
      go_ret
      exact ⟨by rw [HE.out]; rfl, by first | rfl | trivial⟩
    · have HE : Hid (q = false) := by unfold Hid; rw [← hq]; exact LX.not_true (fun h' => by have := LX.hexd_iff.1 h'; omega)
      have a97 : (b.toNat : Int) < 97 := by omega
      have b97 : decide ((97 : Int) ≤ (b.toNat : Int)) = false := by rw [decide_eq_false_iff_not]; omega
      have c97 : ((97 : Int) ≤ (b.toNat : Int)) = False := by simp; omega
      have a65 : (65 : Int) ≤ (b.toNat : Int) := by omega
      have a70 : (70 : Int) < (b.toNat : Int) := by omega
      have b70 : decide ((b.toNat : Int) ≤ 70) = false := by rw [decide_eq_false_iff_not]; omega
      have c70 : ((b.toNat : Int) ≤ 70) = False := by simp; omega
      clear hq hnd
      go_enter Tryz.func60, Tryz.ntmps60
      go_wp2_with fail
      refine (hs _).mono ?_
      rintro _ w1 ⟨rfl, rfl⟩
      go_wp2_with fail
      go_ret
      exact ⟨by rw [HE.out]; rfl, by first | rfl | trivial⟩
    · have HE : Hid (q = true) := by unfold Hid; rw [← hq]; exact LX.hexd_iff.2 (by omega)
      have a97 : (97 : Int) ≤ (b.toNat : Int) := by omega
      have a102 : (b.toNat : Int) ≤ 102 := by omega
      clear hq hnd
      go_enter Tryz.func60, Tryz.ntmps60
      go_wp2_with fail
      refine (hs _).mono ?_
      rintro _ w1 ⟨rfl, rfl⟩
      go_wp2_with fail
      go_ret
      exact ⟨by rw [HE.out]; rfl, by first | rfl | trivial⟩
    · have HE : Hid (q = false) := by unfold Hid; rw [← hq]; exact LX.not_true (fun h' => by have := LX.hexd_iff.1 h'; omega)
      have a97 : (97 : Int) ≤ (b.toNat : Int) := by omega
      have a102 : (102 : Int) < (b.toNat : Int) := by omega
      have b102 : decide ((b.toNat : Int) ≤ 102) = false := by rw [decide_eq_false_iff_not]; omega
      have c102 : ((b.toNat : Int) ≤ 102) = False := by simp; omega
      have a65 : (65 : Int) ≤ (b.toNat : Int) := by omega
      have a70 : (70 : Int) < (b.toNat : Int) := by omega
      have b70 : decide ((b.toNat : Int) ≤ 70) = false := by rw [decide_eq_false_iff_not]; omega
      have c70 : ((b.toNat : Int) ≤ 70) = False := by simp; omega
      clear hq hnd
      go_enter Tryz.func60, Tryz.ntmps60
      go_wp2_with fail
      refine (hs _).mono ?_
      rintro _ w1 ⟨rfl, rfl⟩
      go_wp2_with fail
      go_ret
      exact ⟨by rw [HE.out]; rfl, by first | rfl | trivial⟩

def nq : UInt8 → Bool := fun b => decide (b.toNat ≠ 39)
/-- where a text ends, seen from a place k within it -/
def qz (k : Nat) (o : Option Nat) : Nat := match o with
  | none => 0
  | some n => n + k
theorem qz_map (k j : Nat) (o : Option Nat) : qz k (o.map (· + j)) = qz (k + j) o := by
  cases o with
  | none => rfl
  | some n => show n + j + k = n + (k + j); omega
theorem qend_run : ∀ l : List UInt8, LX.qend l = (LX.qend (l.drop (LX.run nq l))).map (· + LX.run nq l)
  | [] => rfl
  | [b] => by
    by_cases h : b.toNat = 39
    · rw [LX.run_zero nq b [] (by simp [nq, h])]
      simp
    · rw [LX.run_step nq b [] (by simp [nq, h])]
      simp [LX.qend, LX.run, h]
  | b :: c :: r => by
    by_cases h : b.toNat = 39
    · rw [LX.run_zero nq b _ (by simp [nq, h])]
      simp
    · rw [LX.run_step nq b _ (by simp [nq, h]), List.drop_succ_cons]
      have ih := qend_run (c :: r)
      rw [LX.qend, if_neg h, ih, Option.map_map]
      rfl
theorem two_yes {l : List UInt8} (h : Lib.hasPrefix l [39, 39] = true) : ∃ r, l = 39 :: 39 :: r := by
  unfold Lib.hasPrefix at h
  rw [List.isPrefixOf_iff_prefix] at h
  obtain ⟨r, rfl⟩ := h
  exact ⟨r, rfl⟩
theorem two_no {l : List UInt8} (h : Lib.hasPrefix l [39, 39] = false) (h0 : l ≠ []) (h1 : ∀ b t, l = b :: t → nq b = false) : LX.qend l = some 1 := by
  match l, h0 with
  | [b], _ =>
    have := h1 b [] rfl
    simp [nq] at this
    simp [LX.qend, this]
  | b :: c :: r, _ =>
    have := h1 b _ rfl
    simp [nq] at this
    have hb : b = 39 := UInt8.toNat.inj this
    subst hb
    by_cases hc : c.toNat = 39
    · have hc' : c = 39 := UInt8.toNat.inj hc
      subst hc'
      unfold Lib.hasPrefix at h
      rw [show ([39, 39] : List UInt8).isPrefixOf (39 :: 39 :: r) = true from rfl] at h
      cases h
    · simp [LX.qend, hc]
theorem qsize_qz (l : List UInt8) : LX.qsize l = qz 1 (LX.qend l) := rfl

set_option maxHeartbeats 1000000 in
theorem quotedSize_any (s : ByteArray) (w : World) (hs : s.size ≤ 140737488355327) (h1s : 1 ≤ s.size) :
    Calls Tryz.prog 33 #[.string s] w fun e w' => e = .returned (.int .i64 (LX.qsize (s.data.toList.drop 1))) ∧ w' = w := by
  obtain ⟨R, hR⟩ : ∃ R, LX.qsize (s.data.toList.drop 1) = R := ⟨_, rfl⟩
  rw [hR]
  have HR : Hid _ := hR
  clear hR
  have hlen := dlenx s
  go_enter Tryz.func33, Tryz.ntmps33
  go_wp2_with fail
  go_loopw [3] (fun iv wr => ∃ k : Nat, iv = .int .i64 k ∧ k ≤ s.size ∧ R = qz k (LX.qend (s.data.toList.drop k)) ∧ wr = w) (fun iv _ => s.size - (intOf iv).toNat)
  case atStart => exact ⟨1, rfl, h1s, by rw [← HR.out]; rfl, rfl⟩
  case round =>
    obtain ⟨k, rfl, hk, hR, rfl⟩ := hrel
    have hkZ : (k : Int) ≤ (s.size : Int) := by omega
    have hex : (s.extract k s.size).size ≤ 140737488355327 := by rw [ByteArray.size_extract]; omega
    have c1 := runQuote (s.extract k s.size) wr hex nq (fun b W => quoteClo_any b W)
    rw [restL s k hk] at c1
    have h1 := LX.run_le nq (s.data.toList.drop k)
    rw [List.length_drop, hlen] at h1
    have hd := LX.run_drop nq (s.data.toList.drop k)
    rw [List.drop_drop] at hd
    rw [qend_run, List.drop_drop, qz_map] at hR
    generalize LX.run nq (s.data.toList.drop k) = r1 at *
    have hkr : k + r1 ≤ s.size := by omega
    have hkrZ : (k : Int) + (r1 : Int) ≤ (s.size : Int) := by omega
    have c2 := Tryz.strings_HasPrefix (s.extract (k + r1) s.size) ⟨#[39, 39]⟩ wr
    rw [restL s (k + r1) hkr] at c2
    have hn1 : (0 : Int) ≤ (k : Int) + (r1 : Int) := by omega
    have hw1 : IntKind.i64.wrap ((k : Int) + (r1 : Int)) = (k : Int) + (r1 : Int) := by simp only [IntKind.wrap]; simp [IntKind.min, IntKind.max, IntKind.signed, IntKind.bits]; omega
    have ht1 : ((k : Int) + (r1 : Int)).toNat = k + r1 := by omega
    by_cases hend : k + r1 = s.size
    · have HX : Hid (R = 0) := by
        unfold Hid
        rw [hR, List.drop_of_length_le (by omega)]
        rfl
      have he1 : ((k : Int) + (r1 : Int) == (s.size : Int)) = true := by rw [beq_iff_eq]; omega
      have he2 : (k : Int) + (r1 : Int) = (s.size : Int) := by omega
      clear hR hd c2 hlen hend
      go_wp2_with fail
      refine c1.mono ?_
      rintro _ w1 ⟨rfl, rfl⟩
      go_wp2_with fail
      go_ret
      exact ⟨by rw [HX.out]; first | rfl | simp, by first | rfl | trivial⟩
    · have he1 : ((k : Int) + (r1 : Int) == (s.size : Int)) = false := by rw [beq_eq_false_iff_ne]; omega
      have he2 : ¬ (k : Int) + (r1 : Int) = (s.size : Int) := by omega
      have hne : s.data.toList.drop (k + r1) ≠ [] := fun h => by have := congrArg List.length h; rw [List.length_drop, hlen] at this; simp at this; omega
      have hb1 : ∀ b t, s.data.toList.drop (k + r1) = b :: t → nq b = false := fun b t h => by
        rcases hd with h' | ⟨b', t', h', hq⟩
        · exact absurd h' hne
        · rw [h'] at h; cases h; exact hq
      cases hp : Lib.hasPrefix (s.data.toList.drop (k + r1)) (⟨#[39, 39]⟩ : ByteArray).data.toList with
      | false =>
        rw [hp] at c2
        have hp' : Lib.hasPrefix (s.data.toList.drop (k + r1)) [39, 39] = false := hp
        have HX : Hid (R = k + r1 + 1) := by
          unfold Hid
          rw [hR, two_no hp' hne hb1]
          show 1 + (k + r1) = _
          omega
        clear hR hd hp hp' hlen hne hb1 hend
        go_wp2_with fail
        refine c1.mono ?_
        rintro _ w1 ⟨rfl, rfl⟩
        go_wp2_with fail
        refine c2.mono ?_
        rintro _ w2 ⟨rfl, rfl⟩
        go_wp2_with fail
        go_ret
        exact ⟨by rw [HX.out]; first | rfl | simp | go_num, by first | rfl | trivial⟩
      | true =>
        rw [hp] at c2
        have hp' : Lib.hasPrefix (s.data.toList.drop (k + r1)) [39, 39] = true := hp
        obtain ⟨q, hq⟩ := two_yes hp'
        have hk2 : k + r1 + 2 ≤ s.size := by have := congrArg List.length hq; rw [List.length_drop, hlen] at this; simp at this; omega
        have HN : Hid (R = qz (k + r1 + 2) (LX.qend (s.data.toList.drop (k + r1 + 2)))) := by
          unfold Hid
          rw [hR, hq]
          have e : s.data.toList.drop (k + r1 + 2) = q := by rw [← List.drop_drop, hq]; rfl
          rw [e]
          show qz (k + r1) ((LX.qend q).map (· + 2)) = _
          rw [qz_map]
        clear hR hd hp hp' hlen hne hb1 hend hq
        go_wp2_with fail
        refine c1.mono ?_
        rintro _ w1 ⟨rfl, rfl⟩
        go_wp2_with fail
        refine c2.mono ?_
        rintro _ w2 ⟨rfl, rfl⟩
        go_wp2_with fail
        go_roundw
        case rel => exact ⟨k + r1 + 2, by go_num, by omega, HN.out, by first | rfl | trivial⟩
        case measure => simp [intOf]; omega

theorem one_yes {l : List UInt8} (h : Lib.hasPrefix l [39] = true) : ∃ r, l = 39 :: r := by
  unfold Lib.hasPrefix at h
  rw [List.isPrefixOf_iff_prefix] at h
  obtain ⟨r, rfl⟩ := h
  exact ⟨r, rfl⟩
theorem one_no {l : List UInt8} (h : Lib.hasPrefix l [39] = false) : ∀ b t, l = b :: t → b.toNat ≠ 39 := by
  rintro b t rfl hb
  have hb : b = 39 := UInt8.toNat.inj hb
  subst hb
  unfold Lib.hasPrefix at h
  rw [show ([39] : List UInt8).isPrefixOf (39 :: t) = true from by simp [List.isPrefixOf]] at h
  cases h
theorem bsize_no {l : List UInt8} (h : Lib.hasPrefix (l.drop (LX.run LX.hexd l)) [39] = false) : LX.bsize l = 0 := by
  have := one_no h
  unfold LX.bsize
  cases hd : l.drop (LX.run LX.hexd l) with
  | nil => rfl
  | cons b t => exact if_neg (this b t hd)
theorem bsize_yes {l : List UInt8} (h : Lib.hasPrefix (l.drop (LX.run LX.hexd l)) [39] = true) : LX.bsize l = LX.run LX.hexd l + 3 := by
  obtain ⟨r, hr⟩ := one_yes h
  unfold LX.bsize
  rw [hr]
  exact if_pos rfl

set_option maxHeartbeats 1000000 in
theorem blobSize_any (s : ByteArray) (w : World) (hs : s.size ≤ 140737488355327) (h1s : 2 ≤ s.size) :
    Calls Tryz.prog 34 #[.string s] w fun e w' => e = .returned (.int .i64 (LX.bsize (s.data.toList.drop 2))) ∧ w' = w := by
  obtain ⟨R, hR⟩ : ∃ R, LX.bsize (s.data.toList.drop 2) = R := ⟨_, rfl⟩
  rw [hR]
  have hlen := dlenx s
  have h2Z : (2 : Int) ≤ (s.size : Int) := by omega
  have c1 := runHex (s.extract 2 s.size) w (by rw [ByteArray.size_extract]; omega) LX.hexd (fun b W => hexClo_any b W)
  rw [restL s 2 h1s] at c1
  have h1 := LX.run_le LX.hexd (s.data.toList.drop 2)
  rw [List.length_drop, hlen] at h1
  have hA := @bsize_no (s.data.toList.drop 2)
  have hB := @bsize_yes (s.data.toList.drop 2)
  rw [List.drop_drop, hR] at hA hB
  clear hR
  generalize LX.run LX.hexd (s.data.toList.drop 2) = r1 at *
  have hkr : 2 + r1 ≤ s.size := by omega
  have hkrZ : 2 + (r1 : Int) ≤ (s.size : Int) := by omega
  have c2 := Tryz.strings_HasPrefix (s.extract (2 + r1) s.size) ⟨#[39]⟩ w
  rw [restL s (2 + r1) hkr] at c2
  have hn1 : (0 : Int) ≤ 2 + (r1 : Int) := by omega
  have hw1 : IntKind.i64.wrap (2 + (r1 : Int)) = 2 + (r1 : Int) := by simp only [IntKind.wrap]; simp [IntKind.min, IntKind.max, IntKind.signed, IntKind.bits]; omega
  have ht1 : (2 + (r1 : Int)).toNat = 2 + r1 := by omega
  cases hp : Lib.hasPrefix (s.data.toList.drop (2 + r1)) (⟨#[39]⟩ : ByteArray).data.toList with
  | false =>
    rw [hp] at c2
    have HX : Hid (R = 0) := hA hp
    clear hA hB hp hlen
    go_enter Tryz.func34, Tryz.ntmps34
    go_wp2_with fail
    refine c1.mono ?_
    rintro _ w1 ⟨rfl, rfl⟩
    go_wp2_with fail
    refine c2.mono ?_
    rintro _ w2 ⟨rfl, rfl⟩
    go_wp2_with fail
    go_ret
    exact ⟨by rw [HX.out]; first | rfl | simp, by first | rfl | trivial⟩
  | true =>
    rw [hp] at c2
    have HX : Hid (R = r1 + 3) := hB hp
    clear hA hB hp hlen
    go_enter Tryz.func34, Tryz.ntmps34
    go_wp2_with fail
    refine c1.mono ?_
    rintro _ w1 ⟨rfl, rfl⟩
    go_wp2_with fail
    refine c2.mono ?_
    rintro _ w2 ⟨rfl, rfl⟩
    go_wp2_with fail
    go_ret
    exact ⟨by rw [HX.out]; first | rfl | go_num, by first | rfl | trivial⟩
end Go.Proofs.YtoagobpkenfbkaaGreatDoor
