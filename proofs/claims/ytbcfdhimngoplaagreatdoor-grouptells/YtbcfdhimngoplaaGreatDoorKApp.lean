/-
  Keys of rows: what appendInt and appendText of package record put behind a row of bytes.
-/
import Derived.Test.YtbcfdhimngoplaaGreatDoorGqJ
import Derived.Lib.OthersKept
import Derived.Test.YtbcfdhimngoplaaGreatDoorGqA
namespace Go.Proofs.YtbcfdhimngoplaaGreatDoor
open Go.ChangeShapes Go.WideShapes Go.ChangeAt Go.RowKit
set_option linter.unusedVariables false
set_option linter.unusedSimpArgs false
def Wide (l : List VM.Vl) : Prop := ∀ x ∈ l, -9223372036854775808 ≤ x.n ∧ x.n ≤ 9223372036854775807
set_option maxRecDepth 100000 in
set_option maxHeartbeats 1000000 in
theorem checkRow_any (v : Value) (l : List VM.Vl) (w : World) (hr : IsRow w v l) (hbig : l.length ≤ 9223372036854775807) :
  Calls Tryz.prog 86 #[v] w fun e w' => e = .returned (.int .i64 (VM.chkRow l)) ∧ Fr w w' := by
 obtain ⟨a, cap, rfl, hcs⟩ := hr
 by_cases h8 : 8 < l.length
 ·
  have h8' : (8 : Int) < (l.length : Int) := by omega
  clear hcs
  go_enter Tryz.func86, Tryz.ntmps86
  go_wp2_with fail
  go_ret
  refine ⟨ret_int ?_, Fr.refl _⟩
  rw [VM.chkRow, if_pos h8]
  rfl
 ·
  have h8' : ¬ (8 : Int) < (l.length : Int) := by omega
  have HC : Hid _ := hcs
  clear hcs
  go_enter Tryz.func86, Tryz.ntmps86
  go_wp2_with fail
  go_loopw [11] (fun iv wr => ∃ i : Nat, iv = .int .i64 i ∧ i ≤ l.length ∧ VM.chkAll l = VM.chkAll (l.drop i) ∧ Fr w wr) (fun iv _ => l.length - (intOf iv).toNat)
  case atStart => exact ⟨0, rfl, Nat.zero_le _, rfl, Fr.refl _⟩
  case round =>
   obtain ⟨i, rfl, hi, hall, hfr⟩ := hrel
   by_cases hlt : i < l.length
   ·
    obtain ⟨b, o, rfl, hb, hc⟩ : ∃ b o, a = some ⟨b, o, none⟩ ∧ b < w.heap.size ∧ CellsAt w b o l := by
     rcases HC.out with h | h
     · subst h; simp at hlt
     · exact h
    obtain ⟨c0, c1, c2⟩ := (hc.fr hb hfr) i hlt
    have HA : Hid _ := hall
    have HF : Hid _ := hfr
    clear hall hfr hc
    have hchk := fun W => check_any l[i].k l[i].n l[i].s W
    generalize hx : l[i] = x at c0 c1 c2 hchk
    obtain ⟨k, n, s⟩ := x
    simp only at c0 c1 c2 hchk
    have HX : Hid _ := hx
    clear hx
    go_wp2_with (go_at_call 75; refine (hchk _).mono ?_)
    rintro e w1 ⟨rfl, hf1⟩
    have hfr' : Fr w w1 := (Fr.alloc HF.out _).trans hf1
    have hdrop : VM.chkAll (l.drop i) = if VM.chk ⟨k, n, s⟩ = 0 then VM.chkAll (l.drop (i + 1)) else VM.chk ⟨k, n, s⟩ := by
     rw [List.drop_eq_getElem_cons hlt, HX.out]
     rfl
    have HD : Hid _ := HA.out.trans hdrop
    clear hdrop HA HF hf1 c0 c1 c2
    by_cases he : VM.chk ⟨k, n, s⟩ = 0
    ·
     have HD' : Hid _ := HD.out.trans (if_pos he)
     clear HD
     rw [he]
     go_wp2_with fail
     go_roundw
     case rel => exact ⟨i + 1, by go_num, by omega, HD'.out, hfr'⟩
     case measure => simp [intOf]; omega
    ·
     have HD' : Hid _ := HD.out.trans (if_neg he)
     clear HD
     generalize hy : VM.chk ⟨k, n, s⟩ = y at *
     have hne : ((y : Int) != 0) = true := by simp; omega
     have hne2 : ¬ ((y : Int) = 0) := by omega
     go_wp2_with fail
     go_ret
     refine ⟨ret_int ?_, hfr'⟩
     rw [VM.chkRow, if_neg h8, HD'.out]
   ·
    have hnil : VM.chkAll l = 0 := by
     rw [hall, List.drop_of_length_le (by omega)]
     rfl
    have HN : Hid _ := hnil
    have hi' : i = l.length := by omega
    clear hall hnil
    subst hi'
    go_wp2_with fail
    go_ret
    refine ⟨ret_int ?_, hfr⟩
    rw [VM.chkRow, if_neg h8, HN.out]
    rfl
theorem drop_cons (s : ByteArray) (k : Nat) (h : k < s.size) : s.data.toList.drop k = s[k] :: s.data.toList.drop (k + 1) := by
 rw [List.drop_eq_getElem_cons (by simpa using h)]; rfl
theorem alloc_top (w : World) (o : Obj) : (w.alloc o).heap[w.heap.size]? = some o := by
 show (w.heap.push o)[w.heap.size]? = _
 rw [Array.getElem?_push_size]
theorem xor_top (a : Nat) (h : a < 2 ^ 64) : a ^^^ 2 ^ 63 = (a + 2 ^ 63) % 2 ^ 64 := by
 have key : ∀ c, c < 2 ^ 63 → c ^^^ 2 ^ 63 = 2 ^ 63 + c := by
  intro c hc
  have e := Nat.two_pow_add_eq_or_of_lt hc 1
  rw [Nat.mul_one] at e
  rw [e]
  refine Nat.eq_of_testBit_eq fun j => ?_
  rw [Nat.testBit_xor, Nat.testBit_or, Nat.testBit_two_pow]
  by_cases hj : 63 = j
  ·
   subst hj
   rw [Nat.testBit_lt_two_pow hc]
   rfl
  · simp [hj]
 by_cases c : a < 2 ^ 63
 · rw [key a c]; omega
 ·
  have e := key (a - 2 ^ 63) (by omega)
  have e2 : 2 ^ 63 + (a - 2 ^ 63) = a := by omega
  rw [e2] at e
  rw [← e, Nat.xor_assoc, Nat.xor_self, Nat.xor_zero]
  rw [e]
  omega
abbrev Ow (B : Nat) (v : Value) (l : List UInt8) (w : World) : Prop := w.ownsRow B 5 1 v l.length (byteV l)
theorem ow_kind {B : Nat} {v : Value} {l : List UInt8} {w : World} (h : Ow B v l w) : ∀ g, v.ownBlock = some g → ∃ c fz, w.heap[g]? = some (.cells c 5 fz) := Lib.ownsRowF_kind (World.ownsRowF_of h)
theorem Ow.keep {B : Nat} {v : Value} {l : List UInt8} {w w' : World} (h : Ow B v l w) (hk : ∀ k, B ≤ k → k < w.heap.size → w'.heap[k]? = w.heap[k]?) : Ow B v l w' := by
 refine ⟨h.1, ?_⟩
 rcases h.2 with h0 | ⟨g, cap, cur, h1, h2, h3, h4⟩
 · exact Or.inl h0
 · exact Or.inr ⟨g, cap, cur, h1, h2, (hk g h2 (Array.getElem?_eq_some_iff.1 h3).1).trans h3, h4⟩
theorem turned_eq (n : Int) (hl : -9223372036854775808 ≤ n) (hu : n ≤ 9223372036854775807) : bits .xor .u64 (IntKind.u64.wrap n) 9223372036854775808 = ((KM.turn n : Nat) : Int) := by
 show IntKind.u64.wrap ((BitVec.ofInt 64 (IntKind.u64.wrap n) ^^^ BitVec.ofInt 64 9223372036854775808).toNat : Int) = _
 have e1 : (BitVec.ofInt 64 9223372036854775808).toNat = 2 ^ 63 := by decide
 have e2 : (BitVec.ofInt 64 (IntKind.u64.wrap n)).toNat = (n % 18446744073709551616).toNat := by
  rw [BitVec.toNat_ofInt, IntKind.wrap_u64]
  omega
 rw [BitVec.toNat_xor, e1, e2, xor_top _ (by omega), IntKind.wrap_u64]
 unfold KM.turn
 omega
set_option maxRecDepth 100000 in
set_option maxHeartbeats 1000000 in
theorem appendInt_any (B : Nat) (v : Value) (l : List UInt8) (n : Int) (w : World) (h : Ow B v l w) (hl : -9223372036854775808 ≤ n) (hu : n ≤ 9223372036854775807) (hlen : l.length ≤ 1048576) (hB : B ≤ w.heap.size) :
  Calls Tryz.prog 87 #[v, .int .i64 n] w fun e w' => ∃ v', e = .returned v' ∧ Ow B v' (l ++ KM.be 8 (KM.turn n)) w' ∧ Below B w w' ∧ Lib.OthersKept 5 none w w' := by
 obtain ⟨i0, hi, hz0, hz1, hz2⟩ := info_parts Tryz.infoByte
 have hT := turned_eq n hl hu
 have hTl : KM.turn n < 18446744073709551616 := by unfold KM.turn; omega
 generalize KM.turn n = T at *
 go_enter Tryz.func87, Tryz.ntmps87
 go_wp2_with fail
 have HT : Hid _ := hT
 clear hT
 go_loopw [0, 10] (fun kv iv wr => ∃ (i : Nat) (m : List UInt8), iv = .int .i64 i ∧ i ≤ 8 ∧ m ++ KM.be (8 - i) (T % 256 ^ (8 - i)) = l ++ KM.be 8 T ∧ m.length = l.length + i ∧ Ow B kv m wr ∧ Below B w wr ∧ Lib.OthersKept 5 none w wr) (fun _ iv _ => 8 - (intOf iv).toNat)
 case atStart => exact ⟨0, l, rfl, by omega, by rw [Nat.mod_eq_of_lt (by simpa using hTl)], rfl, h, Below.refl _ _, Lib.OthersKept.refl _ _ _⟩
 case round =>
  obtain ⟨i, m, rfl, hi8, hm, hml, hown, hbe, hok⟩ := hrel
  by_cases hlt : i < 8
  ·
   have HM : Hid _ := hm
   have HOK : Hid _ := hok
   have HBE : Hid _ := hbe
   clear hm hok h
   have hpow : (2 : Nat) ^ (8 * (7 - i)) = 256 ^ (7 - i) := by rw [Nat.pow_mul]
   have hx : (T : Int) / 2 ^ (8 * (7 - i)) % 256 = ((UInt8.ofNat (T / 256 ^ (7 - i))).toNat : Int) := by
    rw [UInt8.toNat_ofNat', ← hpow]
    push_cast
    rfl
   have HX : Hid _ := hx
   have hle := hbe.size
   have HN : Hid ((m ++ [UInt8.ofNat (T / 256 ^ (7 - i))]) ++ KM.be (8 - (i + 1)) (T % 256 ^ (8 - (i + 1))) = l ++ KM.be 8 T) := by
    have := HM.out
    unfold Hid
    rw [← this, show 8 - i = (7 - i) + 1 by omega, show 8 - (i + 1) = 7 - i by omega, KM.be]
    have q : T % 256 ^ (7 - i + 1) % 256 ^ (7 - i) = T % 256 ^ (7 - i) := Nat.mod_mod_of_dvd _ (Nat.pow_dvd_pow 256 (by omega))
    have q2 : UInt8.ofNat (T % 256 ^ (7 - i + 1) / 256 ^ (7 - i)) = UInt8.ofNat (T / 256 ^ (7 - i)) := by
     rw [Nat.pow_succ, Nat.mod_mul_right_div_self]
     apply UInt8.toNat_inj.1
     rw [UInt8.toNat_ofNat', UInt8.toNat_ofNat']
     omega
    rw [q, q2, List.append_assoc]
    rfl
   generalize hX : (T : Int) / 2 ^ (8 * (7 - i)) % 256 = X at HX
   clear hx hpow
   go_wp2_with (at_builtin; rw [hX]; refine wpList_append_own _ rfl _ _ 128 rfl B 5 i0 (.int .u8 0) 1 1 Tryz.underlying128 hi hz0 hz1 hz2 rfl (by decide) _ _ _ rfl (hown.alloc _) ⟨wr.heap.size, 0, none⟩ 1 1 [.int .u8 X] rfl rfl ?c1 ?c2 ?c3 ?c4 ?c5 ?_)
   case c1 => exact cell_one_new _ _ _
   case c2 => intro u hu; simp at hu; subst hu; rfl
   case c3 => unfold maxLen; omega
   case c4 => omega
   case c5 => simp; omega
   intro v' w1 hown' hgrow _
   have ho : Ow B v' (m ++ [UInt8.ofNat (T / 256 ^ (7 - i))]) w1 := by
    unfold Ow
    rw [byteV_snoc, ← HX.out, List.length_append, hml]
    exact hown'
   have hbel' : Below B w w1 := (hbe.alloc (by omega) _).grown hgrow (by simp; omega) (fun k hk => (hown.lt k hk).1)
   have hok' : Lib.OthersKept 5 none w w1 := (Lib.OthersKept.alloc HOK.out _).grown hgrow (ow_kind (hown.alloc _))
   have HO : Hid _ := ho
   have HBE2 : Hid _ := hbel'
   have HOK2 : Hid _ := hok'
   clear ho hbel' hok' hown' hgrow hown hX
   go_wp2_with fail
   go_roundw
   case rel => exact ⟨i + 1, _, by go_num, by omega, HN.out, by simp; omega, HO.out, HBE2.out, HOK2.out⟩
   case measure => simp [intOf]; omega
  ·
   obtain rfl : i = 8 := by omega
   have HO : Hid _ := hown
   have HM : Hid (m = l ++ KM.be 8 T) := by
    have := hm
    rw [Nat.sub_self, KM.be, List.append_nil] at this
    exact this
   have HBE : Hid _ := hbe
   have HOK : Hid _ := hok
   clear hm h hown hbe hok
   go_wp2_with fail
   go_ret
   rw [← HM.out]
   exact ⟨_, rfl, HO.out, HBE.out, HOK.out⟩
theorem esc_cons (b : UInt8) (t : List UInt8) : KM.esc (b :: t) = if b.toNat = 0 then 0 :: 255 :: KM.esc t else b :: KM.esc t := rfl
theorem byteV_append (a b : List UInt8) : byteV (a ++ b) = byteV a ++ byteV b := by simp [byteV]
set_option maxRecDepth 100000 in
set_option maxHeartbeats 2000000 in
theorem appendText_any (B : Nat) (v : Value) (l : List UInt8) (s : ByteArray) (w : World) (h : Ow B v l w) (hs : s.size ≤ 16) (hlen : l.length ≤ 1048576) (hB : B ≤ w.heap.size) :
  Calls Tryz.prog 88 #[v, .string s] w fun e w' => ∃ v', e = .returned v' ∧ Ow B v' (l ++ KM.esc s.data.toList) w' ∧ Below B w w' ∧ Lib.OthersKept 5 none w w' := by
 obtain ⟨i0, hi, hz0, hz1, hz2⟩ := info_parts Tryz.infoByte
 go_enter Tryz.func88, Tryz.ntmps88
 go_wp2_with fail
 go_loopw [0, 8] (fun kv iv wr => ∃ (i : Nat) (m : List UInt8), iv = .int .i64 i ∧ i ≤ s.size ∧ m ++ KM.esc (s.data.toList.drop i) = l ++ KM.esc s.data.toList ∧ m.length ≤ l.length + 2 * i ∧ Ow B kv m wr ∧ Below B w wr ∧ Lib.OthersKept 5 none w wr) (fun _ iv _ => s.size - (intOf iv).toNat)
 case atStart => exact ⟨0, l, rfl, by omega, rfl, by omega, h, Below.refl _ _, Lib.OthersKept.refl _ _ _⟩
 case round =>
  obtain ⟨i, m, rfl, hi8, hm, hml, hown, hbe, hok⟩ := hrel
  clear h
  by_cases hlt : i < s.size
  ·
   rw [drop_cons s i hlt] at hm
   rw [esc_cons] at hm
   have HM : Hid _ := hm
   have HOK : Hid _ := hok
   have hle := hbe.size
   clear hm hok
   by_cases hz : s[i].toNat = 0
   ·
    have HN : Hid ((m ++ [s[i]]) ++ [255] ++ KM.esc (s.data.toList.drop (i + 1)) = l ++ KM.esc s.data.toList) := by
     have := HM.out
     rw [if_pos hz] at this
     have e0 : s[i] = 0 := UInt8.toNat_inj.1 hz
     rw [e0]
     unfold Hid
     rw [← this]
     simp
    have hz' : ((s[i].toNat : Int) == 0) = true := by simp [hz]
    have HZ : Hid _ := hz
    clear HM hz
    go_wp2_with (at_builtin; refine wpList_append_own _ rfl _ _ 128 rfl B 5 i0 (.int .u8 0) 1 1 Tryz.underlying128 hi hz0 hz1 hz2 rfl (by decide) _ _ _ rfl (hown.alloc _) ⟨wr.heap.size, 0, none⟩ 1 1 [.int .u8 (s[i].toNat : Int)] rfl rfl ?c1 ?c2 ?c3 ?c4 ?c5 ?_)
    case c1 => exact cell_one_new _ _ _
    case c2 => intro u hu; simp at hu; subst hu; rfl
    case c3 => unfold maxLen; omega
    case c4 => omega
    case c5 => simp; omega
    intro v' w1 hown' hgrow _
    have ho : Ow B v' (m ++ [s[i]]) w1 := by
     unfold Ow
     rw [byteV_snoc, List.length_append]
     exact hown'
    have hbel' : Below B w w1 := (hbe.alloc (by omega) _).grown hgrow (by simp; omega) (fun k hk => (hown.lt k hk).1)
    have hok' : Lib.OthersKept 5 none w w1 := (Lib.OthersKept.alloc HOK.out _).grown hgrow (ow_kind (hown.alloc _))
    have hle1 := hbel'.size
    have HOK2 : Hid _ := hok'
    clear hok' hown' hgrow hown hbe HOK
    have ho' := ho
    have hml1 : (m ++ [s[i]]).length ≤ l.length + 2 * i + 1 := by simp; omega
    generalize (m ++ [s[i]]) = m1 at *
    go_wp2_with (at_builtin; refine wpList_append_own _ rfl _ _ 128 rfl B 5 i0 (.int .u8 0) 1 1 Tryz.underlying128 hi hz0 hz1 hz2 rfl (by decide) _ _ _ rfl (ho.alloc _) ⟨w1.heap.size, 0, none⟩ 1 1 [.int .u8 255] rfl rfl ?c1 ?c2 ?c3 ?c4 ?c5 ?_)
    case c1 => exact cell_one_new _ _ _
    case c2 => intro u hu; simp at hu; subst hu; rfl
    case c3 => unfold maxLen; omega
    case c4 => omega
    case c5 => simp; omega
    intro v2 w2 hown2 hgrow2 _
    have HO : Hid (Ow B v2 (m1 ++ [255]) w2) := by
     unfold Hid Ow
     rw [byteV_snoc, List.length_append]
     exact hown2
    have HBE2 : Hid _ := (hbel'.alloc (by omega) _).grown hgrow2 (by simp; omega) (fun k hk => (ho.lt k hk).1)
    have HOK3 : Hid _ := (Lib.OthersKept.alloc HOK2.out _).grown hgrow2 (ow_kind (ho.alloc _))
    clear hown2 hgrow2 ho ho' hbel'
    go_wp2_with fail
    go_roundw
    case rel => exact ⟨i + 1, _, by go_num, by omega, HN.out, by simp; omega, HO.out, HBE2.out, HOK3.out⟩
    case measure => simp [intOf]; omega
   ·
    have HN : Hid ((m ++ [s[i]]) ++ KM.esc (s.data.toList.drop (i + 1)) = l ++ KM.esc s.data.toList) := by
     have := HM.out
     rw [if_neg hz] at this
     unfold Hid
     rw [← this]
     simp
    have hz' : ((s[i].toNat : Int) == 0) = false := by simp; omega
    have HZ : Hid _ := hz
    clear HM hz
    go_wp2_with (at_builtin; refine wpList_append_own _ rfl _ _ 128 rfl B 5 i0 (.int .u8 0) 1 1 Tryz.underlying128 hi hz0 hz1 hz2 rfl (by decide) _ _ _ rfl (hown.alloc _) ⟨wr.heap.size, 0, none⟩ 1 1 [.int .u8 (s[i].toNat : Int)] rfl rfl ?c1 ?c2 ?c3 ?c4 ?c5 ?_)
    case c1 => exact cell_one_new _ _ _
    case c2 => intro u hu; simp at hu; subst hu; rfl
    case c3 => unfold maxLen; omega
    case c4 => omega
    case c5 => simp; omega
    intro v' w1 hown' hgrow _
    have HO : Hid (Ow B v' (m ++ [s[i]]) w1) := by
     unfold Hid Ow
     rw [byteV_snoc, List.length_append]
     exact hown'
    have HBE2 : Hid _ := (hbe.alloc (by omega) _).grown hgrow (by simp; omega) (fun k hk => (hown.lt k hk).1)
    have HOK2 : Hid _ := (Lib.OthersKept.alloc HOK.out _).grown hgrow (ow_kind (hown.alloc _))
    clear hown' hgrow hown hbe HOK
    go_wp2_with fail
    go_roundw
    case rel => exact ⟨i + 1, _, by go_num, by omega, HN.out, by simp; omega, HO.out, HBE2.out, HOK2.out⟩
    case measure => simp [intOf]; omega
  ·
   obtain rfl : i = s.size := by omega
   have hds : s.data.toList.length = s.size := by rw [Array.length_toList]; rfl
   rw [List.drop_of_length_le (by omega), KM.esc] at hm
   have HM : Hid _ := hm
   have hle := hbe.size
   have HOK : Hid _ := hok
   clear hm hok
   go_wp2_with (at_builtin; refine wpList_append_own _ rfl _ _ 128 rfl B 5 i0 (.int .u8 0) 1 1 Tryz.underlying128 hi hz0 hz1 hz2 rfl (by decide) _ _ _ rfl (hown.alloc _) ⟨wr.heap.size, 0, none⟩ 2 2 [.int .u8 0, .int .u8 1] rfl rfl ?c1 ?c2 ?c3 ?c4 ?c5 ?_)
   case c1 =>
    intro j u hj
    match j, hj with
    | 0, hj => simp at hj; subst hj; simp [Addr.add]
    | 1, hj => simp at hj; subst hj; simp [Addr.add]
   case c2 => intro u hu; simp at hu; rcases hu with rfl | rfl <;> rfl
   case c3 => unfold maxLen; omega
   case c4 => omega
   case c5 => simp; omega
   intro v' w1 hown' hgrow _
   have HO : Hid (Ow B v' (m ++ [0, 1]) w1) := by
    unfold Hid Ow
    rw [byteV_append, List.length_append]
    exact hown'
   have HBE2 : Hid _ := (hbe.alloc (by omega) _).grown hgrow (by simp; omega) (fun k hk => (hown.lt k hk).1)
   have HOK2 : Hid _ := (Lib.OthersKept.alloc HOK.out _).grown hgrow (ow_kind (hown.alloc _))
   clear hown' hgrow hown hbe HOK
   go_wp2_with fail
   go_ret
   rw [← HM.out]
   exact ⟨_, rfl, HO.out, HBE2.out, HOK2.out⟩
end Go.Proofs.YtbcfdhimngoplaaGreatDoor
