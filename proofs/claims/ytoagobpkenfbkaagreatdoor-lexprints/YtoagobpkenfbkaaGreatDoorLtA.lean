/-
  What the document's own functions answer that show a value: digits, one byte, two digits of sixteen, ShownOf.
-/
import Derived.Test.YtoagobpkenfbkaaGreatDoorLtM
import Derived.Test.YtoagobpkenfbkaaGreatDoorOf
namespace Go.Proofs.YtoagobpkenfbkaaGreatDoor
open Go.ChangeShapes Go.WideShapes Go.ChangeAt Go.RowKit
set_option linter.unusedVariables false
set_option linter.unusedSimpArgs false
set_option maxRecDepth 100000

theorem retB {a b : ByteArray} (h : a = b) : Ending.returned (.string a) = .returned (.string b) := by rw [h]
theorem dataApp (a b : ByteArray) : (a ++ b).data.toList = a.data.toList ++ b.data.toList := by simp
theorem baExt {a : ByteArray} {l : List UInt8} (h : a.data.toList = l) : a = ⟨l.toArray⟩ := by
  apply ByteArray.ext
  rw [← h]
theorem oneConv (w : World) (n : Nat) (h : n < 256) : (convert 61 9 (.slice (some ⟨w.heap.size, 0, none⟩) 1 1)).run Tryz.prog (w.alloc (.cells #[.int .u8 (n : Int)] 5)) = .ok (.string ⟨#[UInt8.ofNat n]⟩) (w.alloc (.cells #[.int .u8 (n : Int)] 5)) := by
  have e : (UInt8.ofNat n).toNat = n := by rw [UInt8.toNat_ofNat']; omega
  have := conv_one w (UInt8.ofNat n)
  rwa [e] at this
theorem oneByte_any (n : Nat) (w : World) (h : n < 256) :
    Calls Tryz.prog 64 #[.int .i64 (n : Int)] w fun e w' => e = .returned (.string ⟨#[UInt8.ofNat n]⟩) ∧ Fr w w' := by
  have hc := oneConv w n h
  have h' : (n : Int) < 256 := by omega
  go_enter Tryz.func64, Tryz.ntmps64
  go_wp2
  go_ret
  exact ⟨rfl, (Fr.refl _).alloc _⟩
theorem oneByte_int (n : Int) (w : World) (h0 : 0 ≤ n) (h1 : n < 256) :
    Calls Tryz.prog 64 #[.int .i64 n] w fun e w' => e = .returned (.string ⟨#[UInt8.ofNat n.toNat]⟩) ∧ Fr w w' := by
  obtain ⟨k, rfl⟩ := Int.eq_ofNat_of_zero_le h0
  rw [Int.toNat_natCast]
  exact oneByte_any k w (by omega)

/-- the digits of a number above 0 -/
def dgz (n : Nat) : List UInt8 := if n = 0 then [] else Lib.decDigits n
theorem dgz_step (n : Nat) (h : n ≠ 0) : dgz n = dgz (n / 10) ++ [UInt8.ofNat (48 + n % 10)] := by
  unfold dgz
  rw [if_neg h]
  by_cases h10 : n < 10
  · rw [Lib.decDigits_one h10, if_pos (by omega), show n % 10 = n by omega]
    rfl
  · rw [if_neg (by omega)]
    conv => lhs; rw [Lib.decDigits, dif_neg h10]
theorem dgz_len (n : Nat) (h : n < 18446744073709551616) : (dgz n).length ≤ 20 := by
  have key : ∀ (k u : Nat), u < 10 ^ (k + 1) → Lib.nDigits u ≤ k + 1 := by
    intro k
    induction k with
    | zero => intro u h; rw [Lib.nDigits_small (by simpa using h)]; omega
    | succ k ih =>
      intro u h
      by_cases h10 : u < 10
      · rw [Lib.nDigits_small h10]; omega
      · rw [Lib.nDigits_big h10]
        have := ih (u / 10) (by rw [Nat.pow_succ] at h; omega)
        omega
  unfold dgz
  split
  · simp
  · rw [Lib.decDigits_length]
    have := key 19 n (by show n < 100000000000000000000; omega)
    omega
set_option maxHeartbeats 1000000 in
theorem digitsOf_any : ∀ (n : Nat) (w : World), n < 18446744073709551616 →
    Calls Tryz.prog 75 #[.int .u64 (n : Int)] w fun e w' => e = .returned (.string ⟨(dgz n).toArray⟩) ∧ Fr w w' := by
  intro n
  induction n using Nat.strongRecOn with
  | ind n ih =>
    intro w hn
    have IH : Hid _ := ih
    clear ih
    by_cases h : n = 0
    · subst h
      go_enter Tryz.func75, Tryz.ntmps75
      go_wp2_with fail
      go_ret
      exact ⟨rfl, Fr.refl _⟩
    · have h' : ((n : Int) == 0) = false := by rw [beq_eq_false_iff_ne]; omega
      have p' : ¬ (n : Int) = 0 := by omega
      have HE : Hid ((⟨(dgz (n / 10)).toArray⟩ : ByteArray) ++ ⟨#[UInt8.ofNat ((n : Int) % 10 + 48).toNat]⟩ = ⟨(dgz n).toArray⟩) := by
        unfold Hid
        apply baExt
        rw [dataApp, dgz_step n h, show ((n : Int) % 10 + 48).toNat = 48 + n % 10 by omega]
      have hd : (n : Int) / 10 = ((n / 10 : Nat) : Int) := by omega
      have HD : Hid _ := hd
      have H20 : Hid ((dgz (n / 10)).length ≤ 20) := dgz_len _ (by omega)
      have c1 := IH.out (n / 10) (by omega)
      have hn' : (n : Int) ≤ 18446744073709551615 := by omega
      clear hd IH
      go_enter Tryz.func75, Tryz.ntmps75
      go_wp2_with fail
      rw [HD.out]
      refine (c1 _ (by omega)).mono ?_
      rintro _ w1 ⟨rfl, f1⟩
      have F1 : Hid _ := f1
      clear f1 c1
      go_wp2_with fail
      refine (oneByte_int _ _ (by omega) (by omega)).mono ?_
      rintro _ w2 ⟨rfl, f2⟩
      have F2 : Hid (Fr w w2) := Fr.trans F1.out f2
      have h20 := H20.out
      clear f2 F1 H20
      go_wp2_with fail
      go_ret
      exact ⟨retB HE.out, F2.out⟩

theorem itoa_neg {n : Int} (h : n < 0) : Lib.itoa n = 45 :: dgz n.natAbs := by
  unfold Lib.itoa dgz
  rw [if_pos h, if_neg (by omega)]
theorem itoa_pos {n : Int} (h : 0 < n) : Lib.itoa n = dgz n.toNat := by
  unfold Lib.itoa dgz
  rw [if_neg (by omega), if_neg (by omega)]
set_option maxHeartbeats 1000000 in
theorem intText_any (n : Int) (w : World) (h0 : -9223372036854775808 ≤ n) (h1 : n ≤ 9223372036854775807) :
    Calls Tryz.prog 54 #[.int .i64 n] w fun e w' => e = .returned (.string ⟨(Lib.itoa n).toArray⟩) ∧ Fr w w' := by
  rcases Int.lt_trichotomy n 0 with h | h | h
  · have HE : Hid ((⟨#[45]⟩ : ByteArray) ++ ⟨(dgz n.natAbs).toArray⟩ = ⟨(Lib.itoa n).toArray⟩) := by
      unfold Hid
      apply baExt
      rw [dataApp, itoa_neg h]
      rfl
    have p1 : (n == 0) = false := by rw [beq_eq_false_iff_ne]; omega
    have p2 : ¬ n = 0 := by omega
    have w1 : IntKind.i64.wrap (n + 1) = n + 1 := by simp only [IntKind.wrap]; simp [IntKind.min, IntKind.max, IntKind.signed, IntKind.bits]; omega
    have hd := digitsOf_any n.natAbs
    have hl : Hid ((dgz n.natAbs).length ≤ 20) := dgz_len _ (by omega)
    have HN : Hid ((n.natAbs : Int) = -n) := by unfold Hid; omega
    clear p2
    go_enter Tryz.func54, Tryz.ntmps54
    go_wp2_with fail
    rw [show -(n + 1) + 1 = (n.natAbs : Int) by omega]
    refine (hd _ (by omega)).mono ?_
    rintro _ w2 ⟨rfl, f1⟩
    have F1 : Hid _ := f1
    have h20 := hl.out
    clear f1 hd hl
    go_wp2_with fail
    go_ret
    exact ⟨retB HE.out, F1.out⟩
  · subst h
    have e0 : Lib.itoa 0 = [48] := by
      unfold Lib.itoa
      rw [if_neg (by omega), show (0 : Int).toNat = 0 from rfl, Lib.decDigits_one (by decide)]
      rfl
    have HE : Hid _ := e0
    clear e0
    go_enter Tryz.func54, Tryz.ntmps54
    go_wp2_with fail
    go_ret
    exact ⟨retB (by rw [HE.out]), Fr.refl _⟩
  · have p1 : (n == 0) = false := by rw [beq_eq_false_iff_ne]; omega
    have p3 : 0 ≤ n := by omega
    obtain ⟨m, rfl⟩ := Int.eq_ofNat_of_zero_le p3
    have HE : Hid (Lib.itoa (m : Int) = dgz m) := itoa_pos h
    have hd := digitsOf_any m
    have p2 : ¬ (m : Int) = 0 := by omega
    generalize Lib.itoa (m : Int) = z at *
    clear p3
    go_enter Tryz.func54, Tryz.ntmps54
    go_wp2_with fail
    refine (hd _ (by omega)).mono ?_
    rintro _ w1 ⟨rfl, f1⟩
    have F1 : Hid _ := f1
    clear f1 hd
    go_wp2_with fail
    go_ret
    exact ⟨by rw [HE.out]; rfl, F1.out⟩
theorem hexTab (n : Nat) (h : n < 16) : (⟨#[48, 49, 50, 51, 52, 53, 54, 55, 56, 57, 97, 98, 99, 100, 101, 102]⟩ : ByteArray).extract n (n + 1) = ⟨#[VS.hxd n]⟩ := by
  have : ∀ m : Fin 16, (⟨#[48, 49, 50, 51, 52, 53, 54, 55, 56, 57, 97, 98, 99, 100, 101, 102]⟩ : ByteArray).extract m.val (m.val + 1) = ⟨#[VS.hxd m.val]⟩ := by decide +kernel
  exact this ⟨n, h⟩
theorem hexDigit_any (n : Nat) (w : World) (h : n < 16) :
    Calls Tryz.prog 55 #[.int .i64 (n : Int)] w fun e w' => e = .returned (.string ⟨#[VS.hxd n]⟩) ∧ Fr w w' := by
  have HE : Hid _ := hexTab n h
  have h1 : (n : Int) + 1 ≤ 16 := by omega
  go_enter Tryz.func55, Tryz.ntmps55
  go_wp2_with fail
  go_ret
  exact ⟨retB HE.out, Fr.refl _⟩

theorem exact1 (s : ByteArray) (i : Nat) (h : i < s.size) : (s.extract i (i + 1)).data.toList = [s[i]] := by
  have : (s.extract i (i + 1)).data.toList = (s.data.toList.drop i).take 1 := by simp
  rw [this, List.drop_eq_getElem_cons (by simpa using h)]
  rfl
theorem wrapIn (n : Int) (h : -9223372036854775808 ≤ n ∧ n ≤ 9223372036854775807) : wrap64 n = n := by unfold wrap64; omega
theorem wrapI (n : Int) (h : -9223372036854775808 ≤ n ∧ n ≤ 9223372036854775807) : IntKind.i64.wrap n = n := by simp only [IntKind.wrap]; simp [IntKind.min, IntKind.max, IntKind.signed, IntKind.bits]; omega
theorem s1_after {w w' : World} {a : Addr} {u : Value} (f : Fr w w') (h : w.cell? a = some u) : w'.cell? a = some u := (Below.cell f (World.block_lt_of_cell? _ _ h)).trans h
theorem drewN_fr (w : World) (n : Nat) : Fr w (w.drewN n) := ⟨rfl, rfl, rfl, Nat.le_refl _, fun _ _ => rfl⟩
set_option maxHeartbeats 2000000 in
theorem shownOf_text (s : ByteArray) (n : Int) (w : World) (hs : s.size ≤ 16) :
    Calls Tryz.prog 24 #[.agg #[.int .i64 2, .int .i64 n, .string s]] w fun e w' => e = .returned (.string ⟨(39 :: s.data.toList.flatMap VS.dbl ++ [39]).toArray⟩) ∧ Fr w w' := by
  obtain ⟨W0, hW0⟩ : ∃ W0, w.alloc (.cells #[.int .i64 2, .int .i64 n, .string s] 48) = W0 := ⟨_, rfl⟩
  have f0 : Fr w W0 := by rw [← hW0]; exact (Fr.refl w).alloc _
  have b0 : Bx W0 w.heap.size 2 n s := by rw [← hW0]; exact Bx.new _ _ _ _
  have HW : Hid _ := hW0
  have HF0 : Hid _ := f0
  have HB0 : Hid _ := b0
  clear hW0 f0 b0
  obtain ⟨Z, hZ⟩ : ∃ Z, 39 :: s.data.toList.flatMap VS.dbl ++ [39] = Z := ⟨_, rfl⟩
  rw [hZ]
  have HZ : Hid _ := hZ
  clear hZ
  go_enter Tryz.func24, Tryz.ntmps24
  go_wp2_with fail
  go_loopw [3, 4] (fun sv iv wr => ∃ (i : Nat) (O : ByteArray), iv = .int .i64 i ∧ sv = .string O ∧ i ≤ s.size ∧ O.data.toList = 39 :: (s.data.toList.take i).flatMap VS.dbl ∧ Fr W0 wr) (fun _ iv _ => s.size - (intOf iv).toNat)
  case atStart => exact ⟨0, ⟨#[39]⟩, rfl, rfl, Nat.zero_le _, rfl, by rw [HW.out]; exact Fr.refl _⟩
  case round =>
    obtain ⟨i, O, rfl, rfl, hi, hO, hfr⟩ := hrel
    have b1 := HB0.out.fr hfr
    have c0 := b1.c0
    have c2 := b1.c2
    have HF : Hid _ := hfr
    have hOl : O.size ≤ 1 + 2 * i := by
      have : O.data.toList.length = O.size := by rw [Array.length_toList]; rfl
      rw [← this, hO, List.length_cons]
      have := flat_len VS.dbl dbl_len (s.data.toList.take i) (n := i) (by rw [List.length_take]; omega)
      omega
    clear hfr b1
    by_cases hlt : i < s.size
    · have hltZ : (i : Int) < (s.size : Int) := by omega
      have hst := flat_step VS.dbl s i hlt
      by_cases h39 : s[i].toNat = 39
      · have h39' : (s[i].toNat : Int) = 39 := by omega
        have hdb : VS.dbl s[i] = [39, 39] := if_pos h39
        have HO : Hid ((O ++ ⟨#[39, 39]⟩).data.toList = 39 :: (s.data.toList.take (i + 1)).flatMap VS.dbl) := by
          unfold Hid
          rw [dataApp, hO, hst, hdb]
          rfl
        have hsz : O.size + 2 ≤ 9223372036854775807 := by omega
        clear hst hdb hO
        go_wp2_with fail
        go_roundw
        case rel => exact ⟨i + 1, _, by go_num, rfl, by omega, HO.out, HF.out⟩
        case measure => simp [intOf]; omega
      · have h39' : ¬ (s[i].toNat : Int) = 39 := by omega
        have h39b : ((s[i].toNat : Int) == 39) = false := by rw [beq_eq_false_iff_ne]; omega
        have hdb : VS.dbl s[i] = [s[i]] := if_neg h39
        have HO : Hid ((O ++ s.extract i (i + 1)).data.toList = 39 :: (s.data.toList.take (i + 1)).flatMap VS.dbl) := by
          unfold Hid
          rw [dataApp, hO, hst, hdb, exact1 s i hlt]
          rfl
        have hes : (s.extract i (i + 1)).size = 1 := by rw [ByteArray.size_extract]; omega
        have hsz : O.size + (s.extract i (i + 1)).size ≤ 9223372036854775807 := by omega
        have hi1 : (i : Int) + 1 ≤ (s.size : Int) := by omega
        clear hst hdb hO
        go_wp2_with fail
        go_roundw
        case rel => exact ⟨i + 1, _, by go_num, rfl, by omega, HO.out, HF.out⟩
        case measure => simp [intOf]; omega
    · obtain rfl : i = s.size := by omega
      have hltZ : ¬ (s.size : Int) < (s.size : Int) := by omega
      have HE : Hid (O ++ ⟨#[39]⟩ = ⟨Z.toArray⟩) := by
        unfold Hid
        apply baExt
        rw [dataApp, hO, ← HZ.out, List.take_of_length_le (by rw [Array.length_toList]; exact Nat.le_refl _)]
      have hsz : O.size + 1 ≤ 9223372036854775807 := by omega
      have HFF : Hid (Fr w wr) := Fr.trans (show Fr w W0 from HF0.out) HF.out
      clear hO
      go_wp2_with fail
      go_ret
      exact ⟨retB HE.out, HFF.out⟩
set_option maxHeartbeats 4000000 in
theorem shownOf_blob (s : ByteArray) (n : Int) (w : World) (hs : s.size ≤ 16) :
    Calls Tryz.prog 24 #[.agg #[.int .i64 3, .int .i64 n, .string s]] w fun e w' => e = .returned (.string ⟨(120 :: 39 :: s.data.toList.flatMap VS.hx ++ [39]).toArray⟩) ∧ Fr w w' := by
  obtain ⟨W0, hW0⟩ : ∃ W0, w.alloc (.cells #[.int .i64 3, .int .i64 n, .string s] 48) = W0 := ⟨_, rfl⟩
  have f0 : Fr w W0 := by rw [← hW0]; exact (Fr.refl w).alloc _
  have b0 : Bx W0 w.heap.size 3 n s := by rw [← hW0]; exact Bx.new _ _ _ _
  have HW : Hid _ := hW0
  have HF0 : Hid _ := f0
  have HB0 : Hid _ := b0
  clear hW0 f0 b0
  obtain ⟨Z, hZ⟩ : ∃ Z, 120 :: 39 :: s.data.toList.flatMap VS.hx ++ [39] = Z := ⟨_, rfl⟩
  rw [hZ]
  have HZ : Hid _ := hZ
  clear hZ
  go_enter Tryz.func24, Tryz.ntmps24
  go_wp2_with fail
  go_loopw [3, 4] (fun sv iv wr => ∃ (i : Nat) (O : ByteArray), iv = .int .i64 i ∧ sv = .string O ∧ i ≤ s.size ∧ O.data.toList = 120 :: 39 :: (s.data.toList.take i).flatMap VS.hx ∧ Fr W0 wr) (fun _ iv _ => s.size - (intOf iv).toNat)
  case atStart => exact ⟨0, ⟨#[120, 39]⟩, rfl, rfl, Nat.zero_le _, rfl, by rw [HW.out]; exact Fr.refl _⟩
  case round =>
    obtain ⟨i, O, rfl, rfl, hi, hO, hfr⟩ := hrel
    have b1 := HB0.out.fr hfr
    have c0 := b1.c0
    have c2 := b1.c2
    have HF : Hid _ := hfr
    have hOl : O.size ≤ 2 + 2 * i := by
      have : O.data.toList.length = O.size := by rw [Array.length_toList]; rfl
      rw [← this, hO, List.length_cons, List.length_cons]
      have := flat_len VS.hx hx_len (s.data.toList.take i) (n := i) (by rw [List.length_take]; omega)
      omega
    clear hfr b1
    by_cases hlt : i < s.size
    · have hltZ : (i : Int) < (s.size : Int) := by omega
      have hst := flat_step VS.hx s i hlt
      have hb : s[i].toNat < 256 := s[i].toNat_lt
      have HO : Hid ((O ++ ((⟨#[VS.hxd (s[i].toNat / 16)]⟩ : ByteArray) ++ ⟨#[VS.hxd (s[i].toNat % 16)]⟩)).data.toList = 120 :: 39 :: (s.data.toList.take (i + 1)).flatMap VS.hx) := by
        unfold Hid
        rw [dataApp, hO, hst, dataApp]
        rfl
      have qd : IntKind.i64.wrap ((IntKind.i64.wrap (s[i].toNat : Int)).tdiv 16) = ((s[i].toNat / 16 : Nat) : Int) := by
        have e1 : IntKind.i64.wrap (s[i].toNat : Int) = (s[i].toNat : Int) := wrapI _ ⟨by omega, by omega⟩
        rw [e1, Int.tdiv_eq_ediv_of_nonneg (by omega), show (s[i].toNat : Int) / 16 = ((s[i].toNat / 16 : Nat) : Int) by omega]
        exact wrapI _ ⟨by omega, by omega⟩
      have qr : (IntKind.i64.wrap (s[i].toNat : Int)).tmod 16 = ((s[i].toNat % 16 : Nat) : Int) := by
        have e1 : IntKind.i64.wrap (s[i].toNat : Int) = (s[i].toNat : Int) := wrapI _ ⟨by omega, by omega⟩
        rw [e1, Int.tmod_eq_emod_of_nonneg (by omega)]
        omega
      have d16 : s[i].toNat / 16 < 16 := by omega
      have r16 : s[i].toNat % 16 < 16 := by omega
      clear hst hO
      have hda := fun W => hexDigit_any (s[i].toNat / 16) W d16
      have hra := fun W => hexDigit_any (s[i].toNat % 16) W r16
      obtain ⟨ha, hha⟩ : ∃ ha : ByteArray, (⟨#[VS.hxd (s[i].toNat / 16)]⟩ : ByteArray) = ha := ⟨_, rfl⟩
      obtain ⟨hb', hhb⟩ : ∃ hb : ByteArray, (⟨#[VS.hxd (s[i].toNat % 16)]⟩ : ByteArray) = hb := ⟨_, rfl⟩
      have za : ha.size = 1 := by rw [← hha]; rfl
      have zb : hb'.size = 1 := by rw [← hhb]; rfl
      rw [hha] at hda HO
      rw [hhb] at hra HO
      have hsz1 : ha.size + hb'.size ≤ 9223372036854775807 := by omega
      have hsz4 : O.size + (ha.size + hb'.size) ≤ 9223372036854775807 := by omega
      have hsz : O.size + (ha ++ hb').size ≤ 9223372036854775807 := by rw [ByteArray.size_append]; omega
      have hn1 : (9223372036854775807 < ha.size + hb'.size) = False := by simp; omega
      have hn2 : (9223372036854775807 < O.size + (ha.size + hb'.size)) = False := by simp; omega
      have hn3 : (9223372036854775807 < O.size + (ha ++ hb').size) = False := by rw [ByteArray.size_append]; exact hn2
      clear hha hhb za zb d16 r16
      generalize s[i].toNat / 16 = da at *
      generalize s[i].toNat % 16 = ra at *
      go_wp2_with fail
      go_region_held3 (fun W' => W'.cell? ⟨w.heap.size, 2, none⟩ = some (.string s)) (first | exact c2 | assumption | exact s1_after (by assumption) (by assumption)) (first | (go_at_call 55; refine (hda _).mono ?_; rintro e w5 ⟨rfl, hfx⟩) | (go_at_call 55; refine (hra _).mono ?_; rintro e w6 ⟨rfl, hfy⟩))
      all_goals
        go_wp2_with fail
        go_roundw
        case rel => exact ⟨i + 1, _, by go_num, rfl, by omega, HO.out, Fr.trans HF.out (Fr.trans (drewN_fr _ 1) (Fr.trans (by assumption) (by assumption)))⟩
        case measure => simp [intOf]; omega
    · obtain rfl : i = s.size := by omega
      have hltZ : ¬ (s.size : Int) < (s.size : Int) := by omega
      have HE : Hid (O ++ ⟨#[39]⟩ = ⟨Z.toArray⟩) := by
        unfold Hid
        apply baExt
        rw [dataApp, hO, ← HZ.out, List.take_of_length_le (by rw [Array.length_toList]; exact Nat.le_refl _)]
      have hsz : O.size + 1 ≤ 9223372036854775807 := by omega
      have HFF : Hid (Fr w wr) := Fr.trans (show Fr w W0 from HF0.out) HF.out
      clear hO
      go_wp2_with fail
      go_ret
      exact ⟨retB HE.out, HFF.out⟩
end Go.Proofs.YtoagobpkenfbkaaGreatDoor
