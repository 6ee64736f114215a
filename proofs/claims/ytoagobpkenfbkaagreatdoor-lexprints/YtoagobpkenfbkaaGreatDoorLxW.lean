/-
  first: the token that a text begins by.
-/
import Derived.Test.YtoagobpkenfbkaaGreatDoorLxV
namespace Go.Proofs.YtoagobpkenfbkaaGreatDoor
open Go.ChangeShapes Go.WideShapes Go.ChangeAt Go.RowKit Go.Shelf
set_option linter.unusedVariables false
set_option linter.unusedSimpArgs false

theorem fsV_is (X : Except Nat (LX.Tk × Nat)) : ∃ (k n z e : Int) (c : ByteArray), fsV X = .tuple #[.agg #[.int .i64 k, .int .i64 0, .int .i64 n, .string c], .int .i64 z, .int .i64 e] := by
  match X with
  | .ok (t, n) => exact ⟨_, _, _, _, _, rfl⟩
  | .error e => exact ⟨_, _, _, _, _, rfl⟩
theorem pre_two {x : UInt8} {l : List UInt8} (h : Lib.hasPrefix l [x, 39] = true) : ∃ r, l = x :: 39 :: r := by
  unfold Lib.hasPrefix at h
  rw [List.isPrefixOf_iff_prefix] at h
  obtain ⟨r, rfl⟩ := h
  exact ⟨r, rfl⟩
theorem pre_self (x : UInt8) (t : List UInt8) : Lib.hasPrefix (x :: 39 :: t) [x, 39] = true := by
  unfold Lib.hasPrefix
  rw [List.isPrefixOf_iff_prefix]
  exact ⟨t, rfl⟩
theorem first_quote {l : List UInt8} (h : Lib.hasPrefix l [39] = true) : LX.first l = LX.lit 3 l (LX.qsize (l.drop 1)) ∧ LX.qsize (l.drop 1) ≤ l.length := by
  obtain ⟨r, rfl⟩ := one_yes h
  refine ⟨by
    unfold LX.first
    first | exact if_pos rfl | (simp only; rw [if_pos rfl]; rfl) | rfl, ?_⟩
  show LX.qsize r ≤ r.length + 1
  unfold LX.qsize
  cases hq : LX.qend r with
  | none => exact Nat.zero_le _
  | some n =>
    have := (LX.qend_le r.length r n (Nat.le_refl _) hq).2
    show n + 1 ≤ _
    omega
theorem blob_size (x : UInt8) (r : List UInt8) : LX.bsize r ≤ (x :: 39 :: r).length := by
  by_cases h : LX.bsize r = 0
  · omega
  · have := LX.bsize_is h
    simp only [List.length_cons]
    omega
theorem blob_ascii (x : UInt8) (hx : x.toNat < 128) (r : List UInt8) : ∀ b ∈ (x :: 39 :: r).take (LX.bsize r), b.toNat < 128 := by
  intro b hb
  by_cases h : LX.bsize r = 0
  · rw [h] at hb
    exact absurd hb (by simp)
  · rw [(LX.bsize_is h).1] at hb
    have hd : ∃ c t, r.drop (LX.run LX.hexd r) = c :: t ∧ c.toNat = 39 := by
      unfold LX.bsize at h
      cases hr : r.drop (LX.run LX.hexd r) with
      | nil => rw [hr] at h; exact absurd rfl h
      | cons c t =>
        rw [hr] at h
        by_cases hc : c.toNat = 39
        · exact ⟨c, t, rfl, hc⟩
        · exact absurd (if_neg hc) h
    obtain ⟨c, t, hct, hc⟩ := hd
    rw [show LX.run LX.hexd r + 3 = (LX.run LX.hexd r + 1) + 1 + 1 from rfl, List.take_succ_cons, List.take_succ_cons, List.take_add, hct] at hb
    rcases List.mem_cons.1 hb with rfl | hb
    · exact hx
    rcases List.mem_cons.1 hb with rfl | hb
    · decide
    rcases List.mem_append.1 hb with hb | hb
    · have := LX.hexd_iff.1 (LX.run_take LX.hexd _ b hb)
      omega
    · have : b = c := by simpa using hb
      subst this
      omega
theorem first_blob {l : List UInt8} (x : UInt8) (hx : x.toNat = 120 ∨ x.toNat = 88) (h : Lib.hasPrefix l [x, 39] = true) :
    LX.first l = LX.lit 4 l (LX.bsize (l.drop 2)) ∧ LX.bsize (l.drop 2) ≤ l.length ∧ 2 ≤ l.length ∧ ∀ b ∈ l.take (LX.bsize (l.drop 2)), b.toNat < 128 := by
  obtain ⟨r, rfl⟩ := pre_two h
  refine ⟨?_, blob_size x r, by simp, blob_ascii x (by omega) r⟩
  show (if x.toNat = 39 then _ else if _ then _ else _) = _
  rw [if_neg (by omega), if_pos ⟨hx, rfl⟩]
  rfl
theorem first_rest {b : UInt8} {r : List UInt8} (h1 : Lib.hasPrefix (b :: r) [39] = false) (h2 : Lib.hasPrefix (b :: r) [120, 39] = false) (h3 : Lib.hasPrefix (b :: r) [88, 39] = false) :
    LX.first (b :: r) = if LX.letter b = true then LX.word (b :: r) else if VS.dig b = true then LX.number (b :: r) else LX.sign (b :: r) := by
  show (if b.toNat = 39 then _ else if _ then _ else _) = _
  rw [if_neg (one_no h1 b r rfl), if_neg]
  rintro ⟨hb, hr⟩
  cases r with
  | nil => cases hr
  | cons c t =>
    obtain rfl : c = 39 := by simpa using hr
    rcases hb with hb | hb
    · obtain rfl : b = 120 := UInt8.toNat.inj hb
      rw [pre_self] at h2
      cases h2
    · obtain rfl : b = 88 := UInt8.toNat.inj hb
      rw [pre_self] at h3
      cases h3

set_option maxRecDepth 100000 in
set_option maxHeartbeats 4000000 in
theorem first_any (s : ByteArray) (w : World) (hs : s.size ≤ 140737488355327) (h0 : 0 < s.size) (hT : Tb w) :
    Calls Tryz.prog 19 #[.string s] w fun e w' => e = .returned (fsV (LX.first s.data.toList)) ∧ Fr w w' := by
  obtain ⟨W0, hW0⟩ : ∃ W0, w.alloc (.cells #[.int .i64 0, .int .i64 0, .int .i64 0, .string ⟨#[]⟩] 29) = W0 := ⟨_, rfl⟩
  have f0 : Fr w W0 := by rw [← hW0]; exact (Fr.refl w).alloc _
  have hb0 : Bt W0 w.heap.size 0 0 0 ⟨#[]⟩ := by rw [← hW0]; exact Bt.new _ _ _ _ _
  have hT0 := hT.fr f0
  have HW : Hid _ := hW0
  clear hW0 hT
  have hlen := dlenx s
  have h0Z : (0 : Int) < (s.size : Int) := by omega
  have p1 := Tryz.strings_HasPrefix s ⟨#[39]⟩ W0
  have p2 := Tryz.strings_HasPrefix s ⟨#[120, 39]⟩ W0
  have p3 := Tryz.strings_HasPrefix s ⟨#[88, 39]⟩ W0
  have hfq := @first_quote s.data.toList
  have hfx := @first_blob s.data.toList 120 (Or.inl rfl)
  have hfg := @first_blob s.data.toList 88 (Or.inr rfl)
  have hd : s.data.toList = s[0] :: s.data.toList.drop 1 := by
    have e : s.data.toList.drop 0 = s[0] :: s.data.toList.drop (0 + 1) := by
      rw [List.drop_eq_getElem_cons (by omega)]
      rfl
    exact e
  have hfr := @first_rest s[0] (s.data.toList.drop 1)
  rw [← hd] at hfr
  rw [show (⟨#[39]⟩ : ByteArray).data.toList = [39] from rfl] at p1
  rw [show (⟨#[120, 39]⟩ : ByteArray).data.toList = [120, 39] from rfl] at p2
  rw [show (⟨#[88, 39]⟩ : ByteArray).data.toList = [88, 39] from rfl] at p3
  clear hd
  cases e1 : Lib.hasPrefix s.data.toList [39] with
  | true =>
    rw [e1] at p1
    obtain ⟨hq, hle⟩ := hfq e1
    have c1 := quotedSize_any s W0 hs h0
    have c2 := literalOf_text s (LX.qsize (s.data.toList.drop 1)) W0 hs (by omega) hT0
    rw [hq]
    generalize LX.lit 3 s.data.toList (LX.qsize (s.data.toList.drop 1)) = X at *
    generalize LX.qsize (s.data.toList.drop 1) = N at *
    obtain ⟨k, n, z, e, c, hX⟩ := fsV_is X
    rw [hX] at c2
    have HX : Hid _ := hX
    clear p2 p3 hfq hfx hfg hfr e1 hq hX hlen hT0
    go_enter Tryz.func19, Tryz.ntmps19
    go_wp2_with fail
    rw [HW.out]
    refine p1.mono ?_
    rintro _ w1 ⟨rfl, rfl⟩
    go_wp2_with fail
    refine c1.mono ?_
    rintro _ w1 ⟨rfl, rfl⟩
    go_wp2_with fail
    refine c2.mono ?_
    rintro _ w2 ⟨rfl, f1⟩
    have hb1 := hb0.fr f1
    have d0 := hb1.c0
    have d1 := hb1.c1
    have d2 := hb1.c2
    have d3 := hb1.c3
    have z0 := hb1.z 0
    have z1 := hb1.z 1
    have z2 := hb1.z 2
    have z3 := hb1.z 3
    have F1 : Hid (Fr w w2) := f0.trans f1
    clear p1 c1 c2 hb0 f0 f1 HW hb1
    go_wp2_with fail
    refine bodyPost_ret (v := .tuple #[.agg #[.int .i64 k, .int .i64 0, .int .i64 n, .string c], .int .i64 z, .int .i64 e]) (by simp [results, Tryz.results19, go_sem, d0, d1, d2, d3]) rfl ?_
    exact ⟨by rw [HX.out], fr_set4 F1.out (Nat.le_refl _) _ _ _ _⟩
  | false =>
    rw [e1] at p1
    cases e2 : Lib.hasPrefix s.data.toList [120, 39] with
    | true =>
      rw [e2] at p2
      obtain ⟨hq, hle, h2, ha⟩ := hfx e2
      have c1 := blobSize_any s W0 hs (by omega)
      have c2 := literalOf_blob s (LX.bsize (s.data.toList.drop 2)) W0 hs (by omega) hT0 ha
      rw [hq]
      generalize LX.lit 4 s.data.toList (LX.bsize (s.data.toList.drop 2)) = X at *
      generalize LX.bsize (s.data.toList.drop 2) = N at *
      obtain ⟨k, n, z, e, c, hX⟩ := fsV_is X
      rw [hX] at c2
      have HX : Hid _ := hX
      clear p3 hfq hfx hfg hfr e1 e2 hq hX hlen hT0 ha
      go_enter Tryz.func19, Tryz.ntmps19
      go_wp2_with fail
      rw [HW.out]
      refine p1.mono ?_
      rintro _ w1 ⟨rfl, rfl⟩
      go_wp2_with fail
      refine p2.mono ?_
      rintro _ w1 ⟨rfl, rfl⟩
      go_wp2_with fail
      refine c1.mono ?_
      rintro _ w1 ⟨rfl, rfl⟩
      go_wp2_with fail
      refine c2.mono ?_
      rintro _ w2 ⟨rfl, f1⟩
      have hb1 := hb0.fr f1
      have d0 := hb1.c0
      have d1 := hb1.c1
      have d2 := hb1.c2
      have d3 := hb1.c3
      have z0 := hb1.z 0
      have z1 := hb1.z 1
      have z2 := hb1.z 2
      have z3 := hb1.z 3
      have F1 : Hid (Fr w w2) := f0.trans f1
      clear p1 p2 c1 c2 hb0 f0 f1 HW hb1
      go_wp2_with fail
      refine bodyPost_ret (v := .tuple #[.agg #[.int .i64 k, .int .i64 0, .int .i64 n, .string c], .int .i64 z, .int .i64 e]) (by simp [results, Tryz.results19, go_sem, d0, d1, d2, d3]) rfl ?_
      exact ⟨by rw [HX.out], fr_set4 F1.out (Nat.le_refl _) _ _ _ _⟩
    | false =>
      rw [e2] at p2
      cases e3 : Lib.hasPrefix s.data.toList [88, 39] with
      | true =>
        rw [e3] at p3
        obtain ⟨hq, hle, h2, ha⟩ := hfg e3
        have c1 := blobSize_any s W0 hs (by omega)
        have c2 := literalOf_blob s (LX.bsize (s.data.toList.drop 2)) W0 hs (by omega) hT0 ha
        rw [hq]
        generalize LX.lit 4 s.data.toList (LX.bsize (s.data.toList.drop 2)) = X at *
        generalize LX.bsize (s.data.toList.drop 2) = N at *
        obtain ⟨k, n, z, e, c, hX⟩ := fsV_is X
        rw [hX] at c2
        have HX : Hid _ := hX
        clear hfq hfx hfg hfr e1 e2 e3 hq hX hlen hT0 ha
        go_enter Tryz.func19, Tryz.ntmps19
        go_wp2_with fail
        rw [HW.out]
        refine p1.mono ?_
        rintro _ w1 ⟨rfl, rfl⟩
        go_wp2_with fail
        refine p2.mono ?_
        rintro _ w1 ⟨rfl, rfl⟩
        go_wp2_with fail
        refine p3.mono ?_
        rintro _ w1 ⟨rfl, rfl⟩
        go_wp2_with fail
        refine c1.mono ?_
        rintro _ w1 ⟨rfl, rfl⟩
        go_wp2_with fail
        refine c2.mono ?_
        rintro _ w2 ⟨rfl, f1⟩
        have hb1 := hb0.fr f1
        have d0 := hb1.c0
        have d1 := hb1.c1
        have d2 := hb1.c2
        have d3 := hb1.c3
        have z0 := hb1.z 0
        have z1 := hb1.z 1
        have z2 := hb1.z 2
        have z3 := hb1.z 3
        have F1 : Hid (Fr w w2) := f0.trans f1
        clear p1 p2 p3 c1 c2 hb0 f0 f1 HW hb1
        go_wp2_with fail
        refine bodyPost_ret (v := .tuple #[.agg #[.int .i64 k, .int .i64 0, .int .i64 n, .string c], .int .i64 z, .int .i64 e]) (by simp [results, Tryz.results19, go_sem, d0, d1, d2, d3]) rfl ?_
        exact ⟨by rw [HX.out], fr_set4 F1.out (Nat.le_refl _) _ _ _ _⟩
      | false =>
        rw [e3] at p3
        replace hfr := hfr e1 e2 e3
        clear hfq hfx hfg e1 e2 e3 hlen
        have l1 := isLetter_any s[0] W0
        have l2 := isDigit_any s[0] W0
        cases b1 : LX.letter s[0] with
        | true =>
          rw [b1] at l1
          rw [if_pos b1] at hfr
          have c2 := wordOf_any s W0 hs
          rw [hfr]
          generalize LX.word s.data.toList = X at *
          obtain ⟨k, n, z, e, c, hX⟩ := fsV_is X
          rw [hX] at c2
          have HX : Hid _ := hX
          clear hfr hX hT0 b1 l2
          go_enter Tryz.func19, Tryz.ntmps19
          go_wp2_with fail
          rw [HW.out]
          refine p1.mono ?_
          rintro _ w1 ⟨rfl, rfl⟩
          go_wp2_with fail
          refine p2.mono ?_
          rintro _ w1 ⟨rfl, rfl⟩
          go_wp2_with fail
          refine p3.mono ?_
          rintro _ w1 ⟨rfl, rfl⟩
          go_wp2_with fail
          refine l1.mono ?_
          rintro _ w1 ⟨rfl, rfl⟩
          go_wp2_with fail
          refine c2.mono ?_
          rintro _ w2 ⟨rfl, f1⟩
          have hb1 := hb0.fr f1
          have d0 := hb1.c0
          have d1 := hb1.c1
          have d2 := hb1.c2
          have d3 := hb1.c3
          have z0 := hb1.z 0
          have z1 := hb1.z 1
          have z2 := hb1.z 2
          have z3 := hb1.z 3
          have F1 : Hid (Fr w w2) := f0.trans f1
          clear p1 p2 p3 l1 c2 hb0 f0 f1 HW hb1
          go_wp2_with fail
          refine bodyPost_ret (v := .tuple #[.agg #[.int .i64 k, .int .i64 0, .int .i64 n, .string c], .int .i64 z, .int .i64 e]) (by simp [results, Tryz.results19, go_sem, d0, d1, d2, d3]) rfl ?_
          exact ⟨by rw [HX.out], fr_set4 F1.out (Nat.le_refl _) _ _ _ _⟩
        | false =>
          rw [b1] at l1
          rw [if_neg (by rw [b1]; decide)] at hfr
          cases b2 : VS.dig s[0] with
          | true =>
            rw [b2] at l2
            rw [if_pos b2] at hfr
            have c2 := numberOf_any s W0 hs hT0
            rw [hfr]
            generalize LX.number s.data.toList = X at *
            obtain ⟨k, n, z, e, c, hX⟩ := fsV_is X
            rw [hX] at c2
            have HX : Hid _ := hX
            clear hfr hX hT0 b1 b2
            go_enter Tryz.func19, Tryz.ntmps19
            go_wp2_with fail
            rw [HW.out]
            refine p1.mono ?_
            rintro _ w1 ⟨rfl, rfl⟩
            go_wp2_with fail
            refine p2.mono ?_
            rintro _ w1 ⟨rfl, rfl⟩
            go_wp2_with fail
            refine p3.mono ?_
            rintro _ w1 ⟨rfl, rfl⟩
            go_wp2_with fail
            refine l1.mono ?_
            rintro _ w1 ⟨rfl, rfl⟩
            go_wp2_with fail
            refine l2.mono ?_
            rintro _ w1 ⟨rfl, rfl⟩
            go_wp2_with fail
            refine c2.mono ?_
            rintro _ w2 ⟨rfl, f1⟩
            have hb1 := hb0.fr f1
            have d0 := hb1.c0
            have d1 := hb1.c1
            have d2 := hb1.c2
            have d3 := hb1.c3
            have z0 := hb1.z 0
            have z1 := hb1.z 1
            have z2 := hb1.z 2
            have z3 := hb1.z 3
            have F1 : Hid (Fr w w2) := f0.trans f1
            clear p1 p2 p3 l1 l2 c2 hb0 f0 f1 HW hb1
            go_wp2_with fail
            refine bodyPost_ret (v := .tuple #[.agg #[.int .i64 k, .int .i64 0, .int .i64 n, .string c], .int .i64 z, .int .i64 e]) (by simp [results, Tryz.results19, go_sem, d0, d1, d2, d3]) rfl ?_
            exact ⟨by rw [HX.out], fr_set4 F1.out (Nat.le_refl _) _ _ _ _⟩
          | false =>
            rw [b2] at l2
            rw [if_neg (by rw [b2]; decide)] at hfr
            have c2 := signOf_any s W0 hT0
            rw [hfr]
            generalize LX.sign s.data.toList = X at *
            obtain ⟨k, n, z, e, c, hX⟩ := fsV_is X
            rw [hX] at c2
            have HX : Hid _ := hX
            clear hfr hX hT0 b1 b2
            go_enter Tryz.func19, Tryz.ntmps19
            go_wp2_with fail
            rw [HW.out]
            refine p1.mono ?_
            rintro _ w1 ⟨rfl, rfl⟩
            go_wp2_with fail
            refine p2.mono ?_
            rintro _ w1 ⟨rfl, rfl⟩
            go_wp2_with fail
            refine p3.mono ?_
            rintro _ w1 ⟨rfl, rfl⟩
            go_wp2_with fail
            refine l1.mono ?_
            rintro _ w1 ⟨rfl, rfl⟩
            go_wp2_with fail
            refine l2.mono ?_
            rintro _ w1 ⟨rfl, rfl⟩
            go_wp2_with fail
            refine c2.mono ?_
            rintro _ w2 ⟨rfl, f1⟩
            have hb1 := hb0.fr f1
            have d0 := hb1.c0
            have d1 := hb1.c1
            have d2 := hb1.c2
            have d3 := hb1.c3
            have z0 := hb1.z 0
            have z1 := hb1.z 1
            have z2 := hb1.z 2
            have z3 := hb1.z 3
            have F1 : Hid (Fr w w2) := f0.trans f1
            clear p1 p2 p3 l1 l2 c2 hb0 f0 f1 HW hb1
            go_wp2_with fail
            refine bodyPost_ret (v := .tuple #[.agg #[.int .i64 k, .int .i64 0, .int .i64 n, .string c], .int .i64 z, .int .i64 e]) (by simp [results, Tryz.results19, go_sem, d0, d1, d2, d3]) rfl ?_
            exact ⟨by rw [HX.out], fr_set4 F1.out (Nat.le_refl _) _ _ _ _⟩
end Go.Proofs.YtoagobpkenfbkaaGreatDoor
