/-
  Open of 256 bytes at a place.
-/
import Derived.Test.YtfjdialbjbomdaaDoorPgG
namespace Go.Proofs.YtfjdialbjbomdaaDoor
open Go.ChangeShapes Go.WideShapes Go.ChangeAt Go.RowKit
set_option linter.unusedVariables false
set_option linter.unusedSimpArgs false

theorem cell_fr {w w' : World} {a : Addr} {v : Value} (h : w.cell? a = some v) (f : Fr w w') : w'.cell? a = some v := (Below.cell f (World.block_lt_of_cell? _ _ h)).trans h
theorem two_int (b k : Nat) (ki : Int) (hki : ki = (k : Int)) (x : Nat) (l : List UInt8) (w : World) (h : Sht w b l) (hk : k + 1 < 256) (hx : PG.num l k = x) :
    Calls Tryd.prog 21 #[.pointer (some ⟨b, 0, none⟩), .int .i64 ki] w fun e w' => e = .returned (.int .i64 (x : Int)) ∧ Fr w w' := by
  subst hki hx
  exact two_any b k l w h hk
theorem fr_zero {w W : World} (f : Fr w W) {g : Nat} (hg : w.heap.size ≤ g) (a b c d : Value) : Fr w ((((W.setCell ⟨g, 0, none⟩ a).setCell ⟨g, 1, none⟩ b).setCell ⟨g, 2, none⟩ c).setCell ⟨g, 3, none⟩ d) :=
  Below.setCell (p := ⟨g, 3, none⟩) (Below.setCell (p := ⟨g, 2, none⟩) (Below.setCell (p := ⟨g, 1, none⟩) (Below.setCell (p := ⟨g, 0, none⟩) f hg a) hg b) hg c) hg d

theorem bp_set {W : World} {g : Nat} {a b c : Int} {t : ByteArray} (h : Bp W g a b c t) (no x2 x3 : Int) (B : ByteArray) :
    Bp ((((W.setCell ⟨g, 0, none⟩ (.int .i64 no)).setCell ⟨g, 1, none⟩ (.int .i64 x2)).setCell ⟨g, 2, none⟩ (.int .i64 x3)).setCell ⟨g, 3, none⟩ (.string B)) g no x2 x3 B := by
  obtain ⟨hg⟩ := h
  have h1 := setCell_eq_setRow W g 0 _ _ _ (.int .i64 no) hg
  have g1 := setRow_heap W g _ #[.int .i64 no, .int .i64 b, .int .i64 c, .string t] _ _ hg
  rw [show (#[Value.int .i64 a, .int .i64 b, .int .i64 c, .string t]).setIfInBounds 0 (.int .i64 no) = #[.int .i64 no, .int .i64 b, .int .i64 c, .string t] from rfl] at h1
  rw [← h1] at g1
  have h2 := setCell_eq_setRow _ g 1 _ _ _ (.int .i64 x2) g1
  have g2 := setRow_heap _ g _ #[.int .i64 no, .int .i64 x2, .int .i64 c, .string t] _ _ g1
  rw [show (#[Value.int .i64 no, .int .i64 b, .int .i64 c, .string t]).setIfInBounds 1 (.int .i64 x2) = #[.int .i64 no, .int .i64 x2, .int .i64 c, .string t] from rfl] at h2
  rw [← h2] at g2
  have h3 := setCell_eq_setRow _ g 2 _ _ _ (.int .i64 x3) g2
  have g3 := setRow_heap _ g _ #[.int .i64 no, .int .i64 x2, .int .i64 x3, .string t] _ _ g2
  rw [show (#[Value.int .i64 no, .int .i64 x2, .int .i64 c, .string t]).setIfInBounds 2 (.int .i64 x3) = #[.int .i64 no, .int .i64 x2, .int .i64 x3, .string t] from rfl] at h3
  rw [← h3] at g3
  have h4 := setCell_eq_setRow _ g 3 _ _ _ (.string B) g3
  have g4 := setRow_heap _ g _ #[.int .i64 no, .int .i64 x2, .int .i64 x3, .string B] _ _ g3
  rw [show (#[Value.int .i64 no, .int .i64 x2, .int .i64 x3, .string t]).setIfInBounds 3 (.string B) = #[.int .i64 no, .int .i64 x2, .int .i64 x3, .string B] from rfl] at h4
  rw [← h4] at g4
  exact ⟨g4⟩

set_option maxRecDepth 100000 in
set_option maxHeartbeats 16000000 in
theorem open_core (no : Int) (s M B : ByteArray) (m0 m1 m2 m3 : UInt8) (x0 x2 x3 x5 e : Nat) (c : Nat) (w : World) (h0 : 0 ≤ no) (h1 : no ≤ 31) (hs : s.size = 256)
    (hm : PG.four (SM.more 0 (s.data.toList.take 252)) = [m0, m1, m2, m3]) (hM : M = ⟨[m0, m1, m2, m3].toArray⟩)
    (hx0 : PG.num s.data.toList 0 = x0) (hx2 : ∀ h : 2 < s.data.toList.length, s.data.toList[2].toNat = x2) (hx3 : PG.num s.data.toList 3 = x3) (hx5 : PG.num s.data.toList 5 = x5)
    (he : e = min (7 + x5) 256) (hB : s.extract 7 e = B) (hx2l : x2 < 256) (hx3l : x3 < 65536) (hx5l : x5 < 65536) (hx0l : x0 < 65536)
    (hck : ∀ W, Calls Tryd.prog 15 #[.agg #[.int .i64 no, .int .i64 (x2 : Int), .int .i64 (x3 : Int), .string B]] W fun r w' => r = .returned (.int .i64 (c : Int)) ∧ Fr W w')
    (hce : c = 0 → e ≤ 252)
    (R : Value) (hR1 : s.extract 252 256 ≠ M → R = .tuple #[.agg #[.int .i64 0, .int .i64 0, .int .i64 0, .string ⟨#[]⟩], .int .i64 11])
    (hR2 : s.extract 252 256 = M → (x0 : Int) ≠ no → R = .tuple #[.agg #[.int .i64 0, .int .i64 0, .int .i64 0, .string ⟨#[]⟩], .int .i64 11])
    (hR3 : s.extract 252 256 = M → (x0 : Int) = no → c ≠ 0 → R = .tuple #[.agg #[.int .i64 0, .int .i64 0, .int .i64 0, .string ⟨#[]⟩], .int .i64 (c : Int)])
    (hR4 : s.extract 252 256 = M → (x0 : Int) = no → c = 0 → Nz (s.extract e 252).data.toList → R = .tuple #[.agg #[.int .i64 0, .int .i64 0, .int .i64 0, .string ⟨#[]⟩], .int .i64 1])
    (hR5 : s.extract 252 256 = M → (x0 : Int) = no → c = 0 → ¬ Nz (s.extract e 252).data.toList → R = .tuple #[.agg #[.int .i64 no, .int .i64 (x2 : Int), .int .i64 (x3 : Int), .string B], .int .i64 0]) :
    Calls Tryd.prog 10 #[.int .i64 no, .string s] w fun r w' => r = .returned R ∧ Fr w w' := by
  have hc := fun W => isPlace_any no W
  have e0 : decide (0 ≤ no ∧ no ≤ 31) = true := by simp; omega
  rw [e0] at hc
  have hll : s.data.toList.length = 256 := by rw [dl_len]; exact hs
  obtain ⟨W0, hW0⟩ : ∃ W0, w.alloc (.cells #[.int .i64 0, .int .i64 0, .int .i64 0, .string ⟨#[]⟩] 23) = W0 := ⟨_, rfl⟩
  have f0 : Fr w W0 := by rw [← hW0]; exact (Fr.refl w).alloc _
  have b0 : Bp W0 w.heap.size 0 0 0 ⟨#[]⟩ := by rw [← hW0]; exact Bp.new _ _ _ _ _
  obtain ⟨g, hg⟩ : ∃ g, w.heap.size = g := ⟨_, rfl⟩
  rw [hg] at b0
  obtain ⟨b, hb⟩ : ∃ b, W0.heap.size = b := ⟨_, rfl⟩
  obtain ⟨W1, hW1⟩ : ∃ W1, W0.alloc (.cells (byteV nought256).toArray 42) = W1 := ⟨_, rfl⟩
  have s1 : Sht W1 b nought256 := by rw [← hW1, ← hb]; exact Sht.made _
  have f1 : Fr W0 W1 := by rw [← hW1]; exact (Fr.refl W0).alloc _
  obtain ⟨W2, hr2, s2, f2⟩ := copy_str W1 b 0 256 256 _ s 3 s1 (by omega) (by omega)
  rw [lay_all _ hll] at s2
  rw [hs] at hr2
  have F2 : Fr W0 W2 := Below.trans f1 (by rw [hb]; exact f2 b (Nat.le_refl _))
  have c3 := sum_four b _ W2 s2 m0 m1 m2 m3 hm
  have hz := zero_sheet
  have B2 := b0.fr F2
  have HB2 : Hid _ := B2
  have HF0 : Hid _ := f0
  have HF2 : Hid _ := F2
  have HS2 : Hid _ := s2
  have HCK : Hid _ := hck
  clear e0 f0 f1 f2 F2 s1 s2 B2 hm hck
  go_enter Tryd.func10, Tryd.ntmps10
  go_wp2_with fail
  refine (hc _).mono ?_
  rintro _ w1 ⟨rfl, rfl⟩
  clear hc hW0
  go_wp2_with fail
  refine c3.mono ?_
  rintro _ w3 ⟨rfl, f3⟩
  have s3 := HS2.out.fr f3
  have b3 := HB2.out.fr f3
  have F3 : Hid (Fr w w3) := Fr.trans HF0.out (Fr.trans HF2.out f3)
  clear f3 c3 HS2 HB2 HF2 HF0 hr2 hz hW1 hb b0 hll
  obtain ⟨d, hd⟩ : ∃ d, w3.heap.size = d := ⟨_, rfl⟩
  obtain ⟨W9, hW9⟩ : ∃ W9, w3.alloc (.cells #[.int .u8 0, .int .u8 0, .int .u8 0, .int .u8 0] 45) = W9 := ⟨_, rfl⟩
  have hg9 : W9.heap[d]? = some (.cells #[.int .u8 0, .int .u8 0, .int .u8 0, .int .u8 0] 45 (0, 0)) := by rw [← hW9, ← hd]; exact heap_alloc_new w3 _
  have f9 : Fr w3 W9 := by rw [← hW9]; exact (Fr.refl w3).alloc _
  obtain ⟨p0, p1, p2, p3, z0, z1, z2, z3, hfv, hbe⟩ := four_box (m0 := m0) (m1 := m1) (m2 := m2) (m3 := m3) hg9
  obtain ⟨Wa, hWa⟩ : ∃ Wa, (((W9.setCell ⟨d, 0, none⟩ (.int .u8 (m0.toNat : Int))).setCell ⟨d, 1, none⟩ (.int .u8 (m1.toNat : Int))).setCell ⟨d, 2, none⟩ (.int .u8 (m2.toNat : Int))).setCell ⟨d, 3, none⟩ (.int .u8 (m3.toNat : Int)) = Wa := ⟨_, rfl⟩
  rw [hWa] at hfv hbe
  have fa : Fr w3 Wa := Below.trans f9 (by rw [hd]; exact hbe)
  have sa := s3.fr fa
  have ba := b3.fr fa
  have Fa : Hid (Fr w Wa) := F3.out.trans fa
  have hcv := conv_fv (w := Wa.drew) (g := d) (m := [m0, m1, m2, m3]) ⟨hfv.len, hfv.at_⟩
  rw [← hM] at hcv
  clear hg9 f9 fa hfv hbe s3 b3 F3 hM
  go_wp2_with fail
  clear p0 p1 p2 p3 z0 z1 z2 z3 hWa hW9 hd
  by_cases hEq : s.extract 252 256 = M
  · have t0 := two_int b 0 0 rfl x0 _ Wa.drew sa.drew (by decide) hx0
    rw [← hEq] at hcv
    by_cases hno : (x0 : Int) = no
    · have HR3 : Hid _ := hR3 hEq hno
      have HR4 : Hid _ := hR4 hEq hno
      have HR5 : Hid _ := hR5 hEq hno
      have n1 : ((x0 : Int) == no) = true := by simpa using hno
      have n2 : ((x0 : Int) != no) = false := by simpa using hno
      clear hR1 hR2 hR3 hR4 hR5 hEq hx0
      go_region_with (go_at_call 21; refine t0.mono ?_; rintro _ w5 ⟨rfl, f5⟩)
      have b5 := ba.fr (Fr.trans ((Fr.refl _).drew) f5)
      have s5 := sa.fr (Fr.trans ((Fr.refl _).drew) f5)
      have F5 : Hid (Fr w w5) := Fr.trans Fa.out (Fr.trans ((Fr.refl _).drew) f5)
      clear f5 Fa ba sa t0 hcv
      have t5 := two_int b 5 5 rfl x5 _ w5 s5 (by decide) hx5
      go_wp2_with fail
      refine t5.mono ?_
      rintro _ w6 ⟨rfl, f6⟩
      have b6 := b5.fr f6
      have s6 := s5.fr f6
      have F6 : Hid (Fr w w6) := F5.out.trans f6
      clear f6 F5 b5 s5 t5
      have r2 := s6.cell 2 (by rw [s6.len]; decide)
      rw [hx2 (by rw [s6.len]; decide)] at r2
      have r2a := cell_fr r2 ((Fr.refl w6).alloc (.cells #[.int .i64 0, .int .i64 0, .int .i64 0, .string ⟨#[]⟩] 23))
      have t3 := fun (W : World) (f : Fr w6 W) => two_int b 3 3 rfl x3 _ W (s6.fr f) (by decide) hx3
      have HCE : Hid _ := hce
      have hw2 : IntKind.i64.wrap (x2 : Int) = (x2 : Int) := by simp only [IntKind.wrap]; simp [IntKind.min, IntKind.max, IntKind.signed, IntKind.bits]; omega
      clear hx5 hx3 hx2 hce
      rcases Nat.lt_or_ge 256 (7 + x5) with hA | hA
      · obtain rfl : e = 256 := by omega
        have hA1 : (256 : Int) < 7 + (x5 : Int) := by omega
        have hc0 : c ≠ 0 := fun q => by have := HCE.out q; omega
        have HR : Hid _ := HR3.out hc0
        have cc1 : ((c : Int) != 0) = true := by simp; omega
        have cc2 : ¬ ((c : Int) = 0) := by omega
        clear he hA HR3 HR4 HR5 HCE hc0
        go_wp2_with fail
        go_region_with (first
          | (go_at_call 21; refine (t3 _ ((Fr.refl _).drew)).mono ?_; rintro _ w7 ⟨rfl, f7⟩; have r2' := cell_fr r2 (Fr.trans ((Fr.refl _).drew) f7); have r2'' := cell_fr r2' ((Fr.refl w7).alloc (.cells #[.int .i64 0, .int .i64 0, .int .i64 0, .string ⟨#[]⟩] 23)); have bf := Bp.new w7 no x2 x3 B; have ff : Fr w6 (w7.alloc (.cells #[.int .i64 no, .int .i64 (x2 : Int), .int .i64 (x3 : Int), .string B] 23)) := (Fr.trans ((Fr.refl _).drew) f7).alloc _)
          | (go_at_call 21; refine (t3 _ (((Fr.refl _).alloc _).drew)).mono ?_; rintro _ w7 ⟨rfl, f7⟩; have r2' := cell_fr r2 (Fr.trans (((Fr.refl _).alloc _).drew) f7); have u7 := (Bp.new w6 0 0 0 ⟨#[]⟩).fr (Fr.trans ((Fr.refl _).drew) f7); have k0 := u7.c0; have k1 := u7.c1; have k2 := u7.c2; have k3 := u7.c3; have zz0 := u7.z 0; have zz1 := u7.z 1; have zz2 := u7.z 2; have zz3 := u7.z 3; have bf := bp_set u7 no x2 x3 B; have ff := fr_zero (Fr.trans (((Fr.refl w6).alloc _).drew) f7) (Nat.le_refl _) (.int .i64 no) (.int .i64 (x2 : Int)) (.int .i64 (x3 : Int)) (.string B)))
        all_goals
          have BF : Hid _ := bf
          have FF : Hid _ := ff
          clear bf ff
          go_wp2_with fail
          refine (HCK.out _).mono ?_
          rintro _ w8 ⟨rfl, f8⟩
          have F8 : Hid (Fr w6 w8) := Fr.trans FF.out f8
          have bf8 := BF.out.fr f8
          have b8 := b6.fr F8.out
          clear f8 FF BF
          have q0 := b8.c0
          have q1 := b8.c1
          have q2 := b8.c2
          have q3 := b8.c3
          have z0 := b8.z 0
          have z1 := b8.z 1
          have z2 := b8.z 2
          have z3 := b8.z 3
          go_wp2_with fail
          refine bodyPost_ret (v := .tuple #[.agg #[.int .i64 0, .int .i64 0, .int .i64 0, .string ⟨#[]⟩], .int .i64 (c : Int)]) (by simp [results, Tryd.results10, go_sem, q0, q1, q2, q3]) rfl ?_
          exact ⟨by rw [HR.out], fr_zero (Fr.trans F6.out F8.out) (by rw [hg]; exact Nat.le_refl _) _ _ _ _⟩
      · have h7 : 7 + (x5 : Int) = (e : Int) := by omega
        have hA1 : (e : Int) ≤ 256 := by omega
        have hA0 : (7 : Int) ≤ (e : Int) := by omega
        by_cases hc0 : c = 0
        · have hle := HCE.out hc0
          have hA2 : (e : Int) ≤ 252 := by omega
          subst hc0
          have HR4' : Hid _ := HR4.out rfl
          have HR5' : Hid _ := HR5.out rfl
          have hex : (s.extract e 252).size ≤ 9223372036854775807 := by rw [ByteArray.size_extract]; omega
          clear he hA HR3 HR4 HR5 HCE hle
          go_wp2_with fail
          go_region_with (first
            | (go_at_call 21; refine (t3 _ ((Fr.refl _).drew)).mono ?_; rintro _ w7 ⟨rfl, f7⟩; have r2' := cell_fr r2 (Fr.trans ((Fr.refl _).drew) f7); have r2'' := cell_fr r2' ((Fr.refl w7).alloc (.cells #[.int .i64 0, .int .i64 0, .int .i64 0, .string ⟨#[]⟩] 23)); have bf := Bp.new w7 no x2 x3 B; have ff : Fr w6 (w7.alloc (.cells #[.int .i64 no, .int .i64 (x2 : Int), .int .i64 (x3 : Int), .string B] 23)) := (Fr.trans ((Fr.refl _).drew) f7).alloc _)
            | (go_at_call 21; refine (t3 _ (((Fr.refl _).alloc _).drew)).mono ?_; rintro _ w7 ⟨rfl, f7⟩; have r2' := cell_fr r2 (Fr.trans (((Fr.refl _).alloc _).drew) f7); have u7 := (Bp.new w6 0 0 0 ⟨#[]⟩).fr (Fr.trans ((Fr.refl _).drew) f7); have k0 := u7.c0; have k1 := u7.c1; have k2 := u7.c2; have k3 := u7.c3; have zz0 := u7.z 0; have zz1 := u7.z 1; have zz2 := u7.z 2; have zz3 := u7.z 3; have bf := bp_set u7 no x2 x3 B; have ff := fr_zero (Fr.trans (((Fr.refl w6).alloc _).drew) f7) (Nat.le_refl _) (.int .i64 no) (.int .i64 (x2 : Int)) (.int .i64 (x3 : Int)) (.string B)))
          all_goals
            have BF : Hid _ := bf
            have FF : Hid _ := ff
            clear bf ff
            go_wp2_with fail
            refine (HCK.out _).mono ?_
            rintro _ w8 ⟨rfl, f8⟩
            have F8 : Hid (Fr w6 w8) := Fr.trans FF.out f8
            have bf8 := BF.out.fr f8
            have b8 := b6.fr F8.out
            clear f8 FF BF
            go_wp2_with fail
            refine (trim_any _ _ hex).mono ?_
            rintro _ w9 ⟨X, rfl, hX1, hX2, f9⟩
            have F9 : Hid (Fr w6 w9) := Fr.trans F8.out f9
            have bf9 := bf8.fr f9
            have b9 := b8.fr f9
            clear f9 F8 bf8 b8
            by_cases hnz : Nz (s.extract e 252).data.toList
            · have HR : Hid _ := HR4'.out hnz
              have hsz := hX2 hnz
              have hne : X.data.toList ≠ [] := fun q => by
                have := dl_len X
                rw [q] at this
                exact hsz this.symm
              have y2 : ¬ X.toList = [] := by rw [ByteArray.toList_eq]; exact hne
              have y3 : X.toList.isEmpty = false := by
                rw [ByteArray.toList_eq]
                cases hl : X.data.toList with
                | nil => exact absurd hl hne
                | cons a r => rfl
              clear hX1 hX2 hnz hsz hne HR4' HR5'
              have q0 := b9.c0
              have q1 := b9.c1
              have q2 := b9.c2
              have q3 := b9.c3
              have z0 := b9.z 0
              have z1 := b9.z 1
              have z2 := b9.z 2
              have z3 := b9.z 3
              go_wp2_with fail
              refine bodyPost_ret (v := .tuple #[.agg #[.int .i64 0, .int .i64 0, .int .i64 0, .string ⟨#[]⟩], .int .i64 1]) (by simp [results, Tryd.results10, go_sem, q0, q1, q2, q3]) rfl ?_
              exact ⟨by rw [HR.out], fr_zero (Fr.trans F6.out F9.out) (by rw [hg]; exact Nat.le_refl _) _ _ _ _⟩
            · have HR : Hid _ := HR5'.out hnz
              obtain rfl := hX1 hnz
              have y0 := bf9.c0
              have y1 := bf9.c1
              have y2 := bf9.c2
              have y3 := bf9.c3
              clear hX1 hX2 hnz HR4' HR5'
              have q0 := b9.c0
              have q1 := b9.c1
              have q2 := b9.c2
              have q3 := b9.c3
              have z0 := b9.z 0
              have z1 := b9.z 1
              have z2 := b9.z 2
              have z3 := b9.z 3
              go_wp2_with fail
              refine bodyPost_ret (v := .tuple #[.agg #[.int .i64 no, .int .i64 (x2 : Int), .int .i64 (x3 : Int), .string B], .int .i64 0]) (by simp [results, Tryd.results10, go_sem, q0, q1, q2, q3]) rfl ?_
              exact ⟨by rw [HR.out], fr_zero (Fr.trans F6.out F9.out) (by rw [hg]; exact Nat.le_refl _) _ _ _ _⟩
        · have HR : Hid _ := HR3.out hc0
          have cc1 : ((c : Int) != 0) = true := by simp; omega
          have cc2 : ¬ ((c : Int) = 0) := by omega
          clear he hA HR3 HR4 HR5 HCE hc0
          go_wp2_with fail
          go_region_with (first
            | (go_at_call 21; refine (t3 _ ((Fr.refl _).drew)).mono ?_; rintro _ w7 ⟨rfl, f7⟩; have r2' := cell_fr r2 (Fr.trans ((Fr.refl _).drew) f7); have r2'' := cell_fr r2' ((Fr.refl w7).alloc (.cells #[.int .i64 0, .int .i64 0, .int .i64 0, .string ⟨#[]⟩] 23)); have bf := Bp.new w7 no x2 x3 B; have ff : Fr w6 (w7.alloc (.cells #[.int .i64 no, .int .i64 (x2 : Int), .int .i64 (x3 : Int), .string B] 23)) := (Fr.trans ((Fr.refl _).drew) f7).alloc _)
            | (go_at_call 21; refine (t3 _ (((Fr.refl _).alloc _).drew)).mono ?_; rintro _ w7 ⟨rfl, f7⟩; have r2' := cell_fr r2 (Fr.trans (((Fr.refl _).alloc _).drew) f7); have u7 := (Bp.new w6 0 0 0 ⟨#[]⟩).fr (Fr.trans ((Fr.refl _).drew) f7); have k0 := u7.c0; have k1 := u7.c1; have k2 := u7.c2; have k3 := u7.c3; have zz0 := u7.z 0; have zz1 := u7.z 1; have zz2 := u7.z 2; have zz3 := u7.z 3; have bf := bp_set u7 no x2 x3 B; have ff := fr_zero (Fr.trans (((Fr.refl w6).alloc _).drew) f7) (Nat.le_refl _) (.int .i64 no) (.int .i64 (x2 : Int)) (.int .i64 (x3 : Int)) (.string B)))
          all_goals
            have BF : Hid _ := bf
            have FF : Hid _ := ff
            clear bf ff
            go_wp2_with fail
            refine (HCK.out _).mono ?_
            rintro _ w8 ⟨rfl, f8⟩
            have F8 : Hid (Fr w6 w8) := Fr.trans FF.out f8
            have bf8 := BF.out.fr f8
            have b8 := b6.fr F8.out
            clear f8 FF BF
            have q0 := b8.c0
            have q1 := b8.c1
            have q2 := b8.c2
            have q3 := b8.c3
            have z0 := b8.z 0
            have z1 := b8.z 1
            have z2 := b8.z 2
            have z3 := b8.z 3
            go_wp2_with fail
            refine bodyPost_ret (v := .tuple #[.agg #[.int .i64 0, .int .i64 0, .int .i64 0, .string ⟨#[]⟩], .int .i64 (c : Int)]) (by simp [results, Tryd.results10, go_sem, q0, q1, q2, q3]) rfl ?_
            exact ⟨by rw [HR.out], fr_zero (Fr.trans F6.out F8.out) (by rw [hg]; exact Nat.le_refl _) _ _ _ _⟩
    · have HR : Hid _ := hR2 hEq hno
      have n1 : ((x0 : Int) == no) = false := by simpa using hno
      have n2 : ((x0 : Int) != no) = true := by simpa using hno
      clear hR1 hR2 hR3 hR4 hR5 hEq hB hx0 hx2 hx3 hx5
      go_region_with (go_at_call 21; refine t0.mono ?_; rintro _ w5 ⟨rfl, f5⟩)
      all_goals
        have b5 := ba.fr (Fr.trans ((Fr.refl _).drew) f5)
        have q0 := b5.c0
        have q1 := b5.c1
        have q2 := b5.c2
        have q3 := b5.c3
        have z0 := b5.z 0
        have z1 := b5.z 1
        have z2 := b5.z 2
        have z3 := b5.z 3
        have F5 : Hid (Fr w w5) := Fa.out.trans (Fr.trans ((Fr.refl _).drew) f5)
        go_wp2_with fail
        refine bodyPost_ret (v := .tuple #[.agg #[.int .i64 0, .int .i64 0, .int .i64 0, .string ⟨#[]⟩], .int .i64 11]) (by simp [results, Tryd.results10, go_sem, q0, q1, q2, q3]) rfl ?_
        exact ⟨by rw [HR.out], fr_zero F5.out (by rw [hg]; exact Nat.le_refl _) _ _ _ _⟩
  · have HR : Hid _ := hR1 hEq
    have hne : ¬ (s.extract 252 256).toList = M.toList := fun c => hEq (by
      rw [ByteArray.toList_eq, ByteArray.toList_eq] at c
      rw [← dl_eq (s.extract 252 256), c, dl_eq])
    have n1 : ((s.extract 252 256).toList == M.toList) = false := by simpa using hne
    have n2 : ((s.extract 252 256).toList != M.toList) = true := by simpa using hne
    have q0 := ba.c0
    have q1 := ba.c1
    have q2 := ba.c2
    have q3 := ba.c3
    have z0 := ba.z 0
    have z1 := ba.z 1
    have z2 := ba.z 2
    have z3 := ba.z 3
    clear hR1 hR2 hR3 hR4 hR5 hEq hB hx0 hx2 hx3 hx5
    go_region
    go_wp2_with fail
    refine bodyPost_ret (v := .tuple #[.agg #[.int .i64 0, .int .i64 0, .int .i64 0, .string ⟨#[]⟩], .int .i64 11]) (by simp [results, Tryd.results10, go_sem, q0, q1, q2, q3]) rfl ?_
    exact ⟨by rw [HR.out], fr_zero (Fr.drew Fa.out) (by rw [hg]; exact Nat.le_refl _) _ _ _ _⟩
end Go.Proofs.YtfjdialbjbomdaaDoor
