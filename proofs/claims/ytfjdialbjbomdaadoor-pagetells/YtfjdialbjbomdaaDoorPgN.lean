/-
  The document's own PageOf.
-/
import Derived.Test.YtfjdialbjbomdaaDoorPgL
namespace Go.Proofs.YtfjdialbjbomdaaDoor
open Go.ChangeShapes Go.WideShapes Go.ChangeAt Go.RowKit
set_option linter.unusedVariables false
set_option linter.unusedSimpArgs false

set_option maxRecDepth 100000 in
set_option maxHeartbeats 2000000 in
theorem pageOf_place (no : Int) (s : ByteArray) (w : World) (h : no < 0 ∨ 31 < no) : Calls Tryd.prog 13 #[.int .i64 no, .string s] w fun e w' => e = .returned (.tuple #[.agg #[.int .i64 0, .int .i64 0, .int .i64 0, .string ⟨#[]⟩], .int .i64 3]) ∧ Fr w w' := by
  obtain ⟨W0, hW0⟩ : ∃ W0, w.alloc (.cells #[.int .i64 0, .int .i64 0, .int .i64 0, .string ⟨#[]⟩] 23) = W0 := ⟨_, rfl⟩
  have f0 : Fr w W0 := by rw [← hW0]; exact (Fr.refl w).alloc _
  have b0 : Bp W0 w.heap.size 0 0 0 ⟨#[]⟩ := by rw [← hW0]; exact Bp.new _ _ _ _ _
  obtain ⟨g, hg⟩ : ∃ g, w.heap.size = g := ⟨_, rfl⟩
  rw [hg] at b0
  have q0 := b0.c0
  have q1 := b0.c1
  have q2 := b0.c2
  have q3 := b0.c3
  have z0 := b0.z 0
  have z1 := b0.z 1
  have z2 := b0.z 2
  have z3 := b0.z 3
  by_cases h1 : no < 0
  · clear h
    go_enter Tryd.func13, Tryd.ntmps13
    go_wp2_with fail
    refine bodyPost_ret (v := .tuple #[.agg #[.int .i64 0, .int .i64 0, .int .i64 0, .string ⟨#[]⟩], .int .i64 3]) (by simp [results, Tryd.results13, go_sem, q0, q1, q2, q3]) rfl ?_
    exact ⟨rfl, fr_zero f0 (by rw [hg]; exact Nat.le_refl _) _ _ _ _⟩
  · have h2 : 31 < no := by omega
    have h3 : 0 ≤ no := by omega
    clear h h1
    go_enter Tryd.func13, Tryd.ntmps13
    go_wp2_with fail
    refine bodyPost_ret (v := .tuple #[.agg #[.int .i64 0, .int .i64 0, .int .i64 0, .string ⟨#[]⟩], .int .i64 3]) (by simp [results, Tryd.results13, go_sem, q0, q1, q2, q3]) rfl ?_
    exact ⟨rfl, fr_zero f0 (by rw [hg]; exact Nat.le_refl _) _ _ _ _⟩

set_option maxRecDepth 100000 in
set_option maxHeartbeats 2000000 in
theorem pageOf_size (no : Int) (s : ByteArray) (w : World) (h0 : 0 ≤ no) (h1 : no ≤ 31) (hs : s.size ≠ 256) : Calls Tryd.prog 13 #[.int .i64 no, .string s] w fun e w' => e = .returned (.tuple #[.agg #[.int .i64 0, .int .i64 0, .int .i64 0, .string ⟨#[]⟩], .int .i64 1]) ∧ Fr w w' := by
  obtain ⟨W0, hW0⟩ : ∃ W0, w.alloc (.cells #[.int .i64 0, .int .i64 0, .int .i64 0, .string ⟨#[]⟩] 23) = W0 := ⟨_, rfl⟩
  have f0 : Fr w W0 := by rw [← hW0]; exact (Fr.refl w).alloc _
  have b0 : Bp W0 w.heap.size 0 0 0 ⟨#[]⟩ := by rw [← hW0]; exact Bp.new _ _ _ _ _
  obtain ⟨g, hg⟩ : ∃ g, w.heap.size = g := ⟨_, rfl⟩
  rw [hg] at b0
  have q0 := b0.c0
  have q1 := b0.c1
  have q2 := b0.c2
  have q3 := b0.c3
  have z0 := b0.z 0
  have z1 := b0.z 1
  have z2 := b0.z 2
  have z3 := b0.z 3
  have s2 : ((s.size : Int) != 256) = true := by simp; omega
  have s3 : ¬ ((s.size : Int) = 256) := by omega
  clear hs
  go_enter Tryd.func13, Tryd.ntmps13
  go_wp2_with fail
  refine bodyPost_ret (v := .tuple #[.agg #[.int .i64 0, .int .i64 0, .int .i64 0, .string ⟨#[]⟩], .int .i64 1]) (by simp [results, Tryd.results13, go_sem, q0, q1, q2, q3]) rfl ?_
  exact ⟨rfl, fr_zero f0 (by rw [hg]; exact Nat.le_refl _) _ _ _ _⟩

theorem ne_lists {A B : ByteArray} (h : A ≠ B) : ¬ A.toList = B.toList ∧ (A.toList == B.toList) = false ∧ (A.toList != B.toList) = true := by
  have h1 : ¬ A.toList = B.toList := fun q => h (by
    rw [ByteArray.toList_eq, ByteArray.toList_eq] at q
    rw [← dl_eq A, q, dl_eq])
  exact ⟨h1, by simpa using h1, by simpa using h1⟩

theorem Bp.other {w : World} {g h : Nat} {a b c : Int} {s : ByteArray} (k : Bp w g a b c s) (hne : g ≠ h) (B : ByteArray) : Bp (w.setCell ⟨h, 3, none⟩ (.string B)) g a b c s := by
  refine ⟨?_⟩
  rw [← k.at_]
  exact heap_setCell_other w ⟨h, 3, none⟩ g (.string B) hne
theorem bp_body {w : World} {h : Nat} {a b c : Int} {s : ByteArray} (k : Bp w h a b c s) (B : ByteArray) : Bp (w.setCell ⟨h, 3, none⟩ (.string B)) h a b c B := by
  obtain ⟨hg⟩ := k
  have h1 := setCell_eq_setRow w h 3 _ _ _ (.string B) hg
  have g1 := setRow_heap w h _ #[.int .i64 a, .int .i64 b, .int .i64 c, .string B] _ _ hg
  rw [show (#[Value.int .i64 a, .int .i64 b, .int .i64 c, .string s]).setIfInBounds 3 (.string B) = #[.int .i64 a, .int .i64 b, .int .i64 c, .string B] from rfl] at h1
  rw [← h1] at g1
  exact ⟨g1⟩

set_option maxRecDepth 100000 in
set_option maxHeartbeats 8000000 in
theorem pageOf_core (no : Int) (s M T B N : ByteArray) (x2 x3 x3b x5 x5b y3 y5 e n c : Nat) (w : World) (h0 : 0 ≤ no) (h1 : no ≤ 31) (hs : s.size = 256)
    (g2 : ∀ h : 2 < s.size, s[2].toNat = x2) (g3 : ∀ h : 3 < s.size, s[3].toNat = x3) (g4 : ∀ h : 4 < s.size, s[4].toNat = x3b) (g5 : ∀ h : 5 < s.size, s[5].toNat = x5) (g6 : ∀ h : 6 < s.size, s[6].toNat = x5b)
    (b2 : x2 < 256) (b3 : x3 < 256) (b4 : x3b < 256) (b5 : x5 < 256) (b6 : x5b < 256) (hy3 : x3 * 256 + x3b = y3) (hy5 : x5 * 256 + x5b = y5) (he : 7 + y5 = e)
    (cs : ∀ W, Calls Tryd.prog 25 #[.string (s.extract 0 252)] W fun r w' => r = .returned (.string M) ∧ Fr W w')
    (ct : ∀ W, Calls Tryd.prog 23 #[.int .i64 no] W fun r w' => r = .returned (.string T) ∧ Fr W w')
    (ck : ∀ W, Calls Tryd.prog 11 #[.agg #[.int .i64 no, .int .i64 (x2 : Int), .int .i64 (y3 : Int), .string ⟨#[]⟩]] W fun r w' => r = .returned (.int .i64 (c : Int)) ∧ Fr W w')
    (hn : y5 ≤ 245 → 245 - y5 = n) (cn : ∀ W, Calls Tryd.prog 17 #[.int .i64 (n : Int)] W fun r w' => r = .returned (.string N) ∧ Fr W w') (hB : s.extract 7 e = B)
    (R : Value) (hR1 : M ≠ s.extract 252 256 → R = .tuple #[.agg #[.int .i64 0, .int .i64 0, .int .i64 0, .string ⟨#[]⟩], .int .i64 11])
    (hR2 : M = s.extract 252 256 → s.extract 0 2 ≠ T → R = .tuple #[.agg #[.int .i64 0, .int .i64 0, .int .i64 0, .string ⟨#[]⟩], .int .i64 11])
    (hR3 : M = s.extract 252 256 → s.extract 0 2 = T → c ≠ 0 → R = .tuple #[.agg #[.int .i64 0, .int .i64 0, .int .i64 0, .string ⟨#[]⟩], .int .i64 (c : Int)])
    (hR4 : M = s.extract 252 256 → s.extract 0 2 = T → c = 0 → 245 < y5 → R = .tuple #[.agg #[.int .i64 0, .int .i64 0, .int .i64 0, .string ⟨#[]⟩], .int .i64 2])
    (hR5 : M = s.extract 252 256 → s.extract 0 2 = T → c = 0 → ¬ 245 < y5 → s.extract e 252 ≠ N → R = .tuple #[.agg #[.int .i64 0, .int .i64 0, .int .i64 0, .string ⟨#[]⟩], .int .i64 1])
    (hR6 : M = s.extract 252 256 → s.extract 0 2 = T → c = 0 → ¬ 245 < y5 → s.extract e 252 = N → R = .tuple #[.agg #[.int .i64 no, .int .i64 (x2 : Int), .int .i64 (y3 : Int), .string B], .int .i64 0]) :
    Calls Tryd.prog 13 #[.int .i64 no, .string s] w fun r w' => r = .returned R ∧ Fr w w' := by
  obtain ⟨W0, hW0⟩ : ∃ W0, w.alloc (.cells #[.int .i64 0, .int .i64 0, .int .i64 0, .string ⟨#[]⟩] 23) = W0 := ⟨_, rfl⟩
  have f0 : Fr w W0 := by rw [← hW0]; exact (Fr.refl w).alloc _
  have b0 : Bp W0 w.heap.size 0 0 0 ⟨#[]⟩ := by rw [← hW0]; exact Bp.new _ _ _ _ _
  obtain ⟨g, hg⟩ : ∃ g, w.heap.size = g := ⟨_, rfl⟩
  rw [hg] at b0
  go_enter Tryd.func13, Tryd.ntmps13
  go_wp2_with fail
  clear hW0
  by_cases e1 : M = s.extract 252 256
  · have r3 := hR3 e1
    have r4 := hR4 e1
    have r5 := hR5 e1
    have r6 := hR6 e1
    have r2 := hR2 e1
    subst e1
    by_cases e2 : s.extract 0 2 = T
    · subst e2
      have R3 : Hid _ := r3 rfl
      have R4 : Hid _ := r4 rfl
      have R5 : Hid _ := r5 rfl
      have R6 : Hid _ := r6 rfl
      clear hR1 hR2 hR3 hR4 hR5 hR6 r2 r3 r4 r5 r6
      go_region_with (first
        | (go_at_call 25; refine (cs _).mono ?_; rintro _ w1 ⟨rfl, f1⟩)
        | (go_at_call 23; refine (ct _).mono ?_; rintro _ w2 ⟨rfl, f2⟩))
      have FX : Fr W0 w2 := Fr.trans ((Fr.refl _).drew) (Fr.trans f1 f2)
      have F2 : Hid (Fr w w2) := Fr.trans f0 FX
      have k2 := b0.fr FX
      clear f1 f2 cs ct b0 FX f0
      have g5' := g5 (by omega)
      have g6' := g6 (by omega)
      have g2' := g2 (by omega)
      have g3' := g3 (by omega)
      have g4' := g4 (by omega)
      have w5 : IntKind.i64.wrap (x5 : Int) = (x5 : Int) := by simp only [IntKind.wrap]; simp [IntKind.min, IntKind.max, IntKind.signed, IntKind.bits]; omega
      have w6 : IntKind.i64.wrap (x5b : Int) = (x5b : Int) := by simp only [IntKind.wrap]; simp [IntKind.min, IntKind.max, IntKind.signed, IntKind.bits]; omega
      have w2' : IntKind.i64.wrap (x2 : Int) = (x2 : Int) := by simp only [IntKind.wrap]; simp [IntKind.min, IntKind.max, IntKind.signed, IntKind.bits]; omega
      have w3' : IntKind.i64.wrap (x3 : Int) = (x3 : Int) := by simp only [IntKind.wrap]; simp [IntKind.min, IntKind.max, IntKind.signed, IntKind.bits]; omega
      have w4' : IntKind.i64.wrap (x3b : Int) = (x3b : Int) := by simp only [IntKind.wrap]; simp [IntKind.min, IntKind.max, IntKind.signed, IntKind.bits]; omega
      have i5 : (x5 : Int) * 256 + (x5b : Int) = (y5 : Int) := by omega
      have i3 : (x3 : Int) * 256 + (x3b : Int) = (y3 : Int) := by omega
      clear g2 g3 g4 g5 g6
      go_wp2_with fail
      go_simp
      go_region
      obtain ⟨W3, hW3⟩ : ∃ W3, w2.drew = W3 := ⟨_, rfl⟩
      have k3 : Bp W3 g 0 0 0 ⟨#[]⟩ := by rw [← hW3]; exact k2.fr ((Fr.refl _).drew)
      have F3 : Hid (Fr w W3) := by rw [← hW3]; exact Fr.drew F2.out
      clear k2 F2 g5' g6' w5 w6 i5
      go_wp2_with fail
      go_region
      have ff4 : Fr W3 ((W3.alloc (.cells #[.int .i64 no, .int .i64 (x2 : Int), .int .i64 (y3 : Int), .string ⟨#[]⟩] 23)).drew) := Fr.drew ((Fr.refl W3).alloc _)
      have bb4 : Bp ((W3.alloc (.cells #[.int .i64 no, .int .i64 (x2 : Int), .int .i64 (y3 : Int), .string ⟨#[]⟩] 23)).drew) W3.heap.size no x2 y3 ⟨#[]⟩ := (Bp.new W3 _ _ _ _).fr (Fr.drew (Fr.refl _))
      obtain ⟨W4, hW4⟩ : ∃ W4, (W3.alloc (.cells #[.int .i64 no, .int .i64 (x2 : Int), .int .i64 (y3 : Int), .string ⟨#[]⟩] 23)).drew = W4 := ⟨_, rfl⟩
      rw [hW4] at ff4 bb4
      obtain ⟨h, hh⟩ : ∃ h, W3.heap.size = h := ⟨_, rfl⟩
      rw [hh] at bb4
      have k4 := k3.fr ff4
      have F4 : Hid (Fr w W4) := F3.out.trans ff4
      have hgh : g ≠ h := by
        have := k3.lt
        omega
      have hwh : w.heap.size ≤ h := by rw [← hh]; exact Fr.size F3.out
      have t0 := bb4.c0
      have t1 := bb4.c1
      have t2 := bb4.c2
      have t3 := bb4.c3
      clear ff4 k3 F3 hW3 g2' g3' g4' w2' w3' w4' i3
      go_wp2_with fail
      refine (ck _).mono ?_
      rintro _ w5 ⟨rfl, f5⟩
      have k5 := k4.fr f5
      have p5 := bb4.fr f5
      have F5 : Hid (Fr w w5) := F4.out.trans f5
      clear f5 k4 bb4 F4 ck t0 t1 t2 t3 hW4
      by_cases hc : c = 0
      · subst hc
        have R4' : Hid _ := R4.out rfl
        have R5' : Hid _ := R5.out rfl
        have R6' : Hid _ := R6.out rfl
        clear R3 R4 R5 R6
        by_cases h245 : 245 < y5
        · have HR : Hid _ := R4'.out h245
          have hz : (245 : Int) < (y5 : Int) := by omega
          clear R4' R5' R6' hn
          have q0 := k5.c0
          have q1 := k5.c1
          have q2 := k5.c2
          have q3 := k5.c3
          have z0 := k5.z 0
          have z1 := k5.z 1
          have z2 := k5.z 2
          have z3 := k5.z 3
          go_wp2_with fail
          refine bodyPost_ret (v := .tuple #[.agg #[.int .i64 0, .int .i64 0, .int .i64 0, .string ⟨#[]⟩], .int .i64 2]) (by simp [results, Tryd.results13, go_sem, q0, q1, q2, q3]) rfl ?_
          exact ⟨by rw [HR.out], fr_zero (F5.out) (by rw [hg]; exact Nat.le_refl _) _ _ _ _⟩
        · have hz : (y5 : Int) ≤ 245 := by omega
          have hsub : 245 - (y5 : Int) = (n : Int) := by have := hn (by omega); omega
          have h7 : 7 + (y5 : Int) = (e : Int) := by omega
          have he1 : (e : Int) ≤ 252 := by omega
          have he0 : (7 : Int) ≤ (e : Int) := by omega
          have he2 : (e : Int) ≤ 256 := by omega
          have he3 : 0 ≤ (e : Int) := by omega
          have he4 : ((e : Int) < 0) = False := by simp
          have hwe : IntKind.i64.wrap (e : Int) = (e : Int) := by simp only [IntKind.wrap]; simp [IntKind.min, IntKind.max, IntKind.signed, IntKind.bits]; omega
          have hwn : IntKind.i64.wrap (n : Int) = (n : Int) := by simp only [IntKind.wrap]; simp [IntKind.min, IntKind.max, IntKind.signed, IntKind.bits]; omega
          have he5 : ((252 : Int) < (e : Int)) = False := by simp; omega
          have he6 : e ≤ 252 := by omega
          have R5'' : Hid _ := R5'.out h245
          have R6'' : Hid _ := R6'.out h245
          clear R4' R5' R6' hn h245
          go_wp2_with fail
          by_cases eN : s.extract e 252 = N
          · subst eN
            have HR : Hid _ := R6''.out rfl
            clear R5'' R6''
            go_region_with (go_at_call 17; refine (cn _).mono ?_; rintro _ w6 ⟨rfl, f6⟩)
            have k6 := k5.fr (Fr.trans ((Fr.refl _).drew) f6)
            have p6 := p5.fr (Fr.trans ((Fr.refl _).drew) f6)
            have F6 : Hid (Fr w w6) := Fr.trans F5.out (Fr.trans ((Fr.refl _).drew) f6)
            clear f6 k5 p5 F5 cn
            have t3 := p6.c3
            have tz3 := p6.z 3
            have p7 := bp_body p6 B
            have k7 := k6.other hgh B
            have F7 : Hid (Fr w (w6.setCell ⟨h, 3, none⟩ (.string B))) := Below.setCell (p := ⟨h, 3, none⟩) F6.out hwh _
            obtain ⟨W7, hW7⟩ : ∃ W7, w6.setCell ⟨h, 3, none⟩ (.string B) = W7 := ⟨_, rfl⟩
            rw [hW7] at p7 k7 F7
            have u0 := p7.c0
            have u1 := p7.c1
            have u2 := p7.c2
            have u3 := p7.c3
            have q0 := k7.c0
            have q1 := k7.c1
            have q2 := k7.c2
            have q3 := k7.c3
            have z0 := k7.z 0
            have z1 := k7.z 1
            have z2 := k7.z 2
            have z3 := k7.z 3
            go_wp2_with fail
            refine bodyPost_ret (v := .tuple #[.agg #[.int .i64 no, .int .i64 (x2 : Int), .int .i64 (y3 : Int), .string B], .int .i64 0]) (by simp [results, Tryd.results13, go_sem, q0, q1, q2, q3]) rfl ?_
            exact ⟨by rw [HR.out], fr_zero (F7.out) (by rw [hg]; exact Nat.le_refl _) _ _ _ _⟩
          · have HR : Hid _ := R5''.out eN
            obtain ⟨n1, n2, n3⟩ := ne_lists eN
            clear R5'' R6'' eN
            go_region_with (go_at_call 17; refine (cn _).mono ?_; rintro _ w6 ⟨rfl, f6⟩)
            have k6 := k5.fr (Fr.trans ((Fr.refl _).drew) f6)
            have F6 : Hid (Fr w w6) := Fr.trans F5.out (Fr.trans ((Fr.refl _).drew) f6)
            clear f6 k5 p5 F5 cn
            have q0 := k6.c0
            have q1 := k6.c1
            have q2 := k6.c2
            have q3 := k6.c3
            have z0 := k6.z 0
            have z1 := k6.z 1
            have z2 := k6.z 2
            have z3 := k6.z 3
            go_wp2_with fail
            refine bodyPost_ret (v := .tuple #[.agg #[.int .i64 0, .int .i64 0, .int .i64 0, .string ⟨#[]⟩], .int .i64 1]) (by simp [results, Tryd.results13, go_sem, q0, q1, q2, q3]) rfl ?_
            exact ⟨by rw [HR.out], fr_zero (F6.out) (by rw [hg]; exact Nat.le_refl _) _ _ _ _⟩
      · have HR : Hid _ := R3.out hc
        have n1 : ((c : Int) != 0) = true := by simp; omega
        have n2 : ¬ ((c : Int) = 0) := by omega
        clear R3 R4 R5 R6 hc
        have q0 := k5.c0
        have q1 := k5.c1
        have q2 := k5.c2
        have q3 := k5.c3
        have z0 := k5.z 0
        have z1 := k5.z 1
        have z2 := k5.z 2
        have z3 := k5.z 3
        go_wp2_with fail
        refine bodyPost_ret (v := .tuple #[.agg #[.int .i64 0, .int .i64 0, .int .i64 0, .string ⟨#[]⟩], .int .i64 (c : Int)]) (by simp [results, Tryd.results13, go_sem, q0, q1, q2, q3]) rfl ?_
        exact ⟨by rw [HR.out], fr_zero (F5.out) (by rw [hg]; exact Nat.le_refl _) _ _ _ _⟩
    · have HR : Hid _ := r2 e2
      obtain ⟨n1, n2, n3⟩ := ne_lists e2
      clear hR1 hR2 hR3 hR4 hR5 hR6 r2 r3 r4 r5 r6 e2
      go_region_with (first
        | (go_at_call 25; refine (cs _).mono ?_; rintro _ w1 ⟨rfl, f1⟩)
        | (go_at_call 23; refine (ct _).mono ?_; rintro _ w2 ⟨rfl, f2⟩))
      all_goals
        have FX : Fr W0 w2 := Fr.trans ((Fr.refl _).drew) (Fr.trans f1 f2)
        have F2 : Fr w w2 := Fr.trans f0 FX
        have k1 := b0.fr FX
        have q0 := k1.c0
        have q1 := k1.c1
        have q2 := k1.c2
        have q3 := k1.c3
        have z0 := k1.z 0
        have z1 := k1.z 1
        have z2 := k1.z 2
        have z3 := k1.z 3
        go_wp2_with fail
        refine bodyPost_ret (v := .tuple #[.agg #[.int .i64 0, .int .i64 0, .int .i64 0, .string ⟨#[]⟩], .int .i64 11]) (by simp [results, Tryd.results13, go_sem, q0, q1, q2, q3]) rfl ?_
        exact ⟨by rw [HR.out], fr_zero F2 (by rw [hg]; exact Nat.le_refl _) _ _ _ _⟩
  · have HR : Hid _ := hR1 e1
    obtain ⟨n1, n2, n3⟩ := ne_lists e1
    clear hR1 hR2 hR3 hR4 hR5 hR6 e1
    first
      | go_region_with (go_at_call 25; refine (cs _).mono ?_; rintro _ w1 ⟨rfl, f1⟩)
      | fail
    all_goals
      have F1 : Fr w w1 := Fr.trans f0 (Fr.trans ((Fr.refl _).drew) f1)
      have k1 := b0.fr (Fr.trans ((Fr.refl _).drew) f1)
      have q0 := k1.c0
      have q1 := k1.c1
      have q2 := k1.c2
      have q3 := k1.c3
      have z0 := k1.z 0
      have z1 := k1.z 1
      have z2 := k1.z 2
      have z3 := k1.z 3
      go_wp2_with fail
      refine bodyPost_ret (v := .tuple #[.agg #[.int .i64 0, .int .i64 0, .int .i64 0, .string ⟨#[]⟩], .int .i64 11]) (by simp [results, Tryd.results13, go_sem, q0, q1, q2, q3]) rfl ?_
      exact ⟨by rw [HR.out], fr_zero F1 (by rw [hg]; exact Nat.le_refl _) _ _ _ _⟩
end Go.Proofs.YtfjdialbjbomdaaDoor
