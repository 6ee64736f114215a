/-
  Proved: for every three values and every slice of values AsksTells answers true: Less, Same, In and Between answer just what the document says, errors too. No condition but the form's own reach.
-/
import Derived.Test.YtppbmkkkjjkiiaaLBegun
import Derived.Test.YtppbmkkkjjkiiaaRefBt
import Derived.Test.YtppbmkkkjjkiiaaOpenV
namespace Go.Proofs.Ytppbmkkkjjkiiaa.asksTellsProof
open Go.ChangeShapes Go.WideShapes Go.ChangeAt Go.RowKit
set_option linter.unusedVariables false
set_option linter.unusedSimpArgs false
set_option maxRecDepth 100000

/-- how the code's answers and the document's hang together -/
def Fits (len : Nat) (x y z t X Y Z T : Int) (ca cl eu ev et : Nat) : Prop :=
  (ca ≠ 0 ∧ eu ≠ 0 ∧ et ≠ 0 ∧ x = 0 ∧ y = 0 ∧ z = 0 ∧ t = 0 ∧ ((40 < len ∧ ev = 2) ∨ (len ≤ 40 ∧ ev = ca))) ∨
  (ca = 0 ∧ ((eu ≠ 0 ∧ et ≠ 0 ∧ x = 0 ∧ y = 0 ∧ t = 0) ∨ (eu = 0 ∧ et ≠ 0 ∧ x = X ∧ y = Y ∧ t = 0) ∨ (eu = 0 ∧ et = 0 ∧ x = X ∧ y = Y ∧ t = T)) ∧
    ((40 < len ∧ ev = 2 ∧ z = 0) ∨ (len ≤ 40 ∧ ev = cl ∧ ((cl ≠ 0 ∧ z = 0) ∨ (cl = 0 ∧ z = Z)))))

theorem Box3.mk (w : World) (ak an bk bn ck cn : Int) (sa sb sc : ByteArray) : Box3 (((w.alloc (.cells #[.int .i64 ak, .int .i64 an, .string sa] 32)).alloc (.cells #[.int .i64 bk, .int .i64 bn, .string sb] 32)).alloc (.cells #[.int .i64 ck, .int .i64 cn, .string sc] 32)) w.heap.size ak an bk bn ck cn sa sb sc := by
  unfold Box3
  simp [go_sem]

set_option maxHeartbeats 8000000 in
theorem core (ak an bk bn ck cn : Int) (sa sb sc : ByteArray) (A : Option Addr) (len cap : Nat) (x y z t X Y Z T : Int) (ca cl eu ev et : Nat) (w : World) (hfit : Fits len x y z t X Y Z T ca cl eu ev et)
    (g1 : ∀ W, Calls Try.prog 21 #[.agg #[.int .i64 ak, .int .i64 an, .string sa], .agg #[.int .i64 bk, .int .i64 bn, .string sb]] W fun q w' => q = .returned (.tuple #[.int .i64 x, .int .i64 eu]) ∧ Fr W w')
    (g2 : ∀ W, Calls Try.prog 22 #[.agg #[.int .i64 ak, .int .i64 an, .string sa], .agg #[.int .i64 bk, .int .i64 bn, .string sb]] W fun q w' => q = .returned (.tuple #[.int .i64 y, .int .i64 eu]) ∧ Fr W w')
    (g3 : ∀ W, Fr w W → Calls Try.prog 23 #[.agg #[.int .i64 ak, .int .i64 an, .string sa], .slice A len cap] W fun q w' => q = .returned (.tuple #[.int .i64 z, .int .i64 ev]) ∧ Fr W w')
    (g4 : ∀ W, Calls Try.prog 24 #[.agg #[.int .i64 ak, .int .i64 an, .string sa], .agg #[.int .i64 bk, .int .i64 bn, .string sb], .agg #[.int .i64 ck, .int .i64 cn, .string sc]] W fun q w' => q = .returned (.tuple #[.int .i64 t, .int .i64 et]) ∧ Fr W w')
    (m1 : ∀ W : World, Calls Try.prog 25 #[.slice (some ⟨W.heap.size, 0, none⟩) 2 2] (W.alloc (.cells #[.int .i64 ak, .int .i64 an, .string sa, .int .i64 bk, .int .i64 bn, .string sb] 32)) fun q w' => q = .returned (.int .i64 eu) ∧ Fr (W.alloc (.cells #[.int .i64 ak, .int .i64 an, .string sa, .int .i64 bk, .int .i64 bn, .string sb] 32)) w')
    (m2 : ∀ W, Calls Try.prog 26 #[.agg #[.int .i64 ak, .int .i64 an, .string sa]] W fun q w' => q = .returned (.int .i64 ca) ∧ Fr W w')
    (m3 : ∀ W, Fr w W → Calls Try.prog 25 #[.slice A len cap] W fun q w' => q = .returned (.int .i64 cl) ∧ Fr W w')
    (m4 : ∀ W : World, Calls Try.prog 25 #[.slice (some ⟨W.heap.size, 0, none⟩) 3 3] (W.alloc (.cells #[.int .i64 ak, .int .i64 an, .string sa, .int .i64 bk, .int .i64 bn, .string sb, .int .i64 ck, .int .i64 cn, .string sc] 32)) fun q w' => q = .returned (.int .i64 et) ∧ Fr (W.alloc (.cells #[.int .i64 ak, .int .i64 an, .string sa, .int .i64 bk, .int .i64 bn, .string sb, .int .i64 ck, .int .i64 cn, .string sc] 32)) w')
    (e1 : ∀ W, Calls Try.prog 27 #[.agg #[.int .i64 ak, .int .i64 an, .string sa], .agg #[.int .i64 bk, .int .i64 bn, .string sb]] W fun q w' => q = .returned (.int .i64 X) ∧ Fr W w')
    (e2 : ∀ W, Calls Try.prog 28 #[.agg #[.int .i64 ak, .int .i64 an, .string sa], .agg #[.int .i64 bk, .int .i64 bn, .string sb]] W fun q w' => q = .returned (.int .i64 Y) ∧ Fr W w')
    (m7 : ∀ W, Fr w W → len ≤ 40 → Calls Try.prog 29 #[.agg #[.int .i64 ak, .int .i64 an, .string sa], .slice A len cap] W fun q w' => q = .returned (.int .i64 Z) ∧ Fr W w')
    (e4 : ∀ W, Calls Try.prog 30 #[.agg #[.int .i64 ak, .int .i64 an, .string sa], .agg #[.int .i64 bk, .int .i64 bn, .string sb], .agg #[.int .i64 ck, .int .i64 cn, .string sc]] W fun q w' => q = .returned (.int .i64 T) ∧ Fr W w') :
    Calls Try.prog 7 #[.agg #[.int .i64 ak, .int .i64 an, .string sa], .agg #[.int .i64 bk, .int .i64 bn, .string sb], .agg #[.int .i64 ck, .int .i64 cn, .string sc], .slice A len cap] w fun q w' => q = .returned (.bool true) ∧ Fr w w' := by
  have HFIT : Hid _ := hfit
  clear hfit
  have B0 : Hid _ := Box3.mk w ak an bk bn ck cn sa sb sc
  have F0 : Hid (Fr w (((w.alloc (.cells #[.int .i64 ak, .int .i64 an, .string sa] 32)).alloc (.cells #[.int .i64 bk, .int .i64 bn, .string sb] 32)).alloc (.cells #[.int .i64 ck, .int .i64 cn, .string sc] 32))) := (((Fr.refl w).alloc _).alloc _).alloc _
  go_enter Try.func7, Try.ntmps7
  go_wp2_with (go_at_call 21; refine (g1 _).mono ?_)
  rintro _ w1 ⟨rfl, hf1⟩
  have B1 : Hid (Box3 w1 w.heap.size ak an bk bn ck cn sa sb sc) := Box3.fr B0.out hf1
  have F1 : Hid (Fr w w1) := Fr.trans F0.out hf1
  clear hf1 B0 F0
  obtain ⟨a0, a1, a2, b0, b1, b2, c0, c1, c2⟩ := B1.out
  go_wp2_with (go_at_call 22; refine (g2 _).mono ?_)
  rintro _ w2 ⟨rfl, hf2⟩
  have B2 : Hid (Box3 w2 w.heap.size ak an bk bn ck cn sa sb sc) := Box3.fr B1.out hf2
  have F2 : Hid (Fr w w2) := Fr.trans F1.out hf2
  clear a0 a1 a2 b0 b1 b2 c0 c1 c2 hf2 B1 F1
  obtain ⟨a0, a1, a2, b0, b1, b2, c0, c1, c2⟩ := B2.out
  go_wp2_with (go_at_call 23; refine (g3 _ F2.out).mono ?_)
  rintro _ w3 ⟨rfl, hf3⟩
  have B3 : Hid (Box3 w3 w.heap.size ak an bk bn ck cn sa sb sc) := Box3.fr B2.out hf3
  have F3 : Hid (Fr w w3) := Fr.trans F2.out hf3
  clear a0 a1 a2 b0 b1 b2 c0 c1 c2 hf3 B2 F2
  obtain ⟨a0, a1, a2, b0, b1, b2, c0, c1, c2⟩ := B3.out
  go_wp2_with (go_at_call 24; refine (g4 _).mono ?_)
  rintro _ w4 ⟨rfl, hf4⟩
  have B4 : Hid (Box3 w4 w.heap.size ak an bk bn ck cn sa sb sc) := Box3.fr B3.out hf4
  have F4 : Hid (Fr w w4) := Fr.trans F3.out hf4
  clear a0 a1 a2 b0 b1 b2 c0 c1 c2 hf4 B3 F3
  obtain ⟨a0, a1, a2, b0, b1, b2, c0, c1, c2⟩ := B4.out
  go_wp2_with (go_at_call 25; refine (m1 _).mono ?_)
  rintro _ w5 ⟨rfl, hf5⟩
  have B5 : Hid (Box3 w5 w.heap.size ak an bk bn ck cn sa sb sc) := Box3.fr B4.out (Fr.trans (Fr.alloc (Fr.refl _) _) hf5)
  have F5 : Hid (Fr w w5) := Fr.trans F4.out (Fr.trans (Fr.alloc (Fr.refl _) _) hf5)
  clear a0 a1 a2 b0 b1 b2 c0 c1 c2 hf5 B4 F4
  obtain ⟨a0, a1, a2, b0, b1, b2, c0, c1, c2⟩ := B5.out
  go_wp2_with (go_at_call 26; refine (m2 _).mono ?_)
  rintro _ w6 ⟨rfl, hf6⟩
  have B6 : Hid (Box3 w6 w.heap.size ak an bk bn ck cn sa sb sc) := Box3.fr B5.out hf6
  have F6 : Hid (Fr w w6) := Fr.trans F5.out hf6
  clear a0 a1 a2 b0 b1 b2 c0 c1 c2 hf6 B5 F5
  obtain ⟨a0, a1, a2, b0, b1, b2, c0, c1, c2⟩ := B6.out
  have hfit := HFIT.out
  clear HFIT
  rcases hfit with ⟨ha, hu, ht, rfl, rfl, rfl, rfl, ⟨hl, rfl⟩ | ⟨hl, rfl⟩⟩ | ⟨rfl, huv, hv⟩
  · have hl' : (40 : Int) < (len : Int) := by omega
    have qca : ((ca : Int) == 0) = false := by simp; omega
    have pca : ¬ ((ca : Int) = 0) := by omega
    have qeu : ((eu : Int) == 0) = false := by simp; omega
    have peu : ¬ ((eu : Int) = 0) := by omega
    have qet : ((et : Int) == 0) = false := by simp; omega
    have pet : ¬ ((et : Int) = 0) := by omega
    clear ha hu ht hl
    go_wp2_with (go_at_call 25; refine (m4 _).mono ?_)
    rintro _ w7 ⟨rfl, hf7⟩
    have B7 : Hid (Box3 w7 w.heap.size ak an bk bn ck cn sa sb sc) := Box3.fr B6.out (Fr.trans (Fr.alloc (Fr.refl _) _) hf7)
    have F7 : Hid (Fr w w7) := Fr.trans F6.out (Fr.trans (Fr.alloc (Fr.refl _) _) hf7)
    clear a0 a1 a2 b0 b1 b2 c0 c1 c2 hf7 B6 F6
    obtain ⟨a0, a1, a2, b0, b1, b2, c0, c1, c2⟩ := B7.out
    clear a0 a1 a2 b0 b1 b2 c0 c1 c2
    go_wp2_with (go_at_call 10; refine (logicBegun_any _).mono ?_)
    rintro _ wz ⟨rfl, hfz⟩
    have FZ : Hid (Fr w wz) := Fr.trans F7.out hfz
    clear hfz B7 F7
    go_wp2_with fail
    go_ret
    exact ⟨rfl, FZ.out⟩
  · have hl' : (len : Int) ≤ 40 := by omega
    have qev : ((ev : Int) == 0) = false := by simp; omega
    have pev : ¬ ((ev : Int) = 0) := by omega
    have qeu : ((eu : Int) == 0) = false := by simp; omega
    have peu : ¬ ((eu : Int) = 0) := by omega
    have qet : ((et : Int) == 0) = false := by simp; omega
    have pet : ¬ ((et : Int) = 0) := by omega
    clear ha hu ht hl
    go_wp2_with (go_at_call 25; refine (m4 _).mono ?_)
    rintro _ w8 ⟨rfl, hf8⟩
    have B8 : Hid (Box3 w8 w.heap.size ak an bk bn ck cn sa sb sc) := Box3.fr B6.out (Fr.trans (Fr.alloc (Fr.refl _) _) hf8)
    have F8 : Hid (Fr w w8) := Fr.trans F6.out (Fr.trans (Fr.alloc (Fr.refl _) _) hf8)
    clear a0 a1 a2 b0 b1 b2 c0 c1 c2 hf8 B6 F6
    obtain ⟨a0, a1, a2, b0, b1, b2, c0, c1, c2⟩ := B8.out
    clear a0 a1 a2 b0 b1 b2 c0 c1 c2
    go_wp2_with (go_at_call 10; refine (logicBegun_any _).mono ?_)
    rintro _ wz ⟨rfl, hfz⟩
    have FZ : Hid (Fr w wz) := Fr.trans F8.out hfz
    clear hfz B8 F8
    go_wp2_with fail
    go_ret
    exact ⟨rfl, FZ.out⟩
  · rcases hv with ⟨hl, rfl, rfl⟩ | ⟨hl, rfl, ⟨hc, rfl⟩ | ⟨rfl, rfl⟩⟩
    · have hl' : (40 : Int) < (len : Int) := by omega
      clear hl
      go_wp2_with (go_at_call 25; refine (m3 _ F6.out).mono ?_)
      rintro _ w9 ⟨rfl, hf9⟩
      have B9 : Hid (Box3 w9 w.heap.size ak an bk bn ck cn sa sb sc) := Box3.fr B6.out hf9
      have F9 : Hid (Fr w w9) := Fr.trans F6.out hf9
      clear a0 a1 a2 b0 b1 b2 c0 c1 c2 hf9 B6 F6
      obtain ⟨a0, a1, a2, b0, b1, b2, c0, c1, c2⟩ := B9.out
      rcases huv with ⟨hu, ht, rfl, rfl, rfl⟩ | ⟨rfl, ht, rfl, rfl, rfl⟩ | ⟨rfl, rfl, rfl, rfl, rfl⟩
      · skip
        have qeu : ((eu : Int) == 0) = false := by simp; omega
        have peu : ¬ ((eu : Int) = 0) := by omega
        have qet : ((et : Int) == 0) = false := by simp; omega
        have pet : ¬ ((et : Int) = 0) := by omega
        clear hu ht
        go_wp2_with (go_at_call 25; refine (m4 _).mono ?_)
        rintro _ w10 ⟨rfl, hf10⟩
        have B10 : Hid (Box3 w10 w.heap.size ak an bk bn ck cn sa sb sc) := Box3.fr B9.out (Fr.trans (Fr.alloc (Fr.refl _) _) hf10)
        have F10 : Hid (Fr w w10) := Fr.trans F9.out (Fr.trans (Fr.alloc (Fr.refl _) _) hf10)
        clear a0 a1 a2 b0 b1 b2 c0 c1 c2 hf10 B9 F9
        obtain ⟨a0, a1, a2, b0, b1, b2, c0, c1, c2⟩ := B10.out
        clear a0 a1 a2 b0 b1 b2 c0 c1 c2
        go_wp2_with (go_at_call 10; refine (logicBegun_any _).mono ?_)
        rintro _ wz ⟨rfl, hfz⟩
        have FZ : Hid (Fr w wz) := Fr.trans F10.out hfz
        clear hfz B10 F10
        go_wp2_with fail
        go_ret
        exact ⟨rfl, FZ.out⟩
      · skip
        have qet : ((et : Int) == 0) = false := by simp; omega
        have pet : ¬ ((et : Int) = 0) := by omega
        clear ht
        go_wp2_with (go_at_call 25; refine (m4 _).mono ?_)
        rintro _ w11 ⟨rfl, hf11⟩
        have B11 : Hid (Box3 w11 w.heap.size ak an bk bn ck cn sa sb sc) := Box3.fr B9.out (Fr.trans (Fr.alloc (Fr.refl _) _) hf11)
        have F11 : Hid (Fr w w11) := Fr.trans F9.out (Fr.trans (Fr.alloc (Fr.refl _) _) hf11)
        clear a0 a1 a2 b0 b1 b2 c0 c1 c2 hf11 B9 F9
        obtain ⟨a0, a1, a2, b0, b1, b2, c0, c1, c2⟩ := B11.out
        have HBd : Hid (Box3 w11.drew w.heap.size ak an bk bn ck cn sa sb sc) := B11.out
        go_wp2_with fail
        go_region_held3 (fun W' => W'.cell? ⟨w.heap.size, 0, none⟩ = some (.int .i64 ak) ∧ W'.cell? ⟨w.heap.size, 1, none⟩ = some (.int .i64 an) ∧ W'.cell? ⟨w.heap.size, 2, none⟩ = some (.string sa) ∧ W'.cell? ⟨w.heap.size + 1, 0, none⟩ = some (.int .i64 bk) ∧ W'.cell? ⟨w.heap.size + 1, 1, none⟩ = some (.int .i64 bn) ∧ W'.cell? ⟨w.heap.size + 1, 2, none⟩ = some (.string sb) ∧ W'.cell? ⟨w.heap.size + 1 + 1, 0, none⟩ = some (.int .i64 ck) ∧ W'.cell? ⟨w.heap.size + 1 + 1, 1, none⟩ = some (.int .i64 cn) ∧ W'.cell? ⟨w.heap.size + 1 + 1, 2, none⟩ = some (.string sc)) (first | exact HBd.out | exact Box3.fr HBd.out hfx | exact Box3.fr (Box3.fr HBd.out hfx) hfy) (first
          | (go_at_call 27; refine (e1 _).mono ?_; rintro _ wx ⟨rfl, hfx⟩)
          | (go_at_call 28; refine (e2 _).mono ?_; rintro _ wy ⟨rfl, hfy⟩))
        have BY : Hid (Box3 wy w.heap.size ak an bk bn ck cn sa sb sc) := Box3.fr (Box3.fr HBd.out hfx) hfy
        have FY : Hid (Fr w wy) := Fr.trans (Fr.trans (Fr.drew F11.out) hfx) hfy
        clear a0 a1 a2 b0 b1 b2 c0 c1 c2 hfx hfy B11 F11 HBd
        obtain ⟨a0, a1, a2, b0, b1, b2, c0, c1, c2⟩ := BY.out
        clear a0 a1 a2 b0 b1 b2 c0 c1 c2
        go_wp2_with (go_at_call 10; refine (logicBegun_any _).mono ?_)
        rintro _ wz ⟨rfl, hfz⟩
        have FZ : Hid (Fr w wz) := Fr.trans FY.out hfz
        clear hfz BY FY
        go_wp2_with fail
        go_ret
        exact ⟨rfl, FZ.out⟩
      · skip
        go_wp2_with (go_at_call 25; refine (m4 _).mono ?_)
        rintro _ w12 ⟨rfl, hf12⟩
        have B12 : Hid (Box3 w12 w.heap.size ak an bk bn ck cn sa sb sc) := Box3.fr B9.out (Fr.trans (Fr.alloc (Fr.refl _) _) hf12)
        have F12 : Hid (Fr w w12) := Fr.trans F9.out (Fr.trans (Fr.alloc (Fr.refl _) _) hf12)
        clear a0 a1 a2 b0 b1 b2 c0 c1 c2 hf12 B9 F9
        obtain ⟨a0, a1, a2, b0, b1, b2, c0, c1, c2⟩ := B12.out
        have HBd : Hid (Box3 w12.drew w.heap.size ak an bk bn ck cn sa sb sc) := B12.out
        go_wp2_with fail
        go_region_held3 (fun W' => W'.cell? ⟨w.heap.size, 0, none⟩ = some (.int .i64 ak) ∧ W'.cell? ⟨w.heap.size, 1, none⟩ = some (.int .i64 an) ∧ W'.cell? ⟨w.heap.size, 2, none⟩ = some (.string sa) ∧ W'.cell? ⟨w.heap.size + 1, 0, none⟩ = some (.int .i64 bk) ∧ W'.cell? ⟨w.heap.size + 1, 1, none⟩ = some (.int .i64 bn) ∧ W'.cell? ⟨w.heap.size + 1, 2, none⟩ = some (.string sb) ∧ W'.cell? ⟨w.heap.size + 1 + 1, 0, none⟩ = some (.int .i64 ck) ∧ W'.cell? ⟨w.heap.size + 1 + 1, 1, none⟩ = some (.int .i64 cn) ∧ W'.cell? ⟨w.heap.size + 1 + 1, 2, none⟩ = some (.string sc)) (first | exact HBd.out | exact Box3.fr HBd.out hfx | exact Box3.fr (Box3.fr HBd.out hfx) hfy) (first
          | (go_at_call 27; refine (e1 _).mono ?_; rintro _ wx ⟨rfl, hfx⟩)
          | (go_at_call 28; refine (e2 _).mono ?_; rintro _ wy ⟨rfl, hfy⟩))
        have BY : Hid (Box3 wy w.heap.size ak an bk bn ck cn sa sb sc) := Box3.fr (Box3.fr HBd.out hfx) hfy
        have FY : Hid (Fr w wy) := Fr.trans (Fr.trans (Fr.drew F12.out) hfx) hfy
        clear a0 a1 a2 b0 b1 b2 c0 c1 c2 hfx hfy B12 F12 HBd
        obtain ⟨a0, a1, a2, b0, b1, b2, c0, c1, c2⟩ := BY.out
        go_wp2_with (go_at_call 30; refine (e4 _).mono ?_)
        rintro _ w13 ⟨rfl, hf13⟩
        have B13 : Hid (Box3 w13 w.heap.size ak an bk bn ck cn sa sb sc) := Box3.fr BY.out hf13
        have F13 : Hid (Fr w w13) := Fr.trans FY.out hf13
        clear a0 a1 a2 b0 b1 b2 c0 c1 c2 hf13 BY FY
        obtain ⟨a0, a1, a2, b0, b1, b2, c0, c1, c2⟩ := B13.out
        clear a0 a1 a2 b0 b1 b2 c0 c1 c2
        go_wp2_with (go_at_call 10; refine (logicBegun_any _).mono ?_)
        rintro _ wz ⟨rfl, hfz⟩
        have FZ : Hid (Fr w wz) := Fr.trans F13.out hfz
        clear hfz B13 F13
        go_wp2_with fail
        go_ret
        exact ⟨rfl, FZ.out⟩
    · have hl' : (len : Int) ≤ 40 := by omega
      have qcl : ((ev : Int) == 0) = false := by simp; omega
      have pcl : ¬ ((ev : Int) = 0) := by omega
      clear hc
      clear hl
      go_wp2_with (go_at_call 25; refine (m3 _ F6.out).mono ?_)
      rintro _ w14 ⟨rfl, hf14⟩
      have B14 : Hid (Box3 w14 w.heap.size ak an bk bn ck cn sa sb sc) := Box3.fr B6.out hf14
      have F14 : Hid (Fr w w14) := Fr.trans F6.out hf14
      clear a0 a1 a2 b0 b1 b2 c0 c1 c2 hf14 B6 F6
      obtain ⟨a0, a1, a2, b0, b1, b2, c0, c1, c2⟩ := B14.out
      rcases huv with ⟨hu, ht, rfl, rfl, rfl⟩ | ⟨rfl, ht, rfl, rfl, rfl⟩ | ⟨rfl, rfl, rfl, rfl, rfl⟩
      · skip
        have qeu : ((eu : Int) == 0) = false := by simp; omega
        have peu : ¬ ((eu : Int) = 0) := by omega
        have qet : ((et : Int) == 0) = false := by simp; omega
        have pet : ¬ ((et : Int) = 0) := by omega
        clear hu ht
        go_wp2_with (go_at_call 25; refine (m4 _).mono ?_)
        rintro _ w15 ⟨rfl, hf15⟩
        have B15 : Hid (Box3 w15 w.heap.size ak an bk bn ck cn sa sb sc) := Box3.fr B14.out (Fr.trans (Fr.alloc (Fr.refl _) _) hf15)
        have F15 : Hid (Fr w w15) := Fr.trans F14.out (Fr.trans (Fr.alloc (Fr.refl _) _) hf15)
        clear a0 a1 a2 b0 b1 b2 c0 c1 c2 hf15 B14 F14
        obtain ⟨a0, a1, a2, b0, b1, b2, c0, c1, c2⟩ := B15.out
        clear a0 a1 a2 b0 b1 b2 c0 c1 c2
        go_wp2_with (go_at_call 10; refine (logicBegun_any _).mono ?_)
        rintro _ wz ⟨rfl, hfz⟩
        have FZ : Hid (Fr w wz) := Fr.trans F15.out hfz
        clear hfz B15 F15
        go_wp2_with fail
        go_ret
        exact ⟨rfl, FZ.out⟩
      · skip
        have qet : ((et : Int) == 0) = false := by simp; omega
        have pet : ¬ ((et : Int) = 0) := by omega
        clear ht
        go_wp2_with (go_at_call 25; refine (m4 _).mono ?_)
        rintro _ w16 ⟨rfl, hf16⟩
        have B16 : Hid (Box3 w16 w.heap.size ak an bk bn ck cn sa sb sc) := Box3.fr B14.out (Fr.trans (Fr.alloc (Fr.refl _) _) hf16)
        have F16 : Hid (Fr w w16) := Fr.trans F14.out (Fr.trans (Fr.alloc (Fr.refl _) _) hf16)
        clear a0 a1 a2 b0 b1 b2 c0 c1 c2 hf16 B14 F14
        obtain ⟨a0, a1, a2, b0, b1, b2, c0, c1, c2⟩ := B16.out
        have HBd : Hid (Box3 w16.drew w.heap.size ak an bk bn ck cn sa sb sc) := B16.out
        go_wp2_with fail
        go_region_held3 (fun W' => W'.cell? ⟨w.heap.size, 0, none⟩ = some (.int .i64 ak) ∧ W'.cell? ⟨w.heap.size, 1, none⟩ = some (.int .i64 an) ∧ W'.cell? ⟨w.heap.size, 2, none⟩ = some (.string sa) ∧ W'.cell? ⟨w.heap.size + 1, 0, none⟩ = some (.int .i64 bk) ∧ W'.cell? ⟨w.heap.size + 1, 1, none⟩ = some (.int .i64 bn) ∧ W'.cell? ⟨w.heap.size + 1, 2, none⟩ = some (.string sb) ∧ W'.cell? ⟨w.heap.size + 1 + 1, 0, none⟩ = some (.int .i64 ck) ∧ W'.cell? ⟨w.heap.size + 1 + 1, 1, none⟩ = some (.int .i64 cn) ∧ W'.cell? ⟨w.heap.size + 1 + 1, 2, none⟩ = some (.string sc)) (first | exact HBd.out | exact Box3.fr HBd.out hfx | exact Box3.fr (Box3.fr HBd.out hfx) hfy) (first
          | (go_at_call 27; refine (e1 _).mono ?_; rintro _ wx ⟨rfl, hfx⟩)
          | (go_at_call 28; refine (e2 _).mono ?_; rintro _ wy ⟨rfl, hfy⟩))
        have BY : Hid (Box3 wy w.heap.size ak an bk bn ck cn sa sb sc) := Box3.fr (Box3.fr HBd.out hfx) hfy
        have FY : Hid (Fr w wy) := Fr.trans (Fr.trans (Fr.drew F16.out) hfx) hfy
        clear a0 a1 a2 b0 b1 b2 c0 c1 c2 hfx hfy B16 F16 HBd
        obtain ⟨a0, a1, a2, b0, b1, b2, c0, c1, c2⟩ := BY.out
        clear a0 a1 a2 b0 b1 b2 c0 c1 c2
        go_wp2_with (go_at_call 10; refine (logicBegun_any _).mono ?_)
        rintro _ wz ⟨rfl, hfz⟩
        have FZ : Hid (Fr w wz) := Fr.trans FY.out hfz
        clear hfz BY FY
        go_wp2_with fail
        go_ret
        exact ⟨rfl, FZ.out⟩
      · skip
        go_wp2_with (go_at_call 25; refine (m4 _).mono ?_)
        rintro _ w17 ⟨rfl, hf17⟩
        have B17 : Hid (Box3 w17 w.heap.size ak an bk bn ck cn sa sb sc) := Box3.fr B14.out (Fr.trans (Fr.alloc (Fr.refl _) _) hf17)
        have F17 : Hid (Fr w w17) := Fr.trans F14.out (Fr.trans (Fr.alloc (Fr.refl _) _) hf17)
        clear a0 a1 a2 b0 b1 b2 c0 c1 c2 hf17 B14 F14
        obtain ⟨a0, a1, a2, b0, b1, b2, c0, c1, c2⟩ := B17.out
        have HBd : Hid (Box3 w17.drew w.heap.size ak an bk bn ck cn sa sb sc) := B17.out
        go_wp2_with fail
        go_region_held3 (fun W' => W'.cell? ⟨w.heap.size, 0, none⟩ = some (.int .i64 ak) ∧ W'.cell? ⟨w.heap.size, 1, none⟩ = some (.int .i64 an) ∧ W'.cell? ⟨w.heap.size, 2, none⟩ = some (.string sa) ∧ W'.cell? ⟨w.heap.size + 1, 0, none⟩ = some (.int .i64 bk) ∧ W'.cell? ⟨w.heap.size + 1, 1, none⟩ = some (.int .i64 bn) ∧ W'.cell? ⟨w.heap.size + 1, 2, none⟩ = some (.string sb) ∧ W'.cell? ⟨w.heap.size + 1 + 1, 0, none⟩ = some (.int .i64 ck) ∧ W'.cell? ⟨w.heap.size + 1 + 1, 1, none⟩ = some (.int .i64 cn) ∧ W'.cell? ⟨w.heap.size + 1 + 1, 2, none⟩ = some (.string sc)) (first | exact HBd.out | exact Box3.fr HBd.out hfx | exact Box3.fr (Box3.fr HBd.out hfx) hfy) (first
          | (go_at_call 27; refine (e1 _).mono ?_; rintro _ wx ⟨rfl, hfx⟩)
          | (go_at_call 28; refine (e2 _).mono ?_; rintro _ wy ⟨rfl, hfy⟩))
        have BY : Hid (Box3 wy w.heap.size ak an bk bn ck cn sa sb sc) := Box3.fr (Box3.fr HBd.out hfx) hfy
        have FY : Hid (Fr w wy) := Fr.trans (Fr.trans (Fr.drew F17.out) hfx) hfy
        clear a0 a1 a2 b0 b1 b2 c0 c1 c2 hfx hfy B17 F17 HBd
        obtain ⟨a0, a1, a2, b0, b1, b2, c0, c1, c2⟩ := BY.out
        go_wp2_with (go_at_call 30; refine (e4 _).mono ?_)
        rintro _ w18 ⟨rfl, hf18⟩
        have B18 : Hid (Box3 w18 w.heap.size ak an bk bn ck cn sa sb sc) := Box3.fr BY.out hf18
        have F18 : Hid (Fr w w18) := Fr.trans FY.out hf18
        clear a0 a1 a2 b0 b1 b2 c0 c1 c2 hf18 BY FY
        obtain ⟨a0, a1, a2, b0, b1, b2, c0, c1, c2⟩ := B18.out
        clear a0 a1 a2 b0 b1 b2 c0 c1 c2
        go_wp2_with (go_at_call 10; refine (logicBegun_any _).mono ?_)
        rintro _ wz ⟨rfl, hfz⟩
        have FZ : Hid (Fr w wz) := Fr.trans F18.out hfz
        clear hfz B18 F18
        go_wp2_with fail
        go_ret
        exact ⟨rfl, FZ.out⟩
    · have hl' : (len : Int) ≤ 40 := by omega
      have m7' := fun W f => m7 W f hl
      clear hl
      go_wp2_with (go_at_call 25; refine (m3 _ F6.out).mono ?_)
      rintro _ w19 ⟨rfl, hf19⟩
      have B19 : Hid (Box3 w19 w.heap.size ak an bk bn ck cn sa sb sc) := Box3.fr B6.out hf19
      have F19 : Hid (Fr w w19) := Fr.trans F6.out hf19
      clear a0 a1 a2 b0 b1 b2 c0 c1 c2 hf19 B6 F6
      obtain ⟨a0, a1, a2, b0, b1, b2, c0, c1, c2⟩ := B19.out
      rcases huv with ⟨hu, ht, rfl, rfl, rfl⟩ | ⟨rfl, ht, rfl, rfl, rfl⟩ | ⟨rfl, rfl, rfl, rfl, rfl⟩
      · skip
        have qeu : ((eu : Int) == 0) = false := by simp; omega
        have peu : ¬ ((eu : Int) = 0) := by omega
        have qet : ((et : Int) == 0) = false := by simp; omega
        have pet : ¬ ((et : Int) = 0) := by omega
        clear hu ht
        go_wp2_with (go_at_call 25; refine (m4 _).mono ?_)
        rintro _ w20 ⟨rfl, hf20⟩
        have B20 : Hid (Box3 w20 w.heap.size ak an bk bn ck cn sa sb sc) := Box3.fr B19.out (Fr.trans (Fr.alloc (Fr.refl _) _) hf20)
        have F20 : Hid (Fr w w20) := Fr.trans F19.out (Fr.trans (Fr.alloc (Fr.refl _) _) hf20)
        clear a0 a1 a2 b0 b1 b2 c0 c1 c2 hf20 B19 F19
        obtain ⟨a0, a1, a2, b0, b1, b2, c0, c1, c2⟩ := B20.out
        go_wp2_with (go_at_call 29; refine (m7' _ F20.out).mono ?_)
        rintro _ w21 ⟨rfl, hf21⟩
        have B21 : Hid (Box3 w21 w.heap.size ak an bk bn ck cn sa sb sc) := Box3.fr B20.out hf21
        have F21 : Hid (Fr w w21) := Fr.trans F20.out hf21
        clear a0 a1 a2 b0 b1 b2 c0 c1 c2 hf21 B20 F20
        obtain ⟨a0, a1, a2, b0, b1, b2, c0, c1, c2⟩ := B21.out
        clear a0 a1 a2 b0 b1 b2 c0 c1 c2
        go_wp2_with (go_at_call 10; refine (logicBegun_any _).mono ?_)
        rintro _ wz ⟨rfl, hfz⟩
        have FZ : Hid (Fr w wz) := Fr.trans F21.out hfz
        clear hfz B21 F21
        go_wp2_with fail
        go_ret
        exact ⟨rfl, FZ.out⟩
      · skip
        have qet : ((et : Int) == 0) = false := by simp; omega
        have pet : ¬ ((et : Int) = 0) := by omega
        clear ht
        go_wp2_with (go_at_call 25; refine (m4 _).mono ?_)
        rintro _ w22 ⟨rfl, hf22⟩
        have B22 : Hid (Box3 w22 w.heap.size ak an bk bn ck cn sa sb sc) := Box3.fr B19.out (Fr.trans (Fr.alloc (Fr.refl _) _) hf22)
        have F22 : Hid (Fr w w22) := Fr.trans F19.out (Fr.trans (Fr.alloc (Fr.refl _) _) hf22)
        clear a0 a1 a2 b0 b1 b2 c0 c1 c2 hf22 B19 F19
        obtain ⟨a0, a1, a2, b0, b1, b2, c0, c1, c2⟩ := B22.out
        have HBd : Hid (Box3 w22.drew w.heap.size ak an bk bn ck cn sa sb sc) := B22.out
        go_wp2_with fail
        go_region_held3 (fun W' => W'.cell? ⟨w.heap.size, 0, none⟩ = some (.int .i64 ak) ∧ W'.cell? ⟨w.heap.size, 1, none⟩ = some (.int .i64 an) ∧ W'.cell? ⟨w.heap.size, 2, none⟩ = some (.string sa) ∧ W'.cell? ⟨w.heap.size + 1, 0, none⟩ = some (.int .i64 bk) ∧ W'.cell? ⟨w.heap.size + 1, 1, none⟩ = some (.int .i64 bn) ∧ W'.cell? ⟨w.heap.size + 1, 2, none⟩ = some (.string sb) ∧ W'.cell? ⟨w.heap.size + 1 + 1, 0, none⟩ = some (.int .i64 ck) ∧ W'.cell? ⟨w.heap.size + 1 + 1, 1, none⟩ = some (.int .i64 cn) ∧ W'.cell? ⟨w.heap.size + 1 + 1, 2, none⟩ = some (.string sc)) (first | exact HBd.out | exact Box3.fr HBd.out hfx | exact Box3.fr (Box3.fr HBd.out hfx) hfy) (first
          | (go_at_call 27; refine (e1 _).mono ?_; rintro _ wx ⟨rfl, hfx⟩)
          | (go_at_call 28; refine (e2 _).mono ?_; rintro _ wy ⟨rfl, hfy⟩))
        have BY : Hid (Box3 wy w.heap.size ak an bk bn ck cn sa sb sc) := Box3.fr (Box3.fr HBd.out hfx) hfy
        have FY : Hid (Fr w wy) := Fr.trans (Fr.trans (Fr.drew F22.out) hfx) hfy
        clear a0 a1 a2 b0 b1 b2 c0 c1 c2 hfx hfy B22 F22 HBd
        obtain ⟨a0, a1, a2, b0, b1, b2, c0, c1, c2⟩ := BY.out
        go_wp2_with (go_at_call 29; refine (m7' _ FY.out).mono ?_)
        rintro _ w23 ⟨rfl, hf23⟩
        have B23 : Hid (Box3 w23 w.heap.size ak an bk bn ck cn sa sb sc) := Box3.fr BY.out hf23
        have F23 : Hid (Fr w w23) := Fr.trans FY.out hf23
        clear a0 a1 a2 b0 b1 b2 c0 c1 c2 hf23 BY FY
        obtain ⟨a0, a1, a2, b0, b1, b2, c0, c1, c2⟩ := B23.out
        clear a0 a1 a2 b0 b1 b2 c0 c1 c2
        go_wp2_with (go_at_call 10; refine (logicBegun_any _).mono ?_)
        rintro _ wz ⟨rfl, hfz⟩
        have FZ : Hid (Fr w wz) := Fr.trans F23.out hfz
        clear hfz B23 F23
        go_wp2_with fail
        go_ret
        exact ⟨rfl, FZ.out⟩
      · skip
        go_wp2_with (go_at_call 25; refine (m4 _).mono ?_)
        rintro _ w24 ⟨rfl, hf24⟩
        have B24 : Hid (Box3 w24 w.heap.size ak an bk bn ck cn sa sb sc) := Box3.fr B19.out (Fr.trans (Fr.alloc (Fr.refl _) _) hf24)
        have F24 : Hid (Fr w w24) := Fr.trans F19.out (Fr.trans (Fr.alloc (Fr.refl _) _) hf24)
        clear a0 a1 a2 b0 b1 b2 c0 c1 c2 hf24 B19 F19
        obtain ⟨a0, a1, a2, b0, b1, b2, c0, c1, c2⟩ := B24.out
        have HBd : Hid (Box3 w24.drew w.heap.size ak an bk bn ck cn sa sb sc) := B24.out
        go_wp2_with fail
        go_region_held3 (fun W' => W'.cell? ⟨w.heap.size, 0, none⟩ = some (.int .i64 ak) ∧ W'.cell? ⟨w.heap.size, 1, none⟩ = some (.int .i64 an) ∧ W'.cell? ⟨w.heap.size, 2, none⟩ = some (.string sa) ∧ W'.cell? ⟨w.heap.size + 1, 0, none⟩ = some (.int .i64 bk) ∧ W'.cell? ⟨w.heap.size + 1, 1, none⟩ = some (.int .i64 bn) ∧ W'.cell? ⟨w.heap.size + 1, 2, none⟩ = some (.string sb) ∧ W'.cell? ⟨w.heap.size + 1 + 1, 0, none⟩ = some (.int .i64 ck) ∧ W'.cell? ⟨w.heap.size + 1 + 1, 1, none⟩ = some (.int .i64 cn) ∧ W'.cell? ⟨w.heap.size + 1 + 1, 2, none⟩ = some (.string sc)) (first | exact HBd.out | exact Box3.fr HBd.out hfx | exact Box3.fr (Box3.fr HBd.out hfx) hfy) (first
          | (go_at_call 27; refine (e1 _).mono ?_; rintro _ wx ⟨rfl, hfx⟩)
          | (go_at_call 28; refine (e2 _).mono ?_; rintro _ wy ⟨rfl, hfy⟩))
        have BY : Hid (Box3 wy w.heap.size ak an bk bn ck cn sa sb sc) := Box3.fr (Box3.fr HBd.out hfx) hfy
        have FY : Hid (Fr w wy) := Fr.trans (Fr.trans (Fr.drew F24.out) hfx) hfy
        clear a0 a1 a2 b0 b1 b2 c0 c1 c2 hfx hfy B24 F24 HBd
        obtain ⟨a0, a1, a2, b0, b1, b2, c0, c1, c2⟩ := BY.out
        go_wp2_with (go_at_call 29; refine (m7' _ FY.out).mono ?_)
        rintro _ w25 ⟨rfl, hf25⟩
        have B25 : Hid (Box3 w25 w.heap.size ak an bk bn ck cn sa sb sc) := Box3.fr BY.out hf25
        have F25 : Hid (Fr w w25) := Fr.trans FY.out hf25
        clear a0 a1 a2 b0 b1 b2 c0 c1 c2 hf25 BY FY
        obtain ⟨a0, a1, a2, b0, b1, b2, c0, c1, c2⟩ := B25.out
        go_wp2_with (go_at_call 30; refine (e4 _).mono ?_)
        rintro _ w26 ⟨rfl, hf26⟩
        have B26 : Hid (Box3 w26 w.heap.size ak an bk bn ck cn sa sb sc) := Box3.fr B25.out hf26
        have F26 : Hid (Fr w w26) := Fr.trans F25.out hf26
        clear a0 a1 a2 b0 b1 b2 c0 c1 c2 hf26 B25 F25
        obtain ⟨a0, a1, a2, b0, b1, b2, c0, c1, c2⟩ := B26.out
        clear a0 a1 a2 b0 b1 b2 c0 c1 c2
        go_wp2_with (go_at_call 10; refine (logicBegun_any _).mono ?_)
        rintro _ wz ⟨rfl, hfz⟩
        have FZ : Hid (Fr w wz) := Fr.trans F26.out hfz
        clear hfz B26 F26
        go_wp2_with fail
        go_ret
        exact ⟨rfl, FZ.out⟩

theorem lit2r (W : World) (a b : VM.Vl) : IsRow (W.alloc (.cells #[.int .i64 a.k, .int .i64 a.n, .string a.s, .int .i64 b.k, .int .i64 b.n, .string b.s] 32)) (.slice (some ⟨W.heap.size, 0, none⟩) 2 2) [a, b] := by
  refine ⟨_, 2, rfl, Or.inr ⟨W.heap.size, 0, rfl, by simp, ?_⟩⟩
  intro i hi
  match i, hi with
  | 0, _ => simp [go_sem]
  | 1, _ => simp [go_sem]
theorem lit3r (W : World) (a b c : VM.Vl) : IsRow (W.alloc (.cells #[.int .i64 a.k, .int .i64 a.n, .string a.s, .int .i64 b.k, .int .i64 b.n, .string b.s, .int .i64 c.k, .int .i64 c.n, .string c.s] 32)) (.slice (some ⟨W.heap.size, 0, none⟩) 3 3) [a, b, c] := by
  refine ⟨_, 3, rfl, Or.inr ⟨W.heap.size, 0, rfl, by simp, ?_⟩⟩
  intro i hi
  match i, hi with
  | 0, _ => simp [go_sem]
  | 1, _ => simp [go_sem]
  | 2, _ => simp [go_sem]

theorem lt_lto {a b : VM.Vl} (h : VM.chkAll [a, b] = 0) : LG.lt a b = LG.lto a b := by
  unfold LG.lt LG.lto
  rw [LG.cmp_ok h]
theorem sm_smo {a b : VM.Vl} (h : VM.chkAll [a, b] = 0) : LG.sm a b = LG.smo a b := by
  unfold LG.sm LG.smo
  rw [LG.cmp_ok h]
theorem chk_all : ∀ {l : List VM.Vl}, VM.chkAll l = 0 → ∀ x ∈ l, VM.chk x = 0
  | [], _, x, hx => by simp at hx
  | y :: t, h, x, hx => by
    unfold VM.chkAll at h
    split at h
    · rename_i hy
      rcases List.mem_cons.1 hx with rfl | hx
      · exact hy
      · exact chk_all h x hx
    · rename_i hy; exact absurd h hy
theorem chk_first {a : VM.Vl} (h : VM.chk a ≠ 0) (l : List VM.Vl) : VM.chkAll (a :: l) = VM.chk a := if_neg h
theorem chk_skip {a : VM.Vl} (h : VM.chk a = 0) (l : List VM.Vl) : VM.chkAll (a :: l) = VM.chkAll l := if_pos h

theorem fits (a b c : VM.Vl) (l : List VM.Vl) : Fits l.length (LG.lt2 a b) (LG.sm2 a b) (LG.in2 a l) (LG.bt2 a b c) (LG.lto a b) (LG.smo a b) (LG.any (l.map (LG.smo a))) (LG.and (LG.not (LG.lto a b)) (LG.not (LG.lto c a)))
    (VM.chk a) (VM.chkAll l) (VM.chkAll [a, b]) (LG.inErr a l) (VM.chkAll [a, b, c]) := by
  unfold Fits
  by_cases ha : VM.chk a = 0
  · refine Or.inr ⟨ha, ?_, ?_⟩
    · have u1 : VM.chkAll [a, b] = VM.chkAll [b] := chk_skip ha _
      have u2 : VM.chkAll [a, b, c] = VM.chkAll [b, c] := chk_skip ha _
      by_cases hb : VM.chk b = 0
      · have hab : VM.chkAll [a, b] = 0 := (LG.chk_two a b).2 ⟨ha, hb⟩
        have x1 : LG.lt2 a b = LG.lto a b := (if_pos hab).trans (lt_lto hab)
        have x2 : LG.sm2 a b = LG.smo a b := (if_pos hab).trans (sm_smo hab)
        have u3 : VM.chkAll [b, c] = VM.chkAll [c] := chk_skip hb _
        by_cases hc : VM.chk c = 0
        · have habc : VM.chkAll [a, b, c] = 0 := by rw [u2, u3, chk_skip hc]; rfl
          have hca : VM.chkAll [c, a] = 0 := (LG.chk_two c a).2 ⟨hc, ha⟩
          refine Or.inr (Or.inr ⟨hab, habc, x1, x2, ?_⟩)
          have : LG.bt2 a b c = LG.bt a b c := if_pos habc
          rw [this]
          unfold LG.bt
          rw [lt_lto hab, lt_lto hca]
        · have hn : VM.chkAll [a, b, c] ≠ 0 := by rw [u2, u3, chk_first hc]; exact hc
          exact Or.inr (Or.inl ⟨hab, hn, x1, x2, if_neg hn⟩)
      · have n1 : VM.chkAll [a, b] ≠ 0 := by rw [u1, chk_first hb]; exact hb
        have n2 : VM.chkAll [a, b, c] ≠ 0 := by rw [u2, chk_first hb]; exact hb
        exact Or.inl ⟨n1, n2, if_neg n1, if_neg n1, if_neg n2⟩
    · by_cases h40 : 40 < l.length
      · have e : LG.inErr a l = 2 := if_pos h40
        exact Or.inl ⟨h40, e, if_neg (by rw [e]; decide)⟩
      · have e : LG.inErr a l = VM.chkAll l := (if_neg h40).trans (if_neg (by omega))
        refine Or.inr ⟨by omega, e, ?_⟩
        by_cases hl : VM.chkAll l = 0
        · refine Or.inr ⟨hl, ?_⟩
          have : LG.in2 a l = LG.inn a l := if_pos (e.trans hl)
          rw [this]
          unfold LG.inn
          congr 1
          apply List.map_congr_left
          intro x hx
          exact sm_smo ((LG.chk_two a x).2 ⟨ha, chk_all hl x hx⟩)
        · exact Or.inl ⟨hl, if_neg (by rw [e]; exact hl)⟩
  · have n1 : VM.chkAll [a, b] ≠ 0 := by rw [chk_first ha]; exact ha
    have n2 : VM.chkAll [a, b, c] ≠ 0 := by rw [chk_first ha]; exact ha
    by_cases h40 : 40 < l.length
    · have e : LG.inErr a l = 2 := if_pos h40
      exact Or.inl ⟨ha, n1, n2, if_neg n1, if_neg n1, if_neg (by rw [e]; decide), if_neg n2, Or.inl ⟨h40, e⟩⟩
    · have e : LG.inErr a l = VM.chk a := (if_neg h40).trans (if_pos ha)
      exact Or.inl ⟨ha, n1, n2, if_neg n1, if_neg n1, if_neg (by rw [e]; exact ha), if_neg n2, Or.inr ⟨by omega, e⟩⟩

theorem walk (a b c : VM.Vl) (u : Value) (l : List VM.Vl) (w : World) (ha : a.s.size ≤ maxLen) (hb : b.s.size ≤ maxLen) (hc : c.s.size ≤ maxLen) (hu : IsRow w u l) (hw : Wide l) (hl : l.length ≤ 9223372036854775807) :
    Calls Try.prog 7 #[a.val, b.val, c.val, u] w fun e w' => e = .returned (.bool true) ∧ Fr w w' := by
  have hu' := hu
  obtain ⟨A, cap, rfl, _⟩ := hu
  refine core a.k a.n b.k b.n c.k c.n a.s b.s c.s A l.length cap _ _ _ _ _ _ _ _ _ _ _ _ _ w (fits a b c l)
    (fun W => Less_any a b W) (fun W => Same_any a b W) (fun W f => In_any a _ l W (hu'.fr f) hl) (fun W => Between_any a b c W)
    (fun W => rcheckAll_any _ _ _ (lit2r W a b) (by simp)) (fun W => rcheck_any a.k a.n a.s W) (fun W f => rcheckAll_any _ l W (hu'.fr f) hl) (fun W => rcheckAll_any _ _ _ (lit3r W a b c) (by simp))
    (fun W => lessOf_any a b W ha hb) (fun W => sameOf_any a b W) (fun W f h => inOf_any a _ l W (hu'.fr f) h) (fun W => betweenOf_any a b c W ha hb hc)

set_option maxRecDepth 100000 in
theorem lifted (os : Os) (started : os.Started) (H : Type) (enc : TypeId × Value → H) :
    ReturnsInHanded {} Try.checked os 7 .any (Rows.asksTellsSpec.pre6 enc Try.prog Try.f7 Rows.asksTellsRow.domain false) (Rows.asksTellsSpec.post enc Try.prog Try.f7 false true false false) := by
  refine returnsInHanded_of_change_sized (C := Try.checked) own started (by kernel_rfl) Try.func7
    (ChangeSpec.witness6 (enc := enc) (C := Try.checked) false ⟨#[], #[.agg #[.int .i64 0, .int .i64 0, .string ByteArray.empty], .agg #[.int .i64 0, .int .i64 0, .string ByteArray.empty], .agg #[.int .i64 0, .int .i64 0, .string ByteArray.empty], .slice none 0 0], []⟩ 8 (by kernel_rfl) (by kernel_rfl) (by kernel_rfl) (by kernel_rfl)) ?_
  intro W base args ds gs before hval0 hW hcnd hsz0 _
  have hval : ∀ (j : Nat) t v, Try.f7.params[j]? = some t → args[j]? = some v → Value.okWide Try.prog W .any base t v := hval0
  have hsz : (DataW.weightsEach Try.prog (Try.f7.params.toList ++ Rows.asksTellsSpec.plain.varTypes Try.prog) (ds ++ gs)).all (· ≤ reachBytes) = true := hsz0
  have hW' := hW
  obtain ⟨p, q, hA0, hV, rfl, hfz, hnd⟩ := hW
  have hA : DataW.TrodAll enc Try.prog W 0 (fun _ => true) true Try.f7.params.toList args.toList ds p := hA0
  rw [Try.params7] at hA hval hsz
  obtain ⟨v0, vs0, d0, ds0, p0, q0, hargs, rfl, rfl, h0, r0⟩ := trodAll_cons hA
  obtain ⟨v1, vs1, d1, ds1, p1, q1, rfl, rfl, rfl, h1, r1⟩ := trodAll_cons r0
  obtain ⟨v2, vs2, d2, ds2, p2, q2, rfl, rfl, rfl, h2, r2⟩ := trodAll_cons r1
  obtain ⟨v3, vs3, d3, ds3, p3, q3, rfl, rfl, rfl, h3, r3⟩ := trodAll_cons r2
  obtain ⟨rfl, rfl, rfl⟩ := trodAll_nil r3
  obtain rfl : args = #[v0, v1, v2, v3] := by cases args; simp_all
  obtain ⟨rfl, rfl⟩ := trodVars_none hV
  obtain ⟨a0, rfl, wd0⟩ := open_val (hval 0 32 v0 rfl rfl) h0
  obtain ⟨a1, rfl, wd1⟩ := open_val (hval 1 32 v1 rfl rfl) h1
  obtain ⟨a2, rfl, wd2⟩ := open_val (hval 2 32 v2 rfl rfl) h2
  obtain ⟨l3, rw3, wd3, ln3, sl3, dd3⟩ := open_row (hval 3 33 v3 rfl rfl) h3
  clear hA0 hval0 hsz0
  refine (walk a0 a1 a2 v3 l3 W wd0 wd1 wd2 rw3 wd3 (by unfold maxLen at ln3; omega)).mono fun e W' ⟨he, bel⟩ => ?_
  subst he
  exact ⟨_, rfl, _, _, _, [], _, [], hW', trodAll_mk1 (shut_bool Try.underlying4 _), (trodAll_cons_mk (shut_val h0 bel) (trodAll_cons_mk (shut_val h1 bel) (trodAll_cons_mk (shut_val h2 bel) (trodAll_cons_mk (shut_row h3 bel) trodAll_mk0)))), rfl, Below.frame bel _, fun h => by cases h⟩

theorem over : Rows.asksTellsRow.holds Try.pinned (OpenSpec.ofChange Rows.asksTellsSpec) :=
  OpenClaim.holds_of_wide 7 Try.f7 rfl rfl rfl rfl rfl rfl rfl ⟨rfl, rfl, rfl, rfl, rfl⟩ rfl rfl rfl rfl rfl (by kernel_rfl) Try.func7 (by kernel_rfl)
    (of_decide_eq_true (by kernel_rfl)) (by unfold Func.isWrapper; first | (rw [if_pos (by decide +kernel)]; kernel_rfl) | (rw [if_neg (by decide +kernel)]; exact ⟨rfl, rfl⟩))
    (fun os started H enc _ => lifted os started H enc)

end Go.Proofs.Ytppbmkkkjjkiiaa.asksTellsProof
namespace Go.Proofs.Ytppbmkkkjjkiiaa
theorem asksTells_holds : Rows.AsksTellsSaid := asksTellsProof.over
#print axioms asksTells_holds
end Go.Proofs.Ytppbmkkkjjkiiaa
