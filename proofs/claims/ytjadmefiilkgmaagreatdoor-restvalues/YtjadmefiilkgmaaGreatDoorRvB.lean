/-
  scratch of one row: each of its values becomes another one, and nothing else is written.
-/
import Derived.Test.YtjadmefiilkgmaaGreatDoorRvA
namespace Go.Proofs.YtjadmefiilkgmaaGreatDoor
open Go.ChangeShapes Go.WideShapes Go.ChangeAt Go.RowKit
set_option linter.unusedVariables false
set_option linter.unusedSimpArgs false
set_option maxRecDepth 100000

abbrev set3 (w : World) (g j : Nat) (a b c : Value) : World := ((w.setCell ⟨g, j, none⟩ a).setCell ⟨g, j + 1, none⟩ b).setCell ⟨g, j + 2, none⟩ c
theorem Blk.fr {w w' : World} {g n : Nat} (h : Blk w g n) (f : Fr w w') : Blk w' g n := by
  obtain ⟨cur, h1, h2⟩ := h
  exact ⟨cur, (f.block _ (Array.getElem?_eq_some_iff.1 h1).1).trans h1, h2⟩
theorem Blk.lt {w : World} {g n : Nat} (h : Blk w g n) : g < w.heap.size := by
  obtain ⟨cur, h1, _⟩ := h
  exact (Array.getElem?_eq_some_iff.1 h1).1
theorem Blk.set3 {w : World} {g n : Nat} (h : Blk w g n) (j : Nat) (a b c : Value) : Blk (set3 w g j a b c) g n := by
  obtain ⟨cur, h1, h2⟩ := h
  exact ⟨_, heap_setCell_same _ g _ _ _ c (heap_setCell_same _ g _ _ _ b (heap_setCell_same w g j cur _ a h1)), by simpa using h2⟩
theorem Blk.cell {w : World} {g n : Nat} (h : Blk w g n) (j : Nat) (hj : j < n * 3) : (∃ u, w.cell? ⟨g, j, none⟩ = some u) ∧ w.frozen? ⟨g, j, none⟩ = false := by
  obtain ⟨cur, h1, h2⟩ := h
  refine ⟨⟨cur[j]'(by omega), ?_⟩, frozen_of_row w g j cur _ h1⟩
  rw [cell_of_row w g j cur _ _ h1]
  exact Array.getElem?_eq_getElem (by omega)
theorem set3_other {w : World} {g j b : Nat} (hb : b ≠ g) (x y z : Value) (o : Nat) : (set3 w g j x y z).cell? ⟨b, o, none⟩ = w.cell? ⟨b, o, none⟩ := by
  refine World.cell?_of_block ?_
  rw [heap_setCell_other _ ⟨g, j + 2, none⟩ b z hb, heap_setCell_other _ ⟨g, j + 1, none⟩ b y hb, heap_setCell_other _ ⟨g, j, none⟩ b x hb]
theorem below_set3 {B : Nat} {w0 w : World} (h : Below B w0 w) {g : Nat} (hg : B ≤ g) (j : Nat) (x y z : Value) : Below B w0 (set3 w g j x y z) :=
  Below.setCell (p := ⟨g, j + 2, none⟩) (Below.setCell (p := ⟨g, j + 1, none⟩) (Below.setCell (p := ⟨g, j, none⟩) h hg x) hg y) hg z
theorem below_drew (B : Nat) (w : World) : Below B w w.drew := ⟨rfl, rfl, rfl, Nat.le_refl _, fun _ _ => rfl⟩
theorem cellAfter {w w' : World} {a : Addr} {u : Value} (f : Fr w w') (h : w.cell? a = some u) : w'.cell? a = some u := (Below.cell f (World.block_lt_of_cell? _ _ h)).trans h

set_option maxHeartbeats 1000000 in
theorem scratch_nil (b : Nat) (w : World) (hb : w.cell? ⟨b, 0, none⟩ = some (.slice none 0 0)) :
    Calls Tryz.prog 28 #[.slice (some ⟨b, 0, none⟩) 1 1] w fun e w' => e = .returned (.tuple #[]) ∧ w' = w := by
  go_enter Tryz.func28, Tryz.ntmps28
  go_wp2_with fail
  go_loopw [2] (fun iv wr => (iv = .int .i64 0 ∨ iv = .int .i64 1) ∧ wr = w) (fun iv _ => 1 - (intOf iv).toNat)
  case atStart => exact ⟨Or.inl rfl, rfl⟩
  case round =>
    obtain ⟨rfl | rfl, rfl⟩ := hrel
    · go_wp2_with fail
      go_loopw [3] (fun kv wx => kv = .int .i64 0 ∧ wx = wr) (fun _ _ => 0)
      case atStart => exact ⟨rfl, rfl⟩
      case round =>
        obtain ⟨rfl, rfl⟩ := hrel
        go_wp2_with fail
        go_roundw
        case rel => exact ⟨Or.inr rfl, by first | rfl | trivial⟩
        case measure => simp [intOf]
    · go_wp2_with fail
      refine bodyPost_end (v := .tuple #[]) (results_none rfl _ _ _) rfl ?_
      exact ⟨rfl, by first | rfl | trivial⟩

set_option maxHeartbeats 2000000 in
theorem scratch_one (b g n cap B : Nat) (w : World) (hb : w.cell? ⟨b, 0, none⟩ = some (.slice (some ⟨g, 0, none⟩) n cap)) (hk : Blk w g n) (hne : b ≠ g) (hB : B ≤ g) (hBw : B ≤ w.heap.size) (hn : n ≤ 40) :
    Calls Tryz.prog 28 #[.slice (some ⟨b, 0, none⟩) 1 1] w fun e w' => e = .returned (.tuple #[]) ∧ Below B w w' := by
  go_enter Tryz.func28, Tryz.ntmps28
  go_wp2_with fail
  go_loopw [2] (fun iv wr => (iv = .int .i64 0 ∧ wr = w) ∨ (iv = .int .i64 1 ∧ Below B w wr)) (fun iv _ => 1 - (intOf iv).toNat)
  case atStart => exact Or.inl ⟨rfl, rfl⟩
  case round =>
    rcases hrel with ⟨rfl, rfl⟩ | ⟨rfl, hbl⟩
    · have HK : Hid _ := hk
      clear hk
      go_wp2_with fail
      go_loopw [3] (fun kv wx => ∃ k : Nat, kv = .int .i64 k ∧ k ≤ n ∧ wx.cell? ⟨b, 0, none⟩ = some (.slice (some ⟨g, 0, none⟩) n cap) ∧ Blk wx g n ∧ Below B wr wx) (fun kv _ => n - (intOf kv).toNat)
      case atStart => exact ⟨0, rfl, Nat.zero_le _, hb, HK.out, Below.refl _ _⟩
      case round =>
        obtain ⟨k, rfl, hkn, hc, hbk, hbl⟩ := hrel
        by_cases hlt : k < n
        · have hltZ : (k : Int) < (n : Int) := by omega
          have hbB := hbl.size
          have HBL : Hid _ := hbl
          have HBK : Hid _ := hbk
          have HC : Hid _ := hc
          clear hbl hbk hb
          go_wp2_with fail
          go_region_with (go_at_call 35; refine (vInt_any _ _).mono ?_; rintro e w5 ⟨rfl, hfx⟩; have hc5 := cellAfter hfx HC.out; have hk5 := Blk.fr (Blk.fr HBK.out (Fr.drew (Fr.refl _))) hfx; obtain ⟨⟨u0, v0⟩, z0⟩ := hk5.cell (k * 3) (by omega); obtain ⟨⟨u1, v1⟩, z1⟩ := hk5.cell (k * 3 + 1) (by omega); obtain ⟨⟨u2, v2⟩, z2⟩ := hk5.cell (k * 3 + 2) (by omega); have HK5 : Hid _ := hk5; have HF5 : Hid _ := hfx; have HC5 : Hid _ := hc5; clear hk5 hfx)
          all_goals
            go_wp2_with fail
            refine ⟨⟨k + 1, by go_num, hlt, (set3_other hne _ _ _ 0).trans HC5.out, Blk.set3 HK5.out _ _ _ _, below_set3 (Below.trans HBL.out (Below.trans (below_drew B wr) (Below.mono HF5.out (by show B ≤ wr.heap.size; omega)))) hB _ _ _ _⟩, by simp [intOf]; omega⟩
        · have hltZ : ¬ (k : Int) < (n : Int) := by omega
          have HBL : Hid _ := hbl
          clear hbl hbk hb
          go_wp2_with fail
          go_roundw
          case rel => exact Or.inr ⟨rfl, HBL.out⟩
          case measure => simp [intOf]
    · have HBL : Hid _ := hbl
      clear hbl hb
      go_wp2_with fail
      refine bodyPost_end (v := .tuple #[]) (results_none rfl _ _ _) rfl ?_
      exact ⟨rfl, HBL.out⟩
end Go.Proofs.YtjadmefiilkgmaaGreatDoor
