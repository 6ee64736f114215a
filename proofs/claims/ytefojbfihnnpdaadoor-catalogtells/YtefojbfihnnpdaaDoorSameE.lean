/-
  SameEntries of two lists that are alike.
-/
import Derived.Test.YtefojbfihnnpdaaDoorSame
namespace Go.Proofs.YtefojbfihnnpdaaDoor
open Go.ChangeShapes Go.WideShapes Go.ChangeAt Go.RowKit
set_option linter.unusedVariables false
set_option linter.unusedSimpArgs false
set_option maxRecDepth 100000

theorem s4_fr {W W' : World} {p q r s : Addr} {a b c d : Value} (hp : p.block < W.heap.size) (hq : q.block < W.heap.size) (hr : r.block < W.heap.size) (hs : s.block < W.heap.size) (f : Fr W W') (h : W.cell? p = some a ∧ W.cell? q = some b ∧ W.cell? r = some c ∧ W.cell? s = some d) : W'.cell? p = some a ∧ W'.cell? q = some b ∧ W'.cell? r = some c ∧ W'.cell? s = some d := by
  obtain ⟨h1, h2, h3, h4⟩ := h
  exact ⟨(World.cell?_of_block (f.block _ hp)).trans h1, (World.cell?_of_block (f.block _ hq)).trans h2, (World.cell?_of_block (f.block _ hr)).trans h3, (World.cell?_of_block (f.block _ hs)).trans h4⟩

set_option maxHeartbeats 2000000 in
theorem sameEntries_eq (v u : Value) (l : List LF.En) (w : World) (hv : IsEn w v l) (hu : IsEn w u l) (hl : l.length ≤ 9223372036854775806) (hr : ∀ e ∈ l, e.2.length ≤ 9223372036854775806) :
    Calls Tryd.prog 15 #[v, u] w fun e w' => e = .returned (.bool true) ∧ Fr w w' := by
  obtain ⟨a, cap, rfl, hcs⟩ := hv
  obtain ⟨a2, cap2, rfl, hcs2⟩ := hu
  have HC := hideP hcs
  have HC2 := hideP hcs2
  have HR := hideP hr
  clear hcs hcs2 hr
  go_enter Tryd.func15, Tryd.ntmps15
  go_wp2_with fail
  go_loopw [5] (fun iv wr => ∃ i : Nat, iv = .int .i64 i ∧ i ≤ l.length ∧ Fr w wr) (fun iv _ => l.length - (intOf iv).toNat)
  case atStart => exact ⟨0, rfl, by omega, Fr.refl _⟩
  case round =>
    obtain ⟨i, rfl, hi, hfr⟩ := hrel
    by_cases hlt : i < l.length
    · obtain ⟨b, o, rfl, hb, hc⟩ : ∃ b o, a = some ⟨b, o, none⟩ ∧ b < w.heap.size ∧ EnAt w b o l := by
        rcases HC.out with h | h
        · subst h; simp at hlt
        · exact h
      obtain ⟨b2, o2, rfl, hb2, hc2⟩ : ∃ b o, a2 = some ⟨b, o, none⟩ ∧ b < w.heap.size ∧ EnAt w b o l := by
        rcases HC2.out with h | h
        · subst h; simp at hlt
        · exact h
      obtain ⟨c0, v1, c1, r1⟩ := (hc.fr hb hfr) i hlt
      obtain ⟨d0, v2, d1, r2⟩ := (hc2.fr hb2 hfr) i hlt
      have hrl := HR.out l[i] (List.getElem_mem hlt)
      generalize l[i] = x at c0 c1 d0 d1 r1 r2 hrl
      obtain ⟨id, r⟩ := x
      simp only at c0 c1 d0 d1 r1 r2 hrl
      have hsr := fun W (f : Fr wr W) => sameRow_eq v1 v2 r W (r1.fr f) (r2.fr f) hrl
      have hbw : b < wr.heap.size := Nat.lt_of_lt_of_le hb hfr.size
      have hbw2 : b2 < wr.heap.size := Nat.lt_of_lt_of_le hb2 hfr.size
      have hS : wr.cell? ⟨b, o + i * 2, none⟩ = some (.int .i64 id) ∧ wr.cell? ⟨b, o + i * 2 + 1, none⟩ = some v1 ∧ wr.cell? ⟨b2, o2 + i * 2, none⟩ = some (.int .i64 id) ∧ wr.cell? ⟨b2, o2 + i * 2 + 1, none⟩ = some v2 := ⟨c0, c1, d0, d1⟩
      obtain ⟨ar, capr, rfl, _⟩ := r1
      obtain ⟨ar2, capr2, rfl, _⟩ := r2
      have hlt' : (i : Int) < (l.length : Int) := by omega
      have HF := hideP hfr
      have HS := hideP hS
      clear hc hc2 hfr hS
      go_wp2_with fail
      go_region_held3 (fun W => W.cell? ⟨b, o + i * 2, none⟩ = some (.int .i64 id) ∧ W.cell? ⟨b, o + i * 2 + 1, none⟩ = some (.slice ar r.length capr) ∧ W.cell? ⟨b2, o2 + i * 2, none⟩ = some (.int .i64 id) ∧ W.cell? ⟨b2, o2 + i * 2 + 1, none⟩ = some (.slice ar2 r.length capr2)) (first | exact HS.out | assumption) (first | (go_at_call 36; refine (hsr _ (by first | exact Fr.refl _ | exact Fr.drew (Fr.refl _))).mono ?_; rintro _ w2 ⟨rfl, f2⟩; have F2 : Hid (Fr wr w2) := (by first | exact f2 | exact Fr.trans (Fr.drew (Fr.refl _)) f2); have hS2 := s4_fr hbw hbw hbw2 hbw2 F2.out HS.out; clear f2))
      all_goals
        go_wp2_with fail
        go_roundw
        case rel => exact ⟨i + 1, by go_num, by omega, Fr.trans HF.out F2.out⟩
        case measure => simp [intOf]; omega
    · obtain rfl : i = l.length := by omega
      go_wp2_with fail
      go_ret
      exact ⟨rfl, hfr⟩
end Go.Proofs.YtefojbfihnnpdaaDoor
