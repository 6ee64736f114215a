/-
  What the document's own InOf answers.
-/
import Derived.Test.YtppbmkkkjjkiiaaRefLg
namespace Go.Proofs.Ytppbmkkkjjkiiaa
open Go.ChangeShapes Go.WideShapes Go.ChangeAt Go.RowKit
set_option linter.unusedVariables false
set_option linter.unusedSimpArgs false

theorem own_fr {w w' : World} {base : Nat} {e : TypeId} {size : Nat} {v : Value} {n : Nat} {xs : List Value} (h : w.ownsRow base e size v n xs) (f : Fr w w') : w'.ownsRow base e size v n xs := by
  refine ⟨h.1, ?_⟩
  rcases h.2 with h0 | ⟨g, cap, cur, h1, h2, h3, h4⟩
  · exact Or.inl h0
  · exact Or.inr ⟨g, cap, cur, h1, h2, (Below.block f g (Array.getElem?_eq_some_iff.1 h3).1).trans h3, h4⟩

theorem map_take (f : VM.Vl → Int) (l : List VM.Vl) (n : Nat) (h : n < l.length) : (l.map f).take (n + 1) = (l.map f).take n ++ [f l[n]] := by
  rw [List.take_succ_eq_append_getElem (by simpa using h)]
  simp

set_option maxRecDepth 100000 in
set_option maxHeartbeats 2000000 in
theorem inOf_any (a : VM.Vl) (v : Value) (l : List VM.Vl) (w : World) (hr : IsRow w v l) (hbig : l.length ≤ 40) :
    Calls Try.prog 29 #[a.val, v] w fun e w' => e = .returned (.int .i64 (LG.any (l.map (LG.smo a)))) ∧ Fr w w' := by
  obtain ⟨i0, hi0, hz0, hz1, hz2⟩ := info_parts Try.infoElem
  obtain ⟨A, cap, rfl, hcs⟩ := hr
  have HC : Hid _ := hcs
  clear hcs
  have HS : Hid _ := fun b W => sameOf_any a b W
  have HT : Hid _ := map_take (LG.smo a) l
  have HML : Hid ((l.map (LG.smo a)).length = l.length) := by unfold Hid; simp
  generalize l.map (LG.smo a) = M at *
  obtain ⟨ak, an, sa⟩ := a
  unfold VM.Vl.val at *
  simp only
  have HF0 : Hid (Fr w (w.alloc (.cells #[.int .i64 ak, .int .i64 an, .string sa] 32))) := (Fr.refl w).alloc _
  have d0 : (w.alloc (.cells #[.int .i64 ak, .int .i64 an, .string sa] 32)).cell? ⟨w.heap.size, 0, none⟩ = some (.int .i64 ak) := by simp [go_sem]
  have d1 : (w.alloc (.cells #[.int .i64 ak, .int .i64 an, .string sa] 32)).cell? ⟨w.heap.size, 1, none⟩ = some (.int .i64 an) := by simp [go_sem]
  have d2 : (w.alloc (.cells #[.int .i64 ak, .int .i64 an, .string sa] 32)).cell? ⟨w.heap.size, 2, none⟩ = some (.string sa) := by simp [go_sem]
  go_enter Try.func29, Try.ntmps29
  go_wp2_with fail
  generalize hW : w.alloc (.cells #[.int .i64 ak, .int .i64 an, .string sa] 32) = W at *
  have D0 : Hid _ := d0
  have D1 : Hid _ := d1
  have D2 : Hid _ := d2
  clear d0 d1 d2 hW
  go_loopw [5, 6] (fun ov iv wr => ∃ n : Nat, n ≤ l.length ∧ iv = .int .i64 n ∧ wr.ownsRow W.heap.size 3 1 ov n (intV (M.take n)) ∧ Fr W wr) (fun _ iv _ => l.length - (intOf iv).toNat)
  case atStart => exact ⟨0, Nat.zero_le _, rfl, World.ownsRow_nil _ _ _ _, Fr.refl _⟩
  case round =>
    obtain ⟨n, hn, rfl, hown, hfr⟩ := hrel
    have hle := hfr.size
    by_cases hlt : n < l.length
    · obtain ⟨b, o, rfl, hb, hc⟩ : ∃ b o, A = some ⟨b, o, none⟩ ∧ b < w.heap.size ∧ CellsAt w b o l := by
        rcases HC.out with h | h
        · subst h; simp at hlt
        · exact h
      obtain ⟨c0, c1, c2⟩ := (hc.fr hb (Fr.trans HF0.out hfr)) n hlt
      obtain ⟨g0, g1, g2⟩ := (hc.fr hb HF0.out) n hlt
      have b0 := cell_fr hfr D0.out
      have b1 := cell_fr hfr D1.out
      have b2 := cell_fr hfr D2.out
      have hst := HT.out n hlt
      have hsm := fun W => HS.out l[n] W
      generalize l[n] = x at *
      generalize LG.smo ⟨ak, an, sa⟩ x = y at *
      obtain ⟨xk, xn, xs⟩ := x
      simp only at c0 c1 c2 g0 g1 g2 hsm
      have G0 : Hid _ := g0
      have G1 : Hid _ := g1
      have G2 : Hid _ := g2
      clear g0 g1 g2
      have HR : Hid _ := hst
      have HFR : Hid _ := hfr
      clear hst hc hfr
      go_wp2_with fail
      go_region_held3 (fun W' => W'.cell? ⟨w.heap.size, 0, none⟩ = some (.int .i64 ak) ∧ W'.cell? ⟨w.heap.size, 1, none⟩ = some (.int .i64 an) ∧ W'.cell? ⟨w.heap.size, 2, none⟩ = some (.string sa) ∧ W'.cell? ⟨b, o + n * 3, none⟩ = some (.int .i64 xk) ∧ W'.cell? ⟨b, o + n * 3 + 1, none⟩ = some (.int .i64 xn) ∧ W'.cell? ⟨b, o + n * 3 + 2, none⟩ = some (.string xs)) (first | assumption | (refine ⟨?_, ?_, ?_, ?_, ?_, ?_⟩ <;> first | assumption | exact cell_fr (by assumption) (by assumption) | exact k_alloc (by assumption) _ | exact k_alloc (cell_fr (by assumption) (by assumption)) _)) (first
        | (go_at_call 28; refine (hsm _).mono ?_; rintro e w2 ⟨rfl, hf2⟩; have s0 := cell_fr hf2 b0; have s1 := cell_fr hf2 b1; have s2 := cell_fr hf2 b2; have s3 := cell_fr hf2 c0; have s4 := cell_fr hf2 c1; have s5 := cell_fr hf2 c2; have hown2 : w2.ownsRow W.heap.size 3 1 u5 n (intV (M.take n)) := own_fr hown (Fr.trans ((Fr.refl _).drew) hf2); have HF2 : Hid (Fr W w2) := Fr.trans (Fr.drew HFR.out) hf2)
        | (refine step_append_own rfl _ _ 22 rfl W.heap.size 3 i0 (.int .i64 0) 1 8 Try.underlying22 hi0 hz0 hz1 hz2 rfl (by decide) _ _ _ rfl (hown2.alloc _) ⟨w2.heap.size, 0, none⟩ 1 1 [.int .i64 y] rfl rfl (cell_one_new _ _ _) (by intro u hu; simp at hu; subst hu; rfl) (by unfold maxLen; omega) (by omega) (by have := Fr.size HF2.out; simp; omega) ?_; intro v' w3 hown' hgrow; have hf3 : Fr W w3 := Below.grown (Fr.alloc HF2.out _) hgrow (by have := Fr.size HF2.out; simp; omega) (fun k hk => (hown2.lt k hk).1); have t0 := cell_fr hf3 D0.out; have t1 := cell_fr hf3 D1.out; have t2 := cell_fr hf3 D2.out; have t3 := cell_fr hf3 G0.out; have t4 := cell_fr hf3 G1.out; have t5 := cell_fr hf3 G2.out))
      have ho : w3.ownsRow W.heap.size 3 1 v' (n + 1) (intV (M.take (n + 1))) := by rw [HR.out, intV_app]; exact hown'
      have HO2 : Hid _ := ho
      have HF3 : Hid _ := hf3
      clear ho hown' hgrow hown hown2 hf3 hf2 s0 s1 s2 s3 s4 s5 t0 t1 t2 t3 t4 t5 b0 b1 b2 c0 c1 c2
      go_wp2_with fail
      go_roundw
      case rel => exact ⟨n + 1, by omega, by go_num, HO2.out, HF3.out⟩
      case measure => simp [intOf]; omega
    · obtain rfl : n = l.length := by omega
      rw [List.take_of_length_le (by rw [HML.out]; exact Nat.le_refl _)] at hown
      have hrow := ints_of_own hown
      have ht := truthAny_any _ M wr hrow (by rw [HML.out]; omega)
      have HF : Hid (Fr w wr) := Fr.trans HF0.out hfr
      clear hown hrow hfr HT HS HC HML
      go_wp2_with (go_at_call 20; refine ht.mono ?_)
      rintro _ w2 ⟨rfl, rfl⟩
      go_wp2_with fail
      go_ret
      exact ⟨rfl, HF.out⟩
end Go.Proofs.Ytppbmkkkjjkiiaa
