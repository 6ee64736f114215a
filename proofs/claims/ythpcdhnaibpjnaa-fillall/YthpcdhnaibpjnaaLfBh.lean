/-
  The examples that the statements on entries hold first are met: the call itself.
-/
import Derived.Test.YthpcdhnaibpjnaaLfBg
namespace Go.Proofs.Ythpcdhnaibpjnaa
open Go.ChangeShapes Go.WideShapes Go.ChangeAt Go.RowKit
set_option linter.unusedVariables false
set_option linter.unusedSimpArgs false
set_option maxRecDepth 100000

theorem bgPack (v : Value) (w : World) (h : IsEn w v exL) : Calls Try.prog 8 #[v] w fun e w' => e = .returned (.tuple #[.string ⟨#[2, 2, 1, 1, 4, 140, 1, 2, 2, 1, 120, 0]⟩, .int .i64 0]) ∧ Fr w w' := by
  refine (pack_any v exL w h (by decide) exL_wide).mono ?_
  rw [ex1.1, ex1.2]
  exact fun e w' h => h
theorem bgUnpack (w : World) : Calls Try.prog 9 #[.string ⟨#[2, 2, 1, 1, 4, 140, 1, 2, 2, 1, 120, 0]⟩] w fun e w' => (∃ a c, e = .returned (.tuple #[.slice a 2 c, .int .i64 0]) ∧ IsEn w' (.slice a 2 c) exL) ∧ Fr w w' := by
  refine (unpack_any _ w (by decide)).mono ?_
  rintro e w' ⟨he, hf⟩
  unfold UnpAs at he
  rw [show (⟨#[2, 2, 1, 1, 4, 140, 1, 2, 2, 1, 120, 0]⟩ : ByteArray).data.toList = [2, 2, 1, 1, 4, 140, 1, 2, 2, 1, 120, 0] from rfl, ex2] at he
  obtain ⟨v, es, rfl, ho, hm⟩ := he
  have h := ho.en
  rw [hm] at h
  have h2 := h
  obtain ⟨a, c, rfl, _⟩ := h
  exact ⟨⟨a, c, rfl, h2⟩, hf⟩
theorem bgUnpack2 (w : World) : Calls Try.prog 9 #[.string ⟨#[2, 2, 1, 1, 4, 140, 1, 2, 2, 1, 120, 0, 0]⟩] w fun e w' => e = .returned (.tuple #[.slice none 0 0, .int .i64 1]) ∧ Fr w w' := by
  refine (unpack_any _ w (by decide)).mono ?_
  rintro e w' ⟨he, hf⟩
  unfold UnpAs at he
  rw [show (⟨#[2, 2, 1, 1, 4, 140, 1, 2, 2, 1, 120, 0, 0]⟩ : ByteArray).data.toList = [2, 2, 1, 1, 4, 140, 1, 2, 2, 1, 120, 0, 0] from rfl, ex3] at he
  exact ⟨he, hf⟩
theorem bgFill (v : Value) (w : World) (h : IsEn w v exL) : Calls Try.prog 17 #[v] w fun e w' => (∃ g o c a k, e = .returned (.tuple #[.slice (some ⟨g, o, none⟩) 1 c, .int .i64 0]) ∧ g < w'.heap.size ∧ w'.cell? ⟨g, o, none⟩ = some (.slice a 2 k) ∧ IsEn w' (.slice a 2 k) exL) ∧ Fr w w' := by
  refine (fill_any v exL w h (by decide) exL_wide).mono ?_
  rintro e w' ⟨he, hf⟩
  unfold FillAs at he
  rw [if_pos ex4.1] at he
  obtain ⟨u, ps, rfl, ho, hm⟩ := he
  have hl := ho.ls
  rw [hm, ex5] at hl
  obtain ⟨a, cap, rfl, h0 | ⟨b, o, rfl, hb, hc⟩⟩ := hl
  · cases h0
  · obtain ⟨v, h1, h2⟩ := hc 0 (by decide)
    have h3 := h2
    obtain ⟨a3, c3, rfl, _⟩ := h2
    exact ⟨⟨b, o, cap, a3, c3, rfl, hb, h1, h3⟩, hf⟩
theorem bgCheck (v : Value) (w : World) (h : IsEn w v exR) : Calls Try.prog 14 #[v] w fun e w' => e = .returned (.int .i64 4) ∧ Fr w w' := by
  refine (lcheck_any v exR w h (by decide) exR_wide).mono ?_
  rw [ex4.2]
  exact fun e w' h => h
theorem bgSame (v u : Value) (w : World) (h1 : IsEn w v exL) (h2 : IsEn w u exL) : Calls Try.prog 15 #[v, u] w fun e w' => e = .returned (.bool true) ∧ Fr w w' :=
  sameEntries_eq v u exL w h1 h2 (by decide) (fun e he => by
    have := (exL_wide e he).2
    simp only [exL, List.mem_cons, List.not_mem_nil, or_false] at he
    rcases he with rfl | rfl <;> decide)
theorem s5_fr {W W' : World} {g q : Nat} {o : Nat} {a b c d x : Value} (hg : g < W.heap.size) (hq : q < W.heap.size) (f : Fr W W') (h : W.cell? ⟨q, o, none⟩ = some x ∧ W.cell? ⟨g, 0, none⟩ = some a ∧ W.cell? ⟨g, 1, none⟩ = some b ∧ W.cell? ⟨g, 2, none⟩ = some c ∧ W.cell? ⟨g, 3, none⟩ = some d) :
    W'.cell? ⟨q, o, none⟩ = some x ∧ W'.cell? ⟨g, 0, none⟩ = some a ∧ W'.cell? ⟨g, 1, none⟩ = some b ∧ W'.cell? ⟨g, 2, none⟩ = some c ∧ W'.cell? ⟨g, 3, none⟩ = some d := by
  obtain ⟨h1, h2, h3, h4, h5⟩ := h
  exact ⟨(World.cell?_of_block (f.block _ hq)).trans h1, (World.cell?_of_block (f.block _ hg)).trans h2, (World.cell?_of_block (f.block _ hg)).trans h3, (World.cell?_of_block (f.block _ hg)).trans h4, (World.cell?_of_block (f.block _ hg)).trans h5⟩

set_option maxHeartbeats 4000000 in
theorem begun_any (w : World) : Calls Try.prog 13 #[] w fun e w' => e = .returned (.bool true) ∧ Fr w w' := by
  go_enter Try.func13, Try.ntmps13
  go_wp2_with fail
  refine (vInt_any _ _).mono ?_
  rintro _ w1 ⟨rfl, f1⟩
  have F1 := hideP f1
  clear f1
  go_wp2_with fail
  have hra := lit_row w1 ra
  refine (entry_any _ _ _ _ _).mono ?_
  rintro _ w2 ⟨rfl, f2⟩
  have F2 := hideP (Fr.trans F1.out (Fr.trans ((Fr.refl w1).alloc _) f2))
  have HRA := hideP (IsRow.fr hra f2)
  clear f2 hra F1
  go_wp2_with fail
  refine (vText_any _ _).mono ?_
  rintro _ w3 ⟨rfl, f3⟩
  have F3 := hideP (Fr.trans F2.out f3)
  have HRA3 := hideP (IsRow.fr HRA.out f3)
  clear f3 HRA F2
  go_wp2_with fail
  have hrb := lit_row w3 rb
  refine (entry_any _ _ _ _ _).mono ?_
  rintro _ w4 ⟨rfl, f4⟩
  have F4 := hideP (Fr.trans F3.out (Fr.trans ((Fr.refl w3).alloc _) f4))
  have HRA4 := hideP (IsRow.fr HRA3.out (Fr.trans ((Fr.refl w3).alloc (.cells (rowV rb).toArray 66)) f4))
  have HRB4 := hideP (IsRow.fr hrb f4)
  clear f4 hrb HRA3 F3
  generalize w1.heap.size = g1 at *
  generalize w3.heap.size = g3 at *
  have HLI := hideP (lit_ens w4 1 70 _ _ ra rb HRA4.out HRB4.out)
  have htop := alloc_heap w4 (.cells #[.int .i64 1, .slice (some ⟨g1, 0, none⟩) 1 1, .int .i64 70, .slice (some ⟨g3, 0, none⟩) 2 2] 43)
  have HTOP := hideP htop
  have HF5 := hideP (Fr.alloc F4.out (.cells #[.int .i64 1, .slice (some ⟨g1, 0, none⟩) 1 1, .int .i64 70, .slice (some ⟨g3, 0, none⟩) 2 2] 43))
  have HRA5 := hideP (IsRow.fr HRA4.out ((Fr.refl w4).alloc (.cells #[.int .i64 1, .slice (some ⟨g1, 0, none⟩) 1 1, .int .i64 70, .slice (some ⟨g3, 0, none⟩) 2 2] 43)))
  have HRB5 := hideP (IsRow.fr HRB4.out ((Fr.refl w4).alloc (.cells #[.int .i64 1, .slice (some ⟨g1, 0, none⟩) 1 1, .int .i64 70, .slice (some ⟨g3, 0, none⟩) 2 2] 43)))
  clear HRA4 HRB4 F4 htop
  go_wp2_with fail
  refine (entries_any _ _).mono ?_
  rintro _ w5 ⟨rfl, f5⟩
  have F5 := hideP (Fr.trans HF5.out f5)
  have HL5 := hideP (IsEn.fr HLI.out f5)
  have htp5 := (f5.block _ (Array.getElem?_eq_some_iff.1 HTOP.out).1).trans HTOP.out
  have HTP5 := hideP htp5
  have HA5 := hideP (IsRow.fr HRA5.out f5)
  have HB5 := hideP (IsRow.fr HRB5.out f5)
  clear f5 htp5 HLI HTOP HF5 HRA5 HRB5
  generalize w4.heap.size = g at *
  go_wp2_with fail
  refine (bgPack _ _ HL5.out).mono ?_
  rintro _ w6 ⟨rfl, f6⟩
  have X6 := hideP f6
  clear f6
  go_wp2_with fail
  refine (bgUnpack _).mono ?_
  rintro _ w7 ⟨⟨a7, c7, rfl, hm7⟩, f7⟩
  have X7 := hideP (Fr.trans X6.out f7)
  have HM7 := hideP hm7
  clear f7 hm7 X6
  go_wp2_with fail
  refine (bgUnpack2 _).mono ?_
  rintro _ w8 ⟨rfl, f8⟩
  have X8 := hideP (Fr.trans X7.out f8)
  have HM8 := hideP (IsEn.fr HM7.out f8)
  have hL8 := IsEn.fr HL5.out X8.out
  clear f8 HM7 X7
  go_wp2_with fail
  refine (bgFill _ _ hL8).mono ?_
  rintro _ w9 ⟨⟨gb, ob, cb, ab, kb, rfl, hgb, hcb, hib⟩, f9⟩
  have X9 := hideP (Fr.trans X8.out f9)
  have HM9 := hideP (IsEn.fr HM8.out f9)
  have HL9 := hideP (IsEn.fr HL5.out X9.out)
  have HIB := hideP hib
  have HA9 := hideP (IsRow.fr HA5.out X9.out)
  have HB9 := hideP (IsRow.fr HB5.out X9.out)
  have ht9 := (X9.out.block _ (Array.getElem?_eq_some_iff.1 HTP5.out).1).trans HTP5.out
  have hg9 : g < w9.heap.size := (Array.getElem?_eq_some_iff.1 ht9).1
  have HS : Hid (w9.cell? ⟨gb, ob, none⟩ = some (.slice ab 2 kb) ∧ w9.cell? ⟨g, 0, none⟩ = some (.int .i64 1) ∧ w9.cell? ⟨g, 1, none⟩ = some (.slice (some ⟨g1, 0, none⟩) 1 1) ∧ w9.cell? ⟨g, 2, none⟩ = some (.int .i64 70) ∧ w9.cell? ⟨g, 3, none⟩ = some (.slice (some ⟨g3, 0, none⟩) 2 2)) :=
    ⟨hcb, (Lib.cell_of_heap ht9 0).trans rfl, (Lib.cell_of_heap ht9 1).trans rfl, (Lib.cell_of_heap ht9 2).trans rfl, (Lib.cell_of_heap ht9 3).trans rfl⟩
  have F9 := hideP (Fr.trans F5.out X9.out)
  have hse : ∀ x W, Fr w9 W → (x = .slice a7 2 c7 ∨ x = .slice ab 2 kb) → Calls Try.prog 15 #[x, .slice (some ⟨g, 0, none⟩) 2 2] W fun e w' => e = .returned (.bool true) ∧ Fr W w' := fun x W f hx => by
    refine bgSame _ _ W ?_ (IsEn.fr HL9.out f)
    rcases hx with rfl | rfl
    · exact IsEn.fr HM9.out f
    · exact IsEn.fr HIB.out f
  have hck : ∀ W0 W n, Fr w9 W0 → Fr (W0.alloc (.cells #[.int .i64 70, .slice (some ⟨g3, 0, none⟩) 2 2, .int .i64 1, .slice (some ⟨g1, 0, none⟩) 1 1] 43)) W → n = W0.heap.size → Calls Try.prog 14 #[.slice (some ⟨n, 0, none⟩) 2 2] W fun e w' => e = .returned (.int .i64 4) ∧ Fr W w' := fun W0 W n f f2 hn => by
    subst hn
    exact bgCheck _ W (IsEn.fr (lit_ens W0 70 1 _ _ rb ra (IsRow.fr HB9.out f) (IsRow.fr HA9.out f)) f2)
  clear f9 hcb hib ht9 HL5 HTP5 HA5 HB5 X8 HM8 HM9 HL9 HIB HA9 HB9 hL8 X9 F5
  go_wp2_with fail
  go_region_held3 (fun W => W.cell? ⟨gb, ob, none⟩ = some (.slice ab 2 kb) ∧ W.cell? ⟨g, 0, none⟩ = some (.int .i64 1) ∧ W.cell? ⟨g, 1, none⟩ = some (.slice (some ⟨g1, 0, none⟩) 1 1) ∧ W.cell? ⟨g, 2, none⟩ = some (.int .i64 70) ∧ W.cell? ⟨g, 3, none⟩ = some (.slice (some ⟨g3, 0, none⟩) 2 2)) (first | exact HS.out | assumption | exact s5_fr hg9 hgb (Fr.alloc (by assumption) _) HS.out) (first
    | (go_at_call 15; refine (hse _ _ (by first | exact Fr.refl _ | exact Fr.drew (Fr.refl _) | assumption | exact Fr.drew (by assumption)) (by first | exact Or.inl rfl | exact Or.inr rfl)).mono ?_; rintro _ wA ⟨rfl, fA⟩; have FA : Fr w9 wA := (by first | exact fA | exact Fr.trans (Fr.drew (Fr.refl _)) fA | exact Fr.trans (by assumption) fA | exact Fr.trans (Fr.drew (by assumption)) fA); have hSA := s5_fr hg9 hgb FA HS.out; clear fA)
    | (go_at_call 32; refine (entries_any _ _).mono ?_; rintro _ wE ⟨rfl, fE⟩; have FE : Fr w9 wE := Fr.trans (Fr.alloc FA _) fE; have hSE := s5_fr hg9 hgb FE HS.out)
    | (go_at_call 14; refine (hck wA wE _ FA fE rfl).mono ?_; rintro _ wC ⟨rfl, fC⟩; have FC : Fr w9 wC := Fr.trans FE fC; have hSC := s5_fr hg9 hgb FC HS.out))
  all_goals
    go_wp2_with fail
    go_ret
    exact ⟨rfl, Fr.trans F9.out FC⟩
end Go.Proofs.Ythpcdhnaibpjnaa
