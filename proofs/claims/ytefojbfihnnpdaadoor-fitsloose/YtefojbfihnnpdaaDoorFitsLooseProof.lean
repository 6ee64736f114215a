/-
  Proved: for every table's form, row, place and column FitsLoose answers true: what fits a table fits it with a column less strict, and with a column and a Null more at the end, if that column may have one. No condition but the form's own reach.
-/
import Derived.Test.YtefojbfihnnpdaaDoorCtFl
import Derived.Test.YtefojbfihnnpdaaDoorOpenS
import Derived.Test.YtefojbfihnnpdaaDoorTabs
namespace Go.Proofs.YtefojbfihnnpdaaDoor.fitsLooseProof
open Go.ChangeShapes Go.WideShapes Go.ChangeAt Go.RowKit
open Go.ChangeMaps (open_string shut_string)
set_option linter.unusedVariables false
set_option linter.unusedSimpArgs false
set_option maxRecDepth 100000

theorem s5_after {w w' : World} {a b c d e : Addr} {p q r s t : Value} (f : Fr w w') (h : w.cell? a = some p ∧ w.cell? b = some q ∧ w.cell? c = some r ∧ w.cell? d = some s ∧ w.cell? e = some t) : w'.cell? a = some p ∧ w'.cell? b = some q ∧ w'.cell? c = some r ∧ w'.cell? d = some s ∧ w'.cell? e = some t :=
  ⟨(Below.cell f (World.block_lt_of_cell? _ _ h.1)).trans h.1, (Below.cell f (World.block_lt_of_cell? _ _ h.2.1)).trans h.2.1, (Below.cell f (World.block_lt_of_cell? _ _ h.2.2.1)).trans h.2.2.1, (Below.cell f (World.block_lt_of_cell? _ _ h.2.2.2.1)).trans h.2.2.2.1, (Below.cell f (World.block_lt_of_cell? _ _ h.2.2.2.2)).trans h.2.2.2.2⟩
theorem set_other (W : World) {N A : Nat} (hne : N ≠ A) (i j : Nat) (z : Value) : (W.setCell ⟨N, i, none⟩ z).cell? ⟨A, j, none⟩ = W.cell? ⟨A, j, none⟩ :=
  World.cell?_setCell_other (w := W) (a := ⟨N, i, none⟩) (b := ⟨A, j, none⟩) (v := z) (fun e => hne (by cases e; rfl))
theorem s5_set {w : World} {A B N i j j1 j2 j3 : Nat} {p q r s t z : Value} (h : w.cell? ⟨A, j, none⟩ = some p ∧ w.cell? ⟨B, 0, none⟩ = some q ∧ w.cell? ⟨B, j1, none⟩ = some r ∧ w.cell? ⟨B, j2, none⟩ = some s ∧ w.cell? ⟨B, j3, none⟩ = some t) (h1 : N ≠ A) (h2 : N ≠ B) :
    (w.setCell ⟨N, i, none⟩ z).cell? ⟨A, j, none⟩ = some p ∧ (w.setCell ⟨N, i, none⟩ z).cell? ⟨B, 0, none⟩ = some q ∧ (w.setCell ⟨N, i, none⟩ z).cell? ⟨B, j1, none⟩ = some r ∧ (w.setCell ⟨N, i, none⟩ z).cell? ⟨B, j2, none⟩ = some s ∧ (w.setCell ⟨N, i, none⟩ z).cell? ⟨B, j3, none⟩ = some t := by
  rw [set_other w h1, set_other w h2, set_other w h2, set_other w h2, set_other w h2]
  exact h
theorem own_more {α : Type} {E : Cd α} {w : World} {B n k : Nat} {T : TypeId} {a : Option Addr} {c : Nat} {l : List α} (h : w.ownsRow B T E.k (.slice a n c) n (flat E l)) (hn : n = l.length) (hk : k = l.length := by simp) : IsL E w (.slice a k c) l := by
  subst hn hk
  exact isL_own h
/-- a slice that lies in another block stays -/
theorem IsL.set {α : Type} {E : Cd α} {w : World} {a : Option Addr} {n c N i : Nat} {z : Value} {l : List α} (h : IsL E w (.slice a n c) l) (hN : ∀ b o s, a = some ⟨b, o, s⟩ → N ≠ b) : IsL E (w.setCell ⟨N, i, none⟩ z) (.slice a n c) l := by
  obtain ⟨a', cap, e, hc, hh⟩ := h
  cases e
  refine ⟨a, c, rfl, hc, ?_⟩
  rcases hh with h0 | ⟨b, o, rfl, hb, hat⟩
  · exact .inl h0
  · refine .inr ⟨b, o, rfl, by simpa [World.setCell] using hb, fun j u hj => ?_⟩
    rw [set_other w (hN _ _ _ rfl)]
    exact hat j u hj
theorem Blk.setOther {w : World} {b N i : Nat} {arr : Array Value} {T : TypeId} {z : Value} (h : Blk w b arr T) (hne : N ≠ b) : Blk (w.setCell ⟨N, i, none⟩ z) b arr T := h.other hne i z
/-- a row of one's own, one of it changed -/
theorem own_block4 {w : World} {B n : Nat} {T : TypeId} {v : Value} {xs : List Value} (h : w.ownsRow B T 4 v n xs) (hn : 0 < n) : ∃ g cap cur, v = .slice (some ⟨g, 0, none⟩) n cap ∧ B ≤ g ∧ Blk w g cur T ∧ cur.toList.take (n * 4) = xs ∧ n ≤ cap ∧ n * 4 ≤ cur.size := by
  rcases h.2 with ⟨_, h0⟩ | ⟨g, cap, cur, rfl, h2, h3, h4, h5, h6, h7⟩
  · omega
  · refine ⟨g, cap, cur, rfl, h2, h3, h7, h4, ?_⟩
    have := h5
    have hl := h.1
    have h8 := congrArg List.length h7
    rw [List.length_take, Array.length_toList] at h8
    omega
theorem arr_set4 {cur : Array Value} {l : List CT.Cl} {k : Nat} (hk : k < l.length) (hc : cur.toList.take (l.length * 4) = flat cdC l) (hs : l.length * 4 ≤ cur.size) (y : CT.Cl) (j : Nat) (u : Value)
    (hj : (flat cdC (l.set k y))[j]? = some u) : ((((cur.setIfInBounds (k * 4) (.string y.n)).setIfInBounds (k * 4 + 1) (.int .i64 y.k)).setIfInBounds (k * 4 + 2) (.bool y.nn)).setIfInBounds (k * 4 + 3) (.bool y.u))[j]? = some u := by
  have hjl := (List.getElem?_eq_some_iff.1 hj).1
  rw [flat_len, List.length_set] at hjl
  have hk4 : cdC.k = 4 := rfl
  rw [hk4] at hjl
  have hi : j / 4 < l.length := by omega
  have e : j = j / 4 * cdC.k + j % 4 := by rw [hk4]; omega
  have hj0 := hj
  rw [e, flat_get cdC _ _ _ (by rw [List.length_set]; exact hi) (by rw [hk4]; omega)] at hj
  simp only [Array.getElem?_setIfInBounds]
  by_cases hik : j / 4 = k
  · have hyk : (l.set k y)[j / 4]'(by rw [List.length_set]; exact hi) = y := by simp [hik]
    rw [hyk] at hj
    have h4 : j % 4 = 0 ∨ j % 4 = 1 ∨ j % 4 = 2 ∨ j % 4 = 3 := by omega
    have hsz : k * 4 + 3 < cur.size := by omega
    rcases h4 with h | h | h | h
    · rw [h] at hj
      simp [cdC] at hj
      rw [if_neg (by omega), if_neg (by omega), if_neg (by omega), if_pos (by omega), if_pos (by omega), hj]
    · rw [h] at hj
      simp [cdC] at hj
      rw [if_neg (by omega), if_neg (by omega), if_pos (by omega), if_pos (by simp; omega), hj]
    · rw [h] at hj
      simp [cdC] at hj
      rw [if_neg (by omega), if_pos (by omega), if_pos (by simp; omega), hj]
    · rw [h] at hj
      simp [cdC] at hj
      rw [if_pos (by omega), if_pos (by simp; omega), hj]
  · rw [if_neg (by omega), if_neg (by omega), if_neg (by omega), if_neg (by omega)]
    have hyk : (l.set k y)[j / 4]'(by rw [List.length_set]; exact hi) = l[j / 4] := by
      rw [List.getElem_set_ne (fun h => hik h.symm)]
    rw [hyk] at hj
    have h2 := flat_get cdC l (j / 4) (j % 4) hi (by rw [hk4]; omega)
    rw [← e, hj, ← hc, List.getElem?_take, if_pos (by omega), Array.getElem?_toList] at h2
    exact h2
set_option maxHeartbeats 4000000 in
theorem walk (u : Value) (s : CT.Sc) (v : Value) (r : List VM.Vl) (k : Int) (m : CT.Cl) (w : World) (hT : Tb w) (hu : IsL cdC w u s.c) (hw : WS [s]) (hb : s.c.length * 32 ≤ 140737488351232) (hv : IsL cdV w v r) (hr : r.length * 32 ≤ 140737488351232) (hk : -9223372036854775808 ≤ k ∧ k ≤ 9223372036854775807) (hm : m.n.size ≤ 140737488355327) :
    Calls Tryd.prog 7 #[.agg #[.int .i64 s.id, .string s.n, u], v, .int .i64 k, .agg #[.string m.n, .int .i64 m.k, .bool m.nn, .bool m.u]] w fun e w' => e = .returned (.bool true) ∧ Fr w w' := by
  have hrow := isL_row hv
  have c1 := fun W (f : Fr w W) => fits_any s u v r W (hu.fr f) (hrow.fr f) hw (by omega)
  have HFit : Hid (∀ (c : List CT.Cl) (q : List VM.Vl) (x y : Value) (W : World), IsL cdC W x c → IsL cdV W y q → WC c → c.length ≤ 100 → q.length ≤ 100 → Calls Tryd.prog 17 #[.agg #[.int .i64 s.id, .string s.n, x], y] W fun e w' => e = .returned (.int .i64 (CT.fits ⟨s.id, s.n, c⟩ q)) ∧ Fr W w') := by
    intro c q x y W hx hy hwc hc hq
    refine fits_any ⟨s.id, s.n, c⟩ x y q W hx (isL_row hy) ?_ (by omega)
    intro z hz
    obtain rfl : z = ⟨s.id, s.n, c⟩ := by simpa using hz
    exact ⟨(hw s (by simp)).1, hwc, by show c.length ≤ _; omega⟩
  have HChk : Hid (∀ (c : List CT.Cl) (sl : Sl) (W : World), IsL cdC W (slV sl) c → WC c → c.length ≤ 100 → Calls Tryd.prog 14 #[.slice (some ⟨W.heap.size, 0, none⟩) 1 1] (W.alloc (.cells #[.int .i64 s.id, .string s.n, slV sl] 39)) fun e w' => e = .returned (.int .i64 (CT.chk [⟨s.id, s.n, c⟩])) ∧ Fr (W.alloc (.cells #[.int .i64 s.id, .string s.n, slV sl] 39)) w') := by
    intro c sl W hx hwc hc
    refine ccheck_any _ [⟨s.id, s.n, c⟩] _ (lit_sc W ⟨s.id, s.n, c⟩ sl hx) ?_
    intro z hz
    obtain rfl : z = ⟨s.id, s.n, c⟩ := by simpa using hz
    exact ⟨(hw s (by simp)).1, hwc, by show c.length ≤ _; omega⟩
  have hwc : WC s.c := (hw s (by simp)).2.1
  obtain ⟨ua, uc, rfl, hcapu, hua⟩ := id hu
  obtain ⟨va, vc, rfl, hcapv, hva⟩ := id hv
  have HB4' := Blk.new w #[.int .i64 s.id, .string s.n, .slice ua s.c.length uc] 39
  have HB7' := Blk.new (w.alloc (.cells #[.int .i64 s.id, .string s.n, .slice ua s.c.length uc] 39)) #[.string m.n, .int .i64 m.k, .bool m.nn, .bool m.u] 44
  rw [World.size_alloc] at HB7'
  have F0' : Fr w ((w.alloc (.cells #[.int .i64 s.id, .string s.n, .slice ua s.c.length uc] 39)).alloc (.cells #[.string m.n, .int .i64 m.k, .bool m.nn, .bool m.u] 44)) := ((Fr.refl w).alloc _).alloc _
  have HB4 := hideP (HB4'.old (.cells #[.string m.n, .int .i64 m.k, .bool m.nn, .bool m.u] 44))
  have HB7 := hideP HB7'
  have F0 := hideP F0'
  have C1 := hideP c1
  have HU := hideP hu
  have HV := hideP hv
  have HWC := hideP hwc
  have HMN := hideP hm
  clear HB4' HB7' F0' c1 hrow hT hu hv hwc hw hm hua hva
  by_cases hz0 : CT.fits s r = 0
  case neg =>
    generalize CT.fits s r = z at C1 hz0
    have e1 : ((z : Int) != 0) = true := by simp; omega
    have e2 : ¬ ((z : Int) = 0) := by omega
    go_enter Tryd.func7, Tryd.ntmps7
    go_wp2_with fail
    refine (catalogBegun_any _).mono ?_
    rintro _ w1 ⟨rfl, f1⟩
    replace HB4 := hideP (HB4.out.fr f1)
    replace F0 := hideP (F0.out.trans f1)
    have k0 := HB4.out.cell 0 rfl
    have k1 := HB4.out.cell 1 rfl
    have k2 := HB4.out.cell 2 rfl
    clear f1
    go_wp2_with fail
    refine (C1.out _ F0.out).mono ?_
    rintro _ w2 ⟨rfl, f2⟩
    replace F0 := hideP (F0.out.trans f2)
    clear f2
    go_wp2_with fail
    go_ret
    exact ⟨rfl, F0.out⟩
  case pos =>
    obtain ⟨hchk, hrl, _⟩ := CT.fits_ok hz0
    have hl6 : s.c.length ≤ 6 := by
      obtain ⟨_, ho⟩ := CT.chk_ok hchk
      exact (ho s (by simp)).six
    have hr6 : r.length ≤ 6 := by omega
    have HZ0 := hideP hz0
    rw [hz0] at C1
    clear hchk hrl hb hr hz0
    go_enter Tryd.func7, Tryd.ntmps7
    go_wp2_with fail
    refine (catalogBegun_any _).mono ?_
    rintro _ w1 ⟨rfl, f1⟩
    replace HB4 := hideP (HB4.out.fr f1)
    replace HB7 := hideP (HB7.out.fr f1)
    replace F0 := hideP (F0.out.trans f1)
    have k0 := HB4.out.cell 0 rfl
    have k1 := HB4.out.cell 1 rfl
    have k2 := HB4.out.cell 2 rfl
    clear f1
    go_wp2_with fail
    refine (C1.out _ F0.out).mono ?_
    rintro _ w2 ⟨rfl, f2⟩
    replace HB4 := hideP (HB4.out.fr f2)
    replace HB7 := hideP (HB7.out.fr f2)
    replace F0 := hideP (F0.out.trans f2)
    replace HU := hideP (HU.out.fr F0.out)
    replace HV := hideP (HV.out.fr F0.out)
    replace k0 := HB4.out.cell 0 rfl
    replace k1 := HB4.out.cell 1 rfl
    replace k2 := HB4.out.cell 2 rfl
    have HN4 := hideP HB4.out.lt
    have HN7 := hideP HB7.out.lt
    clear f2 C1
    -- the wider table
    have HB9 := hideP (Blk.new w2 #[.int .i64 s.id, .string s.n, .slice ua s.c.length uc] 39)
    have F9 := hideP ((Fr.refl w2).alloc (.cells #[.int .i64 s.id, .string s.n, .slice ua s.c.length uc] 39))
    go_upto_region 6 with fail
    clear k0 k1 k2
    generalize w2.alloc (.cells #[.int .i64 s.id, .string s.n, .slice ua s.c.length uc] 39) = w3 at *
    have HN9 := hideP HB9.out.lt
    obtain ⟨i0, hi0, jz0, jz1, jz2⟩ := info_parts Tryd.infoCol
    have HU3 := hideP (HU.out.fr F9.out)
    have HS5 := hideP (show w3.cell? ⟨w.heap.size, 2, none⟩ = some (.slice ua s.c.length uc) ∧ w3.cell? ⟨w.heap.size + 1, 0, none⟩ = some (.string m.n) ∧ w3.cell? ⟨w.heap.size + 1, 1, none⟩ = some (.int .i64 m.k) ∧ w3.cell? ⟨w.heap.size + 1, 2, none⟩ = some (.bool m.nn) ∧ w3.cell? ⟨w.heap.size + 1, 3, none⟩ = some (.bool m.u) from ⟨(HB4.out.fr F9.out).cell 2 rfl, (HB7.out.fr F9.out).cell 0 rfl, (HB7.out.fr F9.out).cell 1 rfl, (HB7.out.fr F9.out).cell 2 rfl, (HB7.out.fr F9.out).cell 3 rfl⟩)
    have hn4 : w2.heap.size ≠ w.heap.size := by have := HN4.out; omega
    have hn7 : w2.heap.size ≠ w.heap.size + 1 := by have := HN7.out; omega
    have hz := Fr.drew (Fr.refl w3)
    have hyA := Fr.drew (Fr.alloc (Fr.refl w3) (.cells #[] 44))
    have hyB := Fr.drew (Fr.alloc (Fr.refl w3) (.cells #[.string m.n, .int .i64 m.k, .bool m.nn, .bool m.u] 44))
    have hyAB := Fr.drew (Fr.alloc (Fr.alloc (Fr.refl w3) (.cells #[] 44)) (.cells #[.string m.n, .int .i64 m.k, .bool m.nn, .bool m.u] 44))
    have hyBA := Fr.drew (Fr.alloc (Fr.alloc (Fr.refl w3) (.cells #[.string m.n, .int .i64 m.k, .bool m.nn, .bool m.u] 44)) (.cells #[] 44))
    go_cut [9] from 19 to 26 (fun s9 wx => ∃ a2 c2, s9 = .pointer (some ⟨w2.heap.size, 0, none⟩) ∧ Blk wx w2.heap.size #[.int .i64 s.id, .string s.n, .slice a2 (s.c.length + 1) c2] 39 ∧ IsL cdC wx (.slice a2 (s.c.length + 1) c2) (s.c ++ [m]) ∧ Fr w2 wx)
    case first =>
      go_region_held3 (fun W => W.cell? ⟨w.heap.size, 2, none⟩ = some (.slice ua s.c.length uc) ∧ W.cell? ⟨w.heap.size + 1, 0, none⟩ = some (.string m.n) ∧ W.cell? ⟨w.heap.size + 1, 1, none⟩ = some (.int .i64 m.k) ∧ W.cell? ⟨w.heap.size + 1, 2, none⟩ = some (.bool m.nn) ∧ W.cell? ⟨w.heap.size + 1, 3, none⟩ = some (.bool m.u))
        (first | exact HS5.out | exact s5_after hz HS5.out | exact s5_after hyA HS5.out | exact s5_after hyB HS5.out | exact s5_after hyAB HS5.out | exact s5_after hyBA HS5.out | exact s5_after hfB HS5.out | exact s5_after hfA HS5.out | exact s5_after (Fr.alloc hfA _) HS5.out | exact s5_set (s5_after hfB HS5.out) hn4 hn7)
        (first
        | (refine step_append_L cdC rfl _ _ 37 44 i0 _ 32 rfl Tryd.underlying37 hi0 jz0 jz1 jz2 rfl w3.heap.size (.slice (some ⟨w3.heap.size, 0, none⟩) 0 0) 0 [] rfl (show (w3.alloc (.cells #[] 44)).drew.ownsRow w3.heap.size 44 4 _ 0 (flat cdC []) from own_lit0 cdC w3 44 _ (Nat.le_refl _)) _ s.c rfl (HU3.out.fr hyA) (by unfold maxLen; omega) (by omega) (by simp) ?_; intro v1 wA own1 gr1; have hfA : Fr w3 wA := Below.grown hyA gr1 (by simp) (fun k hk => by simp [Value.ownBlock] at hk; omega))
        | (refine step_append_L cdC rfl _ _ 37 44 i0 _ 32 rfl Tryd.underlying37 hi0 jz0 jz1 jz2 rfl w3.heap.size (.slice (some ⟨w3.heap.size, 0, none⟩) 0 0) 0 [] rfl (show ((w3.alloc (.cells #[] 44)).alloc (.cells #[.string m.n, .int .i64 m.k, .bool m.nn, .bool m.u] 44)).drew.ownsRow w3.heap.size 44 4 _ 0 (flat cdC []) from (own_lit0 cdC w3 44 _ (Nat.le_refl _)).alloc _) _ s.c rfl (HU3.out.fr hyAB) (by unfold maxLen; omega) (by omega) (by simp; omega) ?_; intro v1 wA own1 gr1; have hfA : Fr w3 wA := Below.grown hyAB gr1 (by simp; omega) (fun k hk => by simp [Value.ownBlock] at hk; omega); have hsrc : IsL cdC wA (.slice (some ⟨w3.heap.size + 1, 0, none⟩) 1 1) [m] := ((lit_one' cdC w3 (.cells #[] 44) m 44).fr (Fr.drew (Fr.refl _))).grown gr1 (by intro b n c o sp e; cases e; simp [Value.ownBlock]))
        | (refine step_append_L cdC rfl _ _ 37 44 i0 _ 32 rfl Tryd.underlying37 hi0 jz0 jz1 jz2 rfl w3.heap.size (.slice (some ⟨w3.heap.size + 1, 0, none⟩) 0 0) 0 [] rfl (show ((w3.alloc (.cells #[.string m.n, .int .i64 m.k, .bool m.nn, .bool m.u] 44)).alloc (.cells #[] 44)).drew.ownsRow w3.heap.size 44 4 _ 0 (flat cdC []) from own_lit0' cdC w3 (.cells #[.string m.n, .int .i64 m.k, .bool m.nn, .bool m.u] 44) 44 _ (Nat.le_refl _)) _ s.c rfl (HU3.out.fr hyBA) (by unfold maxLen; omega) (by omega) (by simp; omega) ?_; intro v1 wA own1 gr1; have hfA : Fr w3 wA := Below.grown hyBA gr1 (by simp; omega) (fun k hk => by simp [Value.ownBlock] at hk; omega); have hsrc : IsL cdC wA (.slice (some ⟨w3.heap.size, 0, none⟩) 1 1) [m] := (((lit_one cdC w3 m 44).fr (Fr.alloc (Fr.refl _) _)).fr (Fr.drew (Fr.refl _))).grown gr1 (by intro b n c o sp e; cases e; simp [Value.ownBlock]))
        | (refine step_append_L cdC rfl _ _ 37 44 i0 _ 32 rfl Tryd.underlying37 hi0 jz0 jz1 jz2 rfl w3.heap.size v1 _ s.c rfl (own1.alloc _) (.slice (some ⟨wA.heap.size, 0, none⟩) 1 1) [m] rfl (lit_one cdC wA m 44) (by unfold maxLen; simp; omega) (by simp; omega) (by have := Fr.size hfA; simp; omega) ?_; intro v2 wB own2 gr2; have hfB : Fr w3 wB := Below.grown (Fr.alloc hfA _) gr2 (by have := Fr.size hfA; simp; omega) (fun k hk => (own1.lt k hk).1); obtain ⟨a2, c2, rfl⟩ := own_slice own2; have HO2 := hideP own2; have hmo := own_base own2; have HR2 := hideP (HB9.out.fr hfB); have r2 := HR2.out.cell 2 rfl; have y2 := HR2.out.frozen 2)
        | (refine step_append_L cdC rfl _ _ 37 44 i0 _ 32 rfl Tryd.underlying37 hi0 jz0 jz1 jz2 rfl w3.heap.size v1 _ s.c rfl own1 _ [m] rfl hsrc (by unfold maxLen; simp; omega) (by simp; omega) (by have := Fr.size hfA; omega) ?_; intro v2 wB own2 gr2; have hfB : Fr w3 wB := Below.grown hfA gr2 (Fr.size hfA) (fun k hk => (own1.lt k hk).1); obtain ⟨a2, c2, rfl⟩ := own_slice own2; have HO2 := hideP own2; have hmo := own_base own2; have HR2 := hideP (HB9.out.fr hfB); have r2 := HR2.out.cell 2 rfl; have y2 := HR2.out.frozen 2))
      all_goals (go_wp2_with fail; go_meet)
      all_goals (
        refine ⟨_, _, rfl, by have := HR2.out.set 2 (.slice a2 (s.c.length + 1) c2); simpa using this, ?_, ?_⟩
        · refine IsL.set (own_more HO2.out (by simp)) ?_
          intro b o sp e
          subst e
          have := hmo b rfl
          have := HN9.out
          omega
        · exact (F9.out.trans hfB).setC _ _ _ (Nat.le_refl _))
    case rest =>
      obtain ⟨w4, rfl⟩ : ∃ x, x = wc := ⟨_, rfl⟩
      obtain ⟨a2, c2, rfl, hb9, hul, fcut⟩ := hcut
      clear HB9 F9 HS5 hz hyA hyB hyAB hyBA HU3 HN9
      have HB9 := hideP hb9
      have HU9 := hideP hul
      have F9 := hideP fcut
      clear hb9 hul fcut
      have hwm : WC (s.c ++ [m]) := by
        intro c hc
        rcases List.mem_append.1 hc with h | h
        · exact HWC.out c h
        · obtain rfl : c = m := by simpa using h
          exact HMN.out
      have hlm : (s.c ++ [m]).length ≤ 100 := by rw [List.length_append]; simp; omega
      have cck := HChk.out (s.c ++ [m]) (a2, s.c.length + 1, c2) w4 HU9.out hwm hlm
      have HFw := hideP (fun (W : World) (f : Fr w4 W) (y : Value) (hy : IsL cdV W y (r ++ [CT.nul])) => HFit.out (s.c ++ [m]) (r ++ [CT.nul]) _ y W (HU9.out.fr f) hy hwm hlm (by rw [List.length_append]; simp; omega))
      have hmore := CT.fits_more (r := r) m HZ0.out
      simp only [slV] at cck
      generalize CT.chk [⟨s.id, s.n, s.c ++ [m]⟩] = ck at cck hmore
      generalize CT.fits ⟨s.id, s.n, s.c ++ [m]⟩ (r ++ [CT.nul]) = fm at HFw hmore
      have HMo := hideP hmore
      have hq0 := HB9.out.cell 0 rfl
      have hq1 := HB9.out.cell 1 rfl
      have hq2 := HB9.out.cell 2 rfl
      clear hmore hwm hlm
      by_cases hck : ck = 0
      · subst hck
        have hmo := HMo.out rfl
        have HM2 := hideP hmo
        clear hmo HMo
        go_wp2_with fail
        refine cck.mono ?_
        rintro _ w5 ⟨rfl, f5⟩
        have F5 := hideP (((Fr.refl w4).alloc _).trans f5)
        have HB5 := hideP (HB9.out.fr F5.out)
        have HV5 := hideP (HV.out.fr (F9.out.trans F5.out))
        clear f5 cck hq0 hq1 hq2
        have HS3 := hideP (show w5.cell? ⟨w2.heap.size, 0, none⟩ = some (.int .i64 s.id) ∧ w5.cell? ⟨w2.heap.size, 1, none⟩ = some (.string s.n) ∧ w5.cell? ⟨w2.heap.size, 2, none⟩ = some (.slice a2 (s.c.length + 1) c2) from ⟨HB5.out.cell 0 rfl, HB5.out.cell 1 rfl, HB5.out.cell 2 rfl⟩)
        obtain ⟨i1, hi1, kz0, kz1, kz2⟩ := info_parts Tryd.infoVal0
        have hz := Fr.drew (Fr.refl w5)
        have hyA := Fr.drew (Fr.alloc (Fr.refl w5) (.cells #[] 46))
        have hyB := Fr.drew (Fr.alloc (Fr.refl w5) (.cells #[.int .i64 0, .int .i64 0, .string ⟨#[]⟩] 46))
        have hyAB := Fr.drew (Fr.alloc (Fr.alloc (Fr.refl w5) (.cells #[] 46)) (.cells #[.int .i64 0, .int .i64 0, .string ⟨#[]⟩] 46))
        have hyBA := Fr.drew (Fr.alloc (Fr.alloc (Fr.refl w5) (.cells #[.int .i64 0, .int .i64 0, .string ⟨#[]⟩] 46)) (.cells #[] 46))
        go_upto_region 8 with fail
        go_cut [10] from 31 to 38 (fun s10 wx => s10 = .int .i64 fm ∧ Fr w4 wx)
        case first =>
          go_region_held3 (fun W => W.cell? ⟨w2.heap.size, 0, none⟩ = some (.int .i64 s.id) ∧ W.cell? ⟨w2.heap.size, 1, none⟩ = some (.string s.n) ∧ W.cell? ⟨w2.heap.size, 2, none⟩ = some (.slice a2 (s.c.length + 1) c2))
            (first | exact HS3.out | exact s3_after hz HS3.out | exact s3_after hyA HS3.out | exact s3_after hyB HS3.out | exact s3_after hyAB HS3.out | exact s3_after hyBA HS3.out | exact s3_after hfB HS3.out | exact s3_after hfA HS3.out | exact s3_after (Fr.alloc hfA _) HS3.out | exact s3_after hf58 HS3.out)
            (first
            | (refine step_append_L cdV rfl _ _ 40 46 i1 _ 32 rfl Tryd.underlying40 hi1 kz0 kz1 kz2 rfl w5.heap.size (.slice (some ⟨w5.heap.size, 0, none⟩) 0 0) 0 [] rfl (show (w5.alloc (.cells #[] 46)).drew.ownsRow w5.heap.size 46 3 _ 0 (flat cdV []) from own_lit0 cdV w5 46 _ (Nat.le_refl _)) _ r rfl (HV5.out.fr hyA) (by unfold maxLen; omega) (by omega) (by simp) ?_; intro v1 wA own1 gr1; have hfA : Fr w5 wA := Below.grown hyA gr1 (by simp) (fun k hk => by simp [Value.ownBlock] at hk; omega))
            | (refine step_append_L cdV rfl _ _ 40 46 i1 _ 32 rfl Tryd.underlying40 hi1 kz0 kz1 kz2 rfl w5.heap.size (.slice (some ⟨w5.heap.size, 0, none⟩) 0 0) 0 [] rfl (show ((w5.alloc (.cells #[] 46)).alloc (.cells #[.int .i64 0, .int .i64 0, .string ⟨#[]⟩] 46)).drew.ownsRow w5.heap.size 46 3 _ 0 (flat cdV []) from (own_lit0 cdV w5 46 _ (Nat.le_refl _)).alloc _) _ r rfl (HV5.out.fr hyAB) (by unfold maxLen; omega) (by omega) (by simp; omega) ?_; intro v1 wA own1 gr1; have hfA : Fr w5 wA := Below.grown hyAB gr1 (by simp; omega) (fun k hk => by simp [Value.ownBlock] at hk; omega); have hsrc : IsL cdV wA (.slice (some ⟨w5.heap.size + 1, 0, none⟩) 1 1) [CT.nul] := ((lit_one' cdV w5 (.cells #[] 46) CT.nul 46).fr (Fr.drew (Fr.refl _))).grown gr1 (by intro b n c o sp e; cases e; simp [Value.ownBlock]))
            | (refine step_append_L cdV rfl _ _ 40 46 i1 _ 32 rfl Tryd.underlying40 hi1 kz0 kz1 kz2 rfl w5.heap.size (.slice (some ⟨w5.heap.size + 1, 0, none⟩) 0 0) 0 [] rfl (show ((w5.alloc (.cells #[.int .i64 0, .int .i64 0, .string ⟨#[]⟩] 46)).alloc (.cells #[] 46)).drew.ownsRow w5.heap.size 46 3 _ 0 (flat cdV []) from own_lit0' cdV w5 (.cells #[.int .i64 0, .int .i64 0, .string ⟨#[]⟩] 46) 46 _ (Nat.le_refl _)) _ r rfl (HV5.out.fr hyBA) (by unfold maxLen; omega) (by omega) (by simp; omega) ?_; intro v1 wA own1 gr1; have hfA : Fr w5 wA := Below.grown hyBA gr1 (by simp; omega) (fun k hk => by simp [Value.ownBlock] at hk; omega); have hsrc : IsL cdV wA (.slice (some ⟨w5.heap.size, 0, none⟩) 1 1) [CT.nul] := (((lit_one cdV w5 CT.nul 46).fr (Fr.alloc (Fr.refl _) _)).fr (Fr.drew (Fr.refl _))).grown gr1 (by intro b n c o sp e; cases e; simp [Value.ownBlock]))
            | (refine step_append_L cdV rfl _ _ 40 46 i1 _ 32 rfl Tryd.underlying40 hi1 kz0 kz1 kz2 rfl w5.heap.size v1 _ r rfl (own1.alloc _) (.slice (some ⟨wA.heap.size, 0, none⟩) 1 1) [CT.nul] rfl (lit_one cdV wA CT.nul 46) (by unfold maxLen; simp; omega) (by simp; omega) (by have := Fr.size hfA; simp; omega) ?_; intro v2 wB own2 gr2; have hfB : Fr w5 wB := Below.grown (Fr.alloc hfA _) gr2 (by have := Fr.size hfA; simp; omega) (fun k hk => (own1.lt k hk).1); obtain ⟨a8, c8, rfl⟩ := own_slice own2; have HO2 := hideP own2; have hmo := own_base own2; have HRow := hideP (show IsL cdV wB (.slice a8 (r.length + 1) c8) (r ++ [CT.nul]) from own_more own2 (by simp)))
            | (refine step_append_L cdV rfl _ _ 40 46 i1 _ 32 rfl Tryd.underlying40 hi1 kz0 kz1 kz2 rfl w5.heap.size v1 _ r rfl own1 _ [CT.nul] rfl hsrc (by unfold maxLen; simp; omega) (by simp; omega) (by have := Fr.size hfA; omega) ?_; intro v2 wB own2 gr2; have hfB : Fr w5 wB := Below.grown hfA gr2 (Fr.size hfA) (fun k hk => (own1.lt k hk).1); obtain ⟨a8, c8, rfl⟩ := own_slice own2; have HO2 := hideP own2; have hmo := own_base own2; have HRow := hideP (show IsL cdV wB (.slice a8 (r.length + 1) c8) (r ++ [CT.nul]) from own_more own2 (by simp)))
            | (go_at_call 17; refine (HFw.out _ (F5.out.trans hfB) _ HRow.out).mono ?_; rintro _ w8 ⟨rfl, f8⟩; have F8 := hideP (F5.out.trans (hfB.trans f8)); have hf58 := hfB.trans f8; clear f8))
          all_goals (go_wp2_with fail; go_meet)
          all_goals exact ⟨rfl, F8.out⟩
        case rest =>
          obtain ⟨wz, rfl⟩ : ∃ x, x = wc := ⟨_, rfl⟩
          obtain ⟨rfl, fz⟩ := hcut
          clear HS3 hz hyA hyB hyAB hyBA HB5 HV5
          have FZ := hideP (F9.out.trans fz)
          have mz := (HB7.out.fr FZ.out).cell 2 rfl
          have hee : ((fm : Int) == 0) = !m.nn := by
            rw [HM2.out]
            cases m.nn <;> simp
          clear fz
          cases hnn : m.nn with
          | true =>
            rw [hnn] at mz hee
            clear HM2
            have b4 := hideP (HB4.out.fr FZ.out)
            have q0 := b4.out.cell 0 rfl
            have q1 := b4.out.cell 1 rfl
            have q2 := b4.out.cell 2 rfl
            by_cases hk0 : k < 0
            · go_wp2_with fail
              go_ret
              exact ⟨rfl, F0.out.trans FZ.out⟩
            by_cases hk1 : (s.c.length : Int) ≤ k
            · go_wp2_with fail
              go_ret
              exact ⟨rfl, F0.out.trans FZ.out⟩
            obtain ⟨kn, rfl⟩ := Int.eq_ofNat_of_zero_le (by omega : 0 ≤ k)
            have hkn : kn < s.c.length := by omega
            have hkl : (kn : Int) < (s.c.length : Int) := by omega
            have hN4 : w.heap.size < wz.heap.size := b4.out.lt
            have HB11 := hideP ((Blk.new wz #[.int .i64 s.id, .string s.n, .slice ua s.c.length uc] 39).old (.cells #[] 44))
            have hown0 := own_lit0 cdC (wz.alloc (.cells #[.int .i64 s.id, .string s.n, .slice ua s.c.length uc] 39)) 44 (wz.heap.size + 1) (by simp)
            rw [World.size_alloc] at hown0
            have F11 := hideP (((Fr.refl wz).alloc (.cells #[.int .i64 s.id, .string s.n, .slice ua s.c.length uc] 39)).alloc (.cells #[] 44))
            have q3 := ((b4.out.old (.cells #[.int .i64 s.id, .string s.n, .slice ua s.c.length uc] 39)).old (.cells #[] 44)).cell 2 rfl
            have hsrc := HU.out.fr (FZ.out.trans F11.out)
            clear hk0 hk1
            go_wp2_with (at_builtin; refine wpList_append_L cdC rfl _ _ 37 44 i0 _ 32 rfl Tryd.underlying37 hi0 jz0 jz1 jz2 rfl (wz.heap.size + 1) (.slice (some ⟨wz.heap.size + 1, 0, none⟩) 0 0) 0 [] rfl hown0 _ s.c rfl hsrc (by unfold maxLen; omega) (by omega) (by simp) ?_)
            intro vA wA ownA grA
            have FA := hideP (FZ.out.trans (Below.grown F11.out grA (by simp; omega) (fun k hk => by simp [Value.ownBlock] at hk; omega) : Fr wz wA))
            obtain ⟨g, cA, cur, rfl, hg, hgb, hcur, hcA, hsz4⟩ := own_block4 ownA (by omega)
            have HBA := hideP (HB11.out.grown grA (by simp [Value.ownBlock]))
            have ra0 := HBA.out.cell 2 rfl
            have ra1 := HBA.out.frozen 2
            have HG8 := hideP (Blk.other hgb (show wz.heap.size ≠ g by omega) 2 (.slice (some ⟨g, 0, none⟩) s.c.length cA))
            have HB8 := hideP (show Blk (wA.setCell ⟨wz.heap.size, 2, none⟩ (.slice (some ⟨g, 0, none⟩) s.c.length cA)) wz.heap.size #[.int .i64 s.id, .string s.n, .slice (some ⟨g, 0, none⟩) s.c.length cA] 39 from by simpa using HBA.out.set 2 (.slice (some ⟨g, 0, none⟩) s.c.length cA))
            have hszw : w2.heap.size ≤ wz.heap.size := FZ.out.size
            have F8 := hideP (show Fr w2 (wA.setCell ⟨wz.heap.size, 2, none⟩ (.slice (some ⟨g, 0, none⟩) s.c.length cA)) from FA.out.setC _ _ _ hszw)
            clear q0 q1 q2 q3 hsrc hown0 HB11 F11 ownA grA hgb
            go_upto_region 15 with fail
            clear ra0 ra1
            generalize wA.setCell ⟨wz.heap.size, 2, none⟩ (.slice (some ⟨g, 0, none⟩) s.c.length cA) = w8 at *
            obtain ⟨ub, uo, rfl, hub, huat⟩ : ∃ b o, ua = some ⟨b, o, none⟩ ∧ b < w8.heap.size ∧ At cdC w8 b o s.c := by
              obtain ⟨a', c', e', _, hh⟩ := HU.out.fr F8.out
              cases e'
              rcases hh with h0 | h0
              · rw [h0] at hkn; simp at hkn
              · exact h0
            obtain ⟨un, _, _, _⟩ := huat.co kn hkn
            have hcu : ∀ j u, (cdC.c s.c[kn])[j]? = some u → j < 4 → cur[kn * 4 + j]? = some u := by
              intro j u hj hj4
              have h2 := flat_get cdC s.c kn j hkn hj4
              rw [hj, ← hcur, List.getElem?_take, if_pos (by show kn * 4 + j < _; omega), Array.getElem?_toList] at h2
              exact h2
            have hy0 := HG8.out.cell (kn * 4) (hcu 0 _ rfl (by omega))
            have hy1 := HG8.out.cell (kn * 4 + 1) (hcu 1 _ rfl (by omega))
            have hy2 := HG8.out.cell (kn * 4 + 2) (hcu 2 _ rfl (by omega))
            have hy3 := HG8.out.cell (kn * 4 + 3) (hcu 3 _ rfl (by omega))
            have hf0 := HG8.out.frozen (kn * 4)
            have hf1 := HG8.out.frozen (kn * 4 + 1)
            have hf2 := HG8.out.frozen (kn * 4 + 2)
            have hf3 := HG8.out.frozen (kn * 4 + 3)
            have z2 := HB8.out.cell 2 rfl
            have z4 := (HB4.out.fr F8.out).cell 2 rfl
            have hfit := CT.fits_loose kn hkn HZ0.out
            have HAr := hideP (fun (j : Nat) (u : Value) => arr_set4 (k := kn) hkn hcur hsz4 (CT.loose s.c[kn]) j u)
            have HWL : Hid (WC (s.c.set kn (CT.loose s.c[kn]))) := by
              intro c hc
              rcases List.mem_or_eq_of_mem_set hc with h | h
              · exact HWC.out c h
              · subst h
                exact HWC.out s.c[kn] (List.getElem_mem hkn)
            have hlen8 : (s.c.set kn (CT.loose s.c[kn])).length = s.c.length := List.length_set
            have HC9 := hideP (fun (W : World) (x y : Value) (hx : IsL cdC W x (s.c.set kn (CT.loose s.c[kn]))) (hy : IsL cdV W y r) => HFit.out (s.c.set kn (CT.loose s.c[kn])) r x y W hx hy HWL.out (by rw [hlen8]; omega) (by omega))
            rw [hfit] at HC9
            have HL8 := hideP hlen8
            have HCA := hideP hcA
            have HGN := hideP (show g ≠ wz.heap.size by omega)
            have HGW := hideP (show w2.heap.size ≤ g by omega)
            clear hfit huat hcu hlen8 hcur
            have HG9 := hideP (show Blk (((((w8.setCell ⟨g, kn * 4, none⟩ (.string s.c[kn].n)).setCell ⟨g, kn * 4 + 1, none⟩ (.int .i64 0)).setCell ⟨g, kn * 4 + 2, none⟩ (.bool false)).setCell ⟨g, kn * 4 + 3, none⟩ (.bool false)).drew) g _ 44 from Blk.fr ((((HG8.out.set (kn * 4) (.string s.c[kn].n)).set (kn * 4 + 1) (.int .i64 0)).set (kn * 4 + 2) (.bool false)).set (kn * 4 + 3) (.bool false)) (Fr.drew (Fr.refl _)))
            have HN9 := hideP (show Blk (((((w8.setCell ⟨g, kn * 4, none⟩ (.string s.c[kn].n)).setCell ⟨g, kn * 4 + 1, none⟩ (.int .i64 0)).setCell ⟨g, kn * 4 + 2, none⟩ (.bool false)).setCell ⟨g, kn * 4 + 3, none⟩ (.bool false)).drew) wz.heap.size _ 39 from Blk.fr ((((HB8.out.other HGN.out (kn * 4) (.string s.c[kn].n)).other HGN.out (kn * 4 + 1) (.int .i64 0)).other HGN.out (kn * 4 + 2) (.bool false)).other HGN.out (kn * 4 + 3) (.bool false)) (Fr.drew (Fr.refl _)))
            have FY := hideP (show Fr w2 (((((w8.setCell ⟨g, kn * 4, none⟩ (.string s.c[kn].n)).setCell ⟨g, kn * 4 + 1, none⟩ (.int .i64 0)).setCell ⟨g, kn * 4 + 2, none⟩ (.bool false)).setCell ⟨g, kn * 4 + 3, none⟩ (.bool false)).drew) from Fr.drew ((((F8.out.setC g (kn * 4) (.string s.c[kn].n) HGW.out).setC g (kn * 4 + 1) (.int .i64 0) HGW.out).setC g (kn * 4 + 2) (.bool false) HGW.out).setC g (kn * 4 + 3) (.bool false) HGW.out))
            go_region
            clear hy0 hy1 hy2 hy3 hf0 hf1 hf2 hf3 z2 z4 un
            generalize ((((w8.setCell ⟨g, kn * 4, none⟩ (.string s.c[kn].n)).setCell ⟨g, kn * 4 + 1, none⟩ (.int .i64 0)).setCell ⟨g, kn * 4 + 2, none⟩ (.bool false)).setCell ⟨g, kn * 4 + 3, none⟩ (.bool false)).drew = w9 at *
            have n0 := HN9.out.cell 0 rfl
            have n1 := HN9.out.cell 1 rfl
            have n2 := HN9.out.cell 2 rfl
            have hlast : IsL cdC w9 (.slice (some ⟨g, 0, none⟩) s.c.length cA) (s.c.set kn (CT.loose s.c[kn])) :=
              ⟨_, cA, by rw [HL8.out], by rw [HL8.out]; exact HCA.out, .inr ⟨g, 0, rfl, HG9.out.lt, fun j u hj => by rw [Nat.zero_add]; exact HG9.out.cell j (HAr.out j u hj)⟩⟩
            have cend := HC9.out w9 _ _ hlast (HV.out.fr FY.out)
            clear hlast
            go_wp2_with fail
            refine cend.mono ?_
            rintro _ we ⟨rfl, fe⟩
            have FE := hideP (FY.out.trans fe)
            clear fe cend
            go_wp2_with fail
            go_ret
            exact ⟨rfl, F0.out.trans FE.out⟩
          | false =>
            rw [hnn] at mz hee
            clear HM2
            have b4 := hideP (HB4.out.fr FZ.out)
            have q0 := b4.out.cell 0 rfl
            have q1 := b4.out.cell 1 rfl
            have q2 := b4.out.cell 2 rfl
            by_cases hk0 : k < 0
            · go_wp2_with fail
              go_ret
              exact ⟨rfl, F0.out.trans FZ.out⟩
            by_cases hk1 : (s.c.length : Int) ≤ k
            · go_wp2_with fail
              go_ret
              exact ⟨rfl, F0.out.trans FZ.out⟩
            obtain ⟨kn, rfl⟩ := Int.eq_ofNat_of_zero_le (by omega : 0 ≤ k)
            have hkn : kn < s.c.length := by omega
            have hkl : (kn : Int) < (s.c.length : Int) := by omega
            have hN4 : w.heap.size < wz.heap.size := b4.out.lt
            have HB11 := hideP ((Blk.new wz #[.int .i64 s.id, .string s.n, .slice ua s.c.length uc] 39).old (.cells #[] 44))
            have hown0 := own_lit0 cdC (wz.alloc (.cells #[.int .i64 s.id, .string s.n, .slice ua s.c.length uc] 39)) 44 (wz.heap.size + 1) (by simp)
            rw [World.size_alloc] at hown0
            have F11 := hideP (((Fr.refl wz).alloc (.cells #[.int .i64 s.id, .string s.n, .slice ua s.c.length uc] 39)).alloc (.cells #[] 44))
            have q3 := ((b4.out.old (.cells #[.int .i64 s.id, .string s.n, .slice ua s.c.length uc] 39)).old (.cells #[] 44)).cell 2 rfl
            have hsrc := HU.out.fr (FZ.out.trans F11.out)
            clear hk0 hk1
            go_wp2_with (at_builtin; refine wpList_append_L cdC rfl _ _ 37 44 i0 _ 32 rfl Tryd.underlying37 hi0 jz0 jz1 jz2 rfl (wz.heap.size + 1) (.slice (some ⟨wz.heap.size + 1, 0, none⟩) 0 0) 0 [] rfl hown0 _ s.c rfl hsrc (by unfold maxLen; omega) (by omega) (by simp) ?_)
            intro vA wA ownA grA
            have FA := hideP (FZ.out.trans (Below.grown F11.out grA (by simp; omega) (fun k hk => by simp [Value.ownBlock] at hk; omega) : Fr wz wA))
            obtain ⟨g, cA, cur, rfl, hg, hgb, hcur, hcA, hsz4⟩ := own_block4 ownA (by omega)
            have HBA := hideP (HB11.out.grown grA (by simp [Value.ownBlock]))
            have ra0 := HBA.out.cell 2 rfl
            have ra1 := HBA.out.frozen 2
            have HG8 := hideP (Blk.other hgb (show wz.heap.size ≠ g by omega) 2 (.slice (some ⟨g, 0, none⟩) s.c.length cA))
            have HB8 := hideP (show Blk (wA.setCell ⟨wz.heap.size, 2, none⟩ (.slice (some ⟨g, 0, none⟩) s.c.length cA)) wz.heap.size #[.int .i64 s.id, .string s.n, .slice (some ⟨g, 0, none⟩) s.c.length cA] 39 from by simpa using HBA.out.set 2 (.slice (some ⟨g, 0, none⟩) s.c.length cA))
            have hszw : w2.heap.size ≤ wz.heap.size := FZ.out.size
            have F8 := hideP (show Fr w2 (wA.setCell ⟨wz.heap.size, 2, none⟩ (.slice (some ⟨g, 0, none⟩) s.c.length cA)) from FA.out.setC _ _ _ hszw)
            clear q0 q1 q2 q3 hsrc hown0 HB11 F11 ownA grA hgb
            go_upto_region 15 with fail
            clear ra0 ra1
            generalize wA.setCell ⟨wz.heap.size, 2, none⟩ (.slice (some ⟨g, 0, none⟩) s.c.length cA) = w8 at *
            obtain ⟨ub, uo, rfl, hub, huat⟩ : ∃ b o, ua = some ⟨b, o, none⟩ ∧ b < w8.heap.size ∧ At cdC w8 b o s.c := by
              obtain ⟨a', c', e', _, hh⟩ := HU.out.fr F8.out
              cases e'
              rcases hh with h0 | h0
              · rw [h0] at hkn; simp at hkn
              · exact h0
            obtain ⟨un, _, _, _⟩ := huat.co kn hkn
            have hcu : ∀ j u, (cdC.c s.c[kn])[j]? = some u → j < 4 → cur[kn * 4 + j]? = some u := by
              intro j u hj hj4
              have h2 := flat_get cdC s.c kn j hkn hj4
              rw [hj, ← hcur, List.getElem?_take, if_pos (by show kn * 4 + j < _; omega), Array.getElem?_toList] at h2
              exact h2
            have hy0 := HG8.out.cell (kn * 4) (hcu 0 _ rfl (by omega))
            have hy1 := HG8.out.cell (kn * 4 + 1) (hcu 1 _ rfl (by omega))
            have hy2 := HG8.out.cell (kn * 4 + 2) (hcu 2 _ rfl (by omega))
            have hy3 := HG8.out.cell (kn * 4 + 3) (hcu 3 _ rfl (by omega))
            have hf0 := HG8.out.frozen (kn * 4)
            have hf1 := HG8.out.frozen (kn * 4 + 1)
            have hf2 := HG8.out.frozen (kn * 4 + 2)
            have hf3 := HG8.out.frozen (kn * 4 + 3)
            have z2 := HB8.out.cell 2 rfl
            have z4 := (HB4.out.fr F8.out).cell 2 rfl
            have hfit := CT.fits_loose kn hkn HZ0.out
            have HAr := hideP (fun (j : Nat) (u : Value) => arr_set4 (k := kn) hkn hcur hsz4 (CT.loose s.c[kn]) j u)
            have HWL : Hid (WC (s.c.set kn (CT.loose s.c[kn]))) := by
              intro c hc
              rcases List.mem_or_eq_of_mem_set hc with h | h
              · exact HWC.out c h
              · subst h
                exact HWC.out s.c[kn] (List.getElem_mem hkn)
            have hlen8 : (s.c.set kn (CT.loose s.c[kn])).length = s.c.length := List.length_set
            have HC9 := hideP (fun (W : World) (x y : Value) (hx : IsL cdC W x (s.c.set kn (CT.loose s.c[kn]))) (hy : IsL cdV W y r) => HFit.out (s.c.set kn (CT.loose s.c[kn])) r x y W hx hy HWL.out (by rw [hlen8]; omega) (by omega))
            rw [hfit] at HC9
            have HL8 := hideP hlen8
            have HCA := hideP hcA
            have HGN := hideP (show g ≠ wz.heap.size by omega)
            have HGW := hideP (show w2.heap.size ≤ g by omega)
            clear hfit huat hcu hlen8 hcur
            have HG9 := hideP (show Blk (((((w8.setCell ⟨g, kn * 4, none⟩ (.string s.c[kn].n)).setCell ⟨g, kn * 4 + 1, none⟩ (.int .i64 0)).setCell ⟨g, kn * 4 + 2, none⟩ (.bool false)).setCell ⟨g, kn * 4 + 3, none⟩ (.bool false)).drew) g _ 44 from Blk.fr ((((HG8.out.set (kn * 4) (.string s.c[kn].n)).set (kn * 4 + 1) (.int .i64 0)).set (kn * 4 + 2) (.bool false)).set (kn * 4 + 3) (.bool false)) (Fr.drew (Fr.refl _)))
            have HN9 := hideP (show Blk (((((w8.setCell ⟨g, kn * 4, none⟩ (.string s.c[kn].n)).setCell ⟨g, kn * 4 + 1, none⟩ (.int .i64 0)).setCell ⟨g, kn * 4 + 2, none⟩ (.bool false)).setCell ⟨g, kn * 4 + 3, none⟩ (.bool false)).drew) wz.heap.size _ 39 from Blk.fr ((((HB8.out.other HGN.out (kn * 4) (.string s.c[kn].n)).other HGN.out (kn * 4 + 1) (.int .i64 0)).other HGN.out (kn * 4 + 2) (.bool false)).other HGN.out (kn * 4 + 3) (.bool false)) (Fr.drew (Fr.refl _)))
            have FY := hideP (show Fr w2 (((((w8.setCell ⟨g, kn * 4, none⟩ (.string s.c[kn].n)).setCell ⟨g, kn * 4 + 1, none⟩ (.int .i64 0)).setCell ⟨g, kn * 4 + 2, none⟩ (.bool false)).setCell ⟨g, kn * 4 + 3, none⟩ (.bool false)).drew) from Fr.drew ((((F8.out.setC g (kn * 4) (.string s.c[kn].n) HGW.out).setC g (kn * 4 + 1) (.int .i64 0) HGW.out).setC g (kn * 4 + 2) (.bool false) HGW.out).setC g (kn * 4 + 3) (.bool false) HGW.out))
            go_region
            clear hy0 hy1 hy2 hy3 hf0 hf1 hf2 hf3 z2 z4 un
            generalize ((((w8.setCell ⟨g, kn * 4, none⟩ (.string s.c[kn].n)).setCell ⟨g, kn * 4 + 1, none⟩ (.int .i64 0)).setCell ⟨g, kn * 4 + 2, none⟩ (.bool false)).setCell ⟨g, kn * 4 + 3, none⟩ (.bool false)).drew = w9 at *
            have n0 := HN9.out.cell 0 rfl
            have n1 := HN9.out.cell 1 rfl
            have n2 := HN9.out.cell 2 rfl
            have hlast : IsL cdC w9 (.slice (some ⟨g, 0, none⟩) s.c.length cA) (s.c.set kn (CT.loose s.c[kn])) :=
              ⟨_, cA, by rw [HL8.out], by rw [HL8.out]; exact HCA.out, .inr ⟨g, 0, rfl, HG9.out.lt, fun j u hj => by rw [Nat.zero_add]; exact HG9.out.cell j (HAr.out j u hj)⟩⟩
            have cend := HC9.out w9 _ _ hlast (HV.out.fr FY.out)
            clear hlast
            go_wp2_with fail
            refine cend.mono ?_
            rintro _ we ⟨rfl, fe⟩
            have FE := hideP (FY.out.trans fe)
            clear fe cend
            go_wp2_with fail
            go_ret
            exact ⟨rfl, F0.out.trans FE.out⟩
      · have e1 : ((ck : Int) == 0) = false := by simp; omega
        have e2 : ¬ ((ck : Int) = 0) := by omega
        go_wp2_with fail
        refine cck.mono ?_
        rintro _ wz ⟨rfl, f5⟩
        have FZ := hideP (F9.out.trans (((Fr.refl w4).alloc _).trans f5))
        clear f5 cck hq0 hq1 hq2
        have b4 := hideP (HB4.out.fr FZ.out)
        have q0 := b4.out.cell 0 rfl
        have q1 := b4.out.cell 1 rfl
        have q2 := b4.out.cell 2 rfl
        by_cases hk0 : k < 0
        · go_wp2_with fail
          go_ret
          exact ⟨rfl, F0.out.trans FZ.out⟩
        by_cases hk1 : (s.c.length : Int) ≤ k
        · go_wp2_with fail
          go_ret
          exact ⟨rfl, F0.out.trans FZ.out⟩
        obtain ⟨kn, rfl⟩ := Int.eq_ofNat_of_zero_le (by omega : 0 ≤ k)
        have hkn : kn < s.c.length := by omega
        have hkl : (kn : Int) < (s.c.length : Int) := by omega
        have hN4 : w.heap.size < wz.heap.size := b4.out.lt
        have HB11 := hideP ((Blk.new wz #[.int .i64 s.id, .string s.n, .slice ua s.c.length uc] 39).old (.cells #[] 44))
        have hown0 := own_lit0 cdC (wz.alloc (.cells #[.int .i64 s.id, .string s.n, .slice ua s.c.length uc] 39)) 44 (wz.heap.size + 1) (by simp)
        rw [World.size_alloc] at hown0
        have F11 := hideP (((Fr.refl wz).alloc (.cells #[.int .i64 s.id, .string s.n, .slice ua s.c.length uc] 39)).alloc (.cells #[] 44))
        have q3 := ((b4.out.old (.cells #[.int .i64 s.id, .string s.n, .slice ua s.c.length uc] 39)).old (.cells #[] 44)).cell 2 rfl
        have hsrc := HU.out.fr (FZ.out.trans F11.out)
        clear hk0 hk1
        go_wp2_with (at_builtin; refine wpList_append_L cdC rfl _ _ 37 44 i0 _ 32 rfl Tryd.underlying37 hi0 jz0 jz1 jz2 rfl (wz.heap.size + 1) (.slice (some ⟨wz.heap.size + 1, 0, none⟩) 0 0) 0 [] rfl hown0 _ s.c rfl hsrc (by unfold maxLen; omega) (by omega) (by simp) ?_)
        intro vA wA ownA grA
        have FA := hideP (FZ.out.trans (Below.grown F11.out grA (by simp; omega) (fun k hk => by simp [Value.ownBlock] at hk; omega) : Fr wz wA))
        obtain ⟨g, cA, cur, rfl, hg, hgb, hcur, hcA, hsz4⟩ := own_block4 ownA (by omega)
        have HBA := hideP (HB11.out.grown grA (by simp [Value.ownBlock]))
        have ra0 := HBA.out.cell 2 rfl
        have ra1 := HBA.out.frozen 2
        have HG8 := hideP (Blk.other hgb (show wz.heap.size ≠ g by omega) 2 (.slice (some ⟨g, 0, none⟩) s.c.length cA))
        have HB8 := hideP (show Blk (wA.setCell ⟨wz.heap.size, 2, none⟩ (.slice (some ⟨g, 0, none⟩) s.c.length cA)) wz.heap.size #[.int .i64 s.id, .string s.n, .slice (some ⟨g, 0, none⟩) s.c.length cA] 39 from by simpa using HBA.out.set 2 (.slice (some ⟨g, 0, none⟩) s.c.length cA))
        have hszw : w2.heap.size ≤ wz.heap.size := FZ.out.size
        have F8 := hideP (show Fr w2 (wA.setCell ⟨wz.heap.size, 2, none⟩ (.slice (some ⟨g, 0, none⟩) s.c.length cA)) from FA.out.setC _ _ _ hszw)
        clear q0 q1 q2 q3 hsrc hown0 HB11 F11 ownA grA hgb
        go_upto_region 15 with fail
        clear ra0 ra1
        generalize wA.setCell ⟨wz.heap.size, 2, none⟩ (.slice (some ⟨g, 0, none⟩) s.c.length cA) = w8 at *
        obtain ⟨ub, uo, rfl, hub, huat⟩ : ∃ b o, ua = some ⟨b, o, none⟩ ∧ b < w8.heap.size ∧ At cdC w8 b o s.c := by
          obtain ⟨a', c', e', _, hh⟩ := HU.out.fr F8.out
          cases e'
          rcases hh with h0 | h0
          · rw [h0] at hkn; simp at hkn
          · exact h0
        obtain ⟨un, _, _, _⟩ := huat.co kn hkn
        have hcu : ∀ j u, (cdC.c s.c[kn])[j]? = some u → j < 4 → cur[kn * 4 + j]? = some u := by
          intro j u hj hj4
          have h2 := flat_get cdC s.c kn j hkn hj4
          rw [hj, ← hcur, List.getElem?_take, if_pos (by show kn * 4 + j < _; omega), Array.getElem?_toList] at h2
          exact h2
        have hy0 := HG8.out.cell (kn * 4) (hcu 0 _ rfl (by omega))
        have hy1 := HG8.out.cell (kn * 4 + 1) (hcu 1 _ rfl (by omega))
        have hy2 := HG8.out.cell (kn * 4 + 2) (hcu 2 _ rfl (by omega))
        have hy3 := HG8.out.cell (kn * 4 + 3) (hcu 3 _ rfl (by omega))
        have hf0 := HG8.out.frozen (kn * 4)
        have hf1 := HG8.out.frozen (kn * 4 + 1)
        have hf2 := HG8.out.frozen (kn * 4 + 2)
        have hf3 := HG8.out.frozen (kn * 4 + 3)
        have z2 := HB8.out.cell 2 rfl
        have z4 := (HB4.out.fr F8.out).cell 2 rfl
        have hfit := CT.fits_loose kn hkn HZ0.out
        have HAr := hideP (fun (j : Nat) (u : Value) => arr_set4 (k := kn) hkn hcur hsz4 (CT.loose s.c[kn]) j u)
        have HWL : Hid (WC (s.c.set kn (CT.loose s.c[kn]))) := by
          intro c hc
          rcases List.mem_or_eq_of_mem_set hc with h | h
          · exact HWC.out c h
          · subst h
            exact HWC.out s.c[kn] (List.getElem_mem hkn)
        have hlen8 : (s.c.set kn (CT.loose s.c[kn])).length = s.c.length := List.length_set
        have HC9 := hideP (fun (W : World) (x y : Value) (hx : IsL cdC W x (s.c.set kn (CT.loose s.c[kn]))) (hy : IsL cdV W y r) => HFit.out (s.c.set kn (CT.loose s.c[kn])) r x y W hx hy HWL.out (by rw [hlen8]; omega) (by omega))
        rw [hfit] at HC9
        have HL8 := hideP hlen8
        have HCA := hideP hcA
        have HGN := hideP (show g ≠ wz.heap.size by omega)
        have HGW := hideP (show w2.heap.size ≤ g by omega)
        clear hfit huat hcu hlen8 hcur
        have HG9 := hideP (show Blk (((((w8.setCell ⟨g, kn * 4, none⟩ (.string s.c[kn].n)).setCell ⟨g, kn * 4 + 1, none⟩ (.int .i64 0)).setCell ⟨g, kn * 4 + 2, none⟩ (.bool false)).setCell ⟨g, kn * 4 + 3, none⟩ (.bool false)).drew) g _ 44 from Blk.fr ((((HG8.out.set (kn * 4) (.string s.c[kn].n)).set (kn * 4 + 1) (.int .i64 0)).set (kn * 4 + 2) (.bool false)).set (kn * 4 + 3) (.bool false)) (Fr.drew (Fr.refl _)))
        have HN9 := hideP (show Blk (((((w8.setCell ⟨g, kn * 4, none⟩ (.string s.c[kn].n)).setCell ⟨g, kn * 4 + 1, none⟩ (.int .i64 0)).setCell ⟨g, kn * 4 + 2, none⟩ (.bool false)).setCell ⟨g, kn * 4 + 3, none⟩ (.bool false)).drew) wz.heap.size _ 39 from Blk.fr ((((HB8.out.other HGN.out (kn * 4) (.string s.c[kn].n)).other HGN.out (kn * 4 + 1) (.int .i64 0)).other HGN.out (kn * 4 + 2) (.bool false)).other HGN.out (kn * 4 + 3) (.bool false)) (Fr.drew (Fr.refl _)))
        have FY := hideP (show Fr w2 (((((w8.setCell ⟨g, kn * 4, none⟩ (.string s.c[kn].n)).setCell ⟨g, kn * 4 + 1, none⟩ (.int .i64 0)).setCell ⟨g, kn * 4 + 2, none⟩ (.bool false)).setCell ⟨g, kn * 4 + 3, none⟩ (.bool false)).drew) from Fr.drew ((((F8.out.setC g (kn * 4) (.string s.c[kn].n) HGW.out).setC g (kn * 4 + 1) (.int .i64 0) HGW.out).setC g (kn * 4 + 2) (.bool false) HGW.out).setC g (kn * 4 + 3) (.bool false) HGW.out))
        go_region
        clear hy0 hy1 hy2 hy3 hf0 hf1 hf2 hf3 z2 z4 un
        generalize ((((w8.setCell ⟨g, kn * 4, none⟩ (.string s.c[kn].n)).setCell ⟨g, kn * 4 + 1, none⟩ (.int .i64 0)).setCell ⟨g, kn * 4 + 2, none⟩ (.bool false)).setCell ⟨g, kn * 4 + 3, none⟩ (.bool false)).drew = w9 at *
        have n0 := HN9.out.cell 0 rfl
        have n1 := HN9.out.cell 1 rfl
        have n2 := HN9.out.cell 2 rfl
        have hlast : IsL cdC w9 (.slice (some ⟨g, 0, none⟩) s.c.length cA) (s.c.set kn (CT.loose s.c[kn])) :=
          ⟨_, cA, by rw [HL8.out], by rw [HL8.out]; exact HCA.out, .inr ⟨g, 0, rfl, HG9.out.lt, fun j u hj => by rw [Nat.zero_add]; exact HG9.out.cell j (HAr.out j u hj)⟩⟩
        have cend := HC9.out w9 _ _ hlast (HV.out.fr FY.out)
        clear hlast
        go_wp2_with fail
        refine cend.mono ?_
        rintro _ we ⟨rfl, fe⟩
        have FE := hideP (FY.out.trans fe)
        clear fe cend
        go_wp2_with fail
        go_ret
        exact ⟨rfl, F0.out.trans FE.out⟩

set_option maxRecDepth 100000 in
theorem lifted (os : Go.Os) (started : os.Started) (H : Type) (enc : TypeId × Value → H) :
    ReturnsInHanded {} Tryd.checked os 7 .any (fun w args => (Rows.fitsLooseSpec.pre enc Tryd.prog Tryd.f7 [] false w args ∧ laidMetH Tryd.prog Rows.fitsLooseRow.laid w) ∧ sizedMet enc Tryd.prog Tryd.f7 (OpenSpec.ofChange Rows.fitsLooseSpec) false w args)
      (Rows.fitsLooseSpec.post enc Tryd.prog Tryd.f7 false true false false) := by
  refine returnsInHanded_of_change_and (C := Tryd.checked) (X := fun w _ => laidMetH Tryd.prog Rows.fitsLooseRow.laid w) (fun _ _ _ hh h => h.of_heap hh) own started (by kernel_rfl) Tryd.func7
    (ChangeSpec.witness_shaped (enc := enc) (C := Tryd.checked) (os := os) (X := fun w _ => laidMetH Tryd.prog Rows.fitsLooseRow.laid w) false (World.laidAll Tryd.prog os Rows.fitsLooseRow.laid) #[.agg #[.int .i64 0, .string ByteArray.empty, .slice none 0 0], .slice none 0 0, .int .i64 0, .agg #[.string ByteArray.empty, .int .i64 0, .bool false, .bool false]] 8 (World.laidAll_os _ _ _)
      (World.shaped_of_ZipB (by kernel_rfl) (by kernel_rfl)) (by kernel_rfl) (by kernel_rfl) (by kernel_rfl)
      (by rw [MakeChecks.laidMetH_plain _ _ _ (by kernel_rfl)]; exact laidMet_laidAll _ (by kernel_rfl) (by kernel_rfl))) ?_
  intro W base args ds gs before hval0 hW hcnd hsz0 hL _
  have hT : Tb W := tabs_of_laid hL
  have hval : ∀ (j : Nat) t v, Tryd.f7.params[j]? = some t → args[j]? = some v → Value.okWide Tryd.prog W .any base t v := hval0
  have hsz : (DataW.weightsEach Tryd.prog (Tryd.f7.params.toList ++ Rows.fitsLooseSpec.plain.varTypes Tryd.prog) (ds ++ gs)).all (· ≤ reachBytes) = true := hsz0
  have hW' := hW
  obtain ⟨p, q, hA0, hV, rfl, hfz, hnd⟩ := hW
  have hA : DataW.TrodAll enc Tryd.prog W 0 (fun _ => true) true Tryd.f7.params.toList args.toList ds p := hA0
  rw [Tryd.params7] at hA hval hsz
  obtain ⟨v0, vs0, d0, ds0, p0, q0, hargs, rfl, rfl, h0, r0⟩ := trodAll_cons hA
  obtain ⟨v1, vs1, d1, ds1, p1, q1, rfl, rfl, rfl, h1, r1⟩ := trodAll_cons r0
  obtain ⟨v2, vs2, d2, ds2, p2, q2, rfl, rfl, rfl, h2, r2⟩ := trodAll_cons r1
  obtain ⟨v3, vs3, d3, ds3, p3, q3, rfl, rfl, rfl, h3, r3⟩ := trodAll_cons r2
  obtain ⟨rfl, rfl, rfl⟩ := trodAll_nil r3
  obtain rfl : args = #[v0, v1, v2, v3] := by cases args; simp_all
  obtain ⟨rfl, rfl⟩ := trodVars_none hV
  obtain ⟨u0, s0, rfl, rw0, ws0, b0⟩ := open_sch (hval 0 39 v0 rfl rfl) h0 (sized_at hsz (j := 0) rfl rfl)
  obtain ⟨l1, rw1, b1⟩ := open_vrow (hval 1 40 v1 rfl rfl) h1 (sized_at hsz (j := 1) rfl rfl)
  obtain ⟨a2, rfl, rfl, rfl, w2⟩ := open_int Tryd.underlying3 (hval 2 3 v2 rfl rfl) h2
  obtain ⟨c3, rfl, b3⟩ := open_colm (hval 3 44 v3 rfl rfl) h3 (sized_at hsz (j := 3) rfl rfl)
  clear hA0 hval0 hsz0
  refine (walk u0 s0 v1 l1 a2 c3 W hT rw0 ws0 b0 rw1 b1 (wf_i64 w2) b3).mono fun e W' ⟨he, bel⟩ => ?_
  subst he
  exact ⟨_, rfl, _, _, _, [], _, [], hW', trodAll_mk1 (shut_bool Tryd.underlying4 _), (trodAll_cons_mk (shut_sch h0 bel) (trodAll_cons_mk (shut_vrow h1 bel) (trodAll_cons_mk (shut_int Tryd.underlying3 w2) (trodAll_cons_mk (shut_colm h3 bel) trodAll_mk0)))), rfl, Below.frame bel _, fun h => by cases h⟩

theorem over : Rows.fitsLooseRow.holds Tryd.pinned (OpenSpec.ofChange Rows.fitsLooseSpec) :=
  OpenClaim.holds_of_wide 7 Tryd.f7 rfl rfl rfl rfl rfl rfl rfl ⟨rfl, rfl, rfl, rfl, rfl⟩ rfl rfl rfl rfl rfl (by kernel_rfl) Tryd.func7 (by kernel_rfl)
    (of_decide_eq_true (by kernel_rfl)) (by unfold Func.isWrapper; first | (rw [if_pos (by decide +kernel)]; kernel_rfl) | (rw [if_neg (by decide +kernel)]; exact ⟨rfl, rfl⟩))
    (fun os started H enc _ => lifted os started H enc)

theorem card : Rows.FitsLooseCardSaid :=
  Claim7.holds_tied_plain_at .later [] [.data, .data, .data, .data] true (true, "8d2211ed6a6007b92743360380d9896df7fc12362be6d37a3ec93f2599f819d1") false
    over (fun _ h => by cases h) (by kernel_rfl) (fun _ h => by cases h) fitsLoose_row_tie rfl ⟨rfl, rfl⟩ (by kernel_rfl) rfl
    (fun f fn hf hfn => by
      obtain rfl : f = 7 := Option.some.inj ((show Tryd.prog.funcNamed "starling/starlinglaw.FitsLoose" = some 7 by kernel_rfl).symm.trans hf) |>.symm
      obtain rfl : fn = Tryd.f7 := (Option.some.inj (Tryd.func7.symm.trans hfn)).symm
      exact ⟨by kernel_rfl, fun j t ht => by
        rw [Tryd.params7] at ht
        have hm : t ∈ [39, 40, 3, 44] := by simpa using Array.mem_of_getElem? ht
        have hall : ([39, 40, 3, 44].all fun u => !Tryd.prog.wantsStandIn u) = true := by kernel_rfl
        exact (show Tryd.prog.wantsStandIn t = false by simpa using List.all_eq_true.1 hall t hm)⟩)
    (by kernel_rfl)

end Go.Proofs.YtefojbfihnnpdaaDoor.fitsLooseProof
namespace Go.Proofs.YtefojbfihnnpdaaDoor
theorem fitsLoose_holds : Rows.FitsLooseCardSaid := fitsLooseProof.card
#print axioms fitsLoose_holds
end Go.Proofs.YtefojbfihnnpdaaDoor
