/-
  What walk.Up with depthOf answers.
-/
import Derived.Test.YtbcfdhimngoplaaGreatDoorExD
namespace Go.Proofs.YtbcfdhimngoplaaGreatDoor
open Go.ChangeShapes Go.WideShapes Go.ChangeAt Go.RowKit
set_option linter.unusedVariables false
set_option linter.unusedSimpArgs false
set_option maxRecDepth 100000
set_option maxHeartbeats 4000000
theorem own_take {B n m sz c : Nat} {T : TypeId} {a : Option Addr} {xs : List Value} {w : World} (h : w.ownsRow B T sz (.slice a n c) n xs) (hm : m ≤ n) (hs : 0 < sz) : w.ownsRow B T sz (.slice a m c) m (xs.take (m * sz)) := by
 refine ⟨?_, ?_⟩
 ·
  have := h.1
  rw [List.length_take, this]
  exact Nat.min_eq_left (Nat.mul_le_mul_right _ hm)
 ·
  rcases h.2 with ⟨e, h0⟩ | ⟨g, cap, cur, e, h2, h3, h4, h5, h6, h7⟩
  ·
   left
   cases e
   obtain rfl : m = 0 := by omega
   exact ⟨rfl, rfl⟩
  ·
   right
   cases e
   refine ⟨g, c, cur, rfl, h2, h3, by omega, h5, h6, ?_⟩
   rw [← h7, List.take_take, Nat.min_eq_left (Nat.mul_le_mul_right _ hm)]
theorem isL_drop {α : Type} {E : Cd α} {W : World} {B n m c : Nat} {T : TypeId} {a A : Option Addr} {l : List α} (h : W.ownsRow B T E.k (.slice a n c) n (flat E l)) (hn : n = l.length) (hm : m ≤ n) (hA : n - m = 0 ∨ ∃ g, a = some ⟨g, 0, none⟩ ∧ A = some ⟨g, m * E.k, none⟩) : IsL E W (.slice A (n - m) (c - m)) (l.drop m) := by
 subst hn
 have hc : l.length ≤ c := by
  rcases h.2 with ⟨e, h0⟩ | ⟨g, cap, cur, e, h2, h3, h4, _⟩
  · omega
  · cases e; exact h4
 refine ⟨A, c - m, by rw [List.length_drop], by rw [List.length_drop]; omega, ?_⟩
 rcases hA with h0 | ⟨g, rfl, rfl⟩
 ·
  left
  rw [List.drop_eq_nil_iff]
  omega
 ·
  right
  obtain ⟨a', c', e', _, h1⟩ := isL_own h
  cases e'
  rcases h1 with h1 | ⟨b, o, e, hb, hat⟩
  ·
   subst h1
   simp at hm
   subst hm
   refine ⟨g, 0 * E.k, rfl, ?_, fun j u hj => by simp [flat] at hj⟩
   rcases h.2 with ⟨e, h0⟩ | ⟨g', cap, cur, e, h2, h3, _⟩
   · cases e
   · cases e; exact (Array.getElem?_eq_some_iff.1 h3).1
  ·
   cases e
   refine ⟨g, m * E.k, rfl, hb, fun j u hj => ?_⟩
   have h2 : (flat E l)[m * E.k + j]? = some u := by
    have e : flat E l = flat E (l.take m) ++ flat E (l.drop m) := by rw [← flat_app, List.take_append_drop]
    rw [e, List.getElem?_append_right (by rw [flat_len, List.length_take, Nat.min_eq_left hm]; omega), flat_len, List.length_take, Nat.min_eq_left hm]
    rw [show m * E.k + j - m * E.k = j by omega]
    exact hj
   have := hat (m * E.k + j) u h2
   rwa [Nat.zero_add] at this
theorem s6_after {w w' : World} {a b c d e f : Addr} {p q r s t u : Value} (h9 : Fr w w') (h : w.cell? a = some p ∧ w.cell? b = some q ∧ w.cell? c = some r ∧ w.cell? d = some s ∧ w.cell? e = some t ∧ w.cell? f = some u) : w'.cell? a = some p ∧ w'.cell? b = some q ∧ w'.cell? c = some r ∧ w'.cell? d = some s ∧ w'.cell? e = some t ∧ w'.cell? f = some u :=
 ⟨(Below.cell h9 (World.block_lt_of_cell? _ _ h.1)).trans h.1, (Below.cell h9 (World.block_lt_of_cell? _ _ h.2.1)).trans h.2.1, (Below.cell h9 (World.block_lt_of_cell? _ _ h.2.2.1)).trans h.2.2.1, (Below.cell h9 (World.block_lt_of_cell? _ _ h.2.2.2.1)).trans h.2.2.2.1, (Below.cell h9 (World.block_lt_of_cell? _ _ h.2.2.2.2.1)).trans h.2.2.2.2.1, (Below.cell h9 (World.block_lt_of_cell? _ _ h.2.2.2.2.2)).trans h.2.2.2.2.2⟩
def UpAns (B : Nat) (e : List EX.Nd) (r : Ending) (w' : World) : Prop :=
 (∃ out u, EX.up EX.dOf e [] = .ok out ∧ r = .returned (.tuple #[u, .int .i64 0]) ∧ w'.ownsRow B 3 1 u out.length (flat cdI out)) ∨ (∃ c, EX.up EX.dOf e [] = .error c ∧ c ≠ 0 ∧ r = .returned (.tuple #[.slice none 0 0, .int .i64 (c : Int)]))
theorem dOf_ne {n : EX.Nd} {l : List Nat} {c : Nat} (h : EX.dOf n l = .error c) : c ≠ 0 := by
 unfold EX.dOf at h
 by_cases h1 : EX.nchk n = 0
 ·
  rw [if_neg (by simp [h1])] at h
  split at h
  · cases h; decide
  · cases h
 ·
  rw [if_pos h1] at h
  cases h
  exact h1
theorem dOf_le {n : EX.Nd} {l : List Nat} {x b : Nat} (h : EX.dOf n l = .ok x) (hb : ∀ y ∈ l, y ≤ b) : x ≤ b + 1 := by
 unfold EX.dOf at h
 split at h
 · cases h
 ·
  split at h
  · cases h
  ·
   cases h
   have := EX.mx_le hb
   omega
theorem flat_take {α : Type} (E : Cd α) (l : List α) (m : Nat) (hm : m ≤ l.length) : (flat E l).take (m * E.k) = flat E (l.take m) := by
 have e : flat E l = flat E (l.take m) ++ flat E (l.drop m) := by rw [← flat_app, List.take_append_drop]
 rw [e, List.take_append_of_le_length (by rw [flat_len, List.length_take, Nat.min_eq_left hm]; exact Nat.le_refl _), List.take_of_length_le (by rw [flat_len, List.length_take, Nat.min_eq_left hm]; exact Nat.le_refl _)]
theorem upD_any (v : Value) (e : List EX.Nd) (w : World) (h : IsL cdN w v e) (hn : ∀ n ∈ e, n.nm.size ≤ 140737488355327) (hl : e.length ≤ 1000) :
  Calls Tryz.prog 83 #[v, .func (.func 84) #[] #[]] w fun r w' => UpAns w.heap.size e r w' ∧ Fr w w' := by
 obtain ⟨a, cap, rfl, hcap, hcs⟩ := h
 have HC := hideP hcs
 have HN := hideP hn
 clear hcs hn
 obtain ⟨i0, hi0, hz0, hz1, hz2⟩ := info_parts Tryz.infoElem
 go_enter Tryz.func83, Tryz.ntmps83
 go_wp2_with fail
 go_loopw [6, 8, 9, 10, 11, 14] (fun fv _ _ _ _ iv wr => ∃ (i : Nat) (free : List Nat), iv = .int .i64 i ∧ i ≤ e.length ∧ EX.up EX.dOf e [] = EX.up EX.dOf (e.drop i) free ∧ wr.ownsRow w.heap.size 3 1 fv free.length (flat cdI free) ∧ Fr w wr ∧ (∀ x ∈ free, x ≤ i) ∧ free.length ≤ i) (fun _ _ _ _ _ iv _ => e.length - (intOf iv).toNat)
 case atStart => exact ⟨0, [], rfl, Nat.zero_le _, rfl, World.ownsRow_nil _ _ _ _, Fr.refl _, fun x hx => by simp at hx, Nat.le_refl _⟩
 case round =>
  obtain ⟨i, free, rfl, hi, hall, hown, hfr, hbd, hfl⟩ := hrel
  obtain ⟨fa, fc, rfl⟩ := own_slice hown
  have HA := hideP hall
  have HO := hideP hown
  have HF := hideP hfr
  have HBd := hideP hbd
  obtain ⟨L, hL⟩ : ∃ L, free.length = L := ⟨_, rfl⟩
  have HL := hideP hL
  rw [hL] at HO hfl ⊢
  clear hall hown hfr hbd hL
  by_cases hlt : i < e.length
  ·
   have hlt' : (i : Int) < (e.length : Int) := by omega
   obtain ⟨b, o, rfl, hb, hc⟩ : ∃ b o, a = some ⟨b, o, none⟩ ∧ b < w.heap.size ∧ At cdN w b o e := by
    rcases HC.out with h | h
    · rw [h] at hlt; simp at hlt
    · exact h
   obtain ⟨c0, c1, c2, c3, c4, c5⟩ := (hc.fr hb HF.out).nd i hlt
   have hn := HN.out e[i] (List.getElem_mem hlt)
   rw [List.drop_eq_getElem_cons hlt] at HA
   generalize e[i] = n at *
   have hF : ∃ F : Nat, F = L - n.kids.toNat := ⟨_, rfl⟩
   obtain ⟨F, hF⟩ := hF
   have hFL : F ≤ L := by omega
   have hfirst : (L : Int) - min (max n.kids 0) (L : Int) = (F : Int) := by omega
   have kl_ : ∃ kl, free.drop F = kl := ⟨_, rfl⟩
   obtain ⟨kl, hkl⟩ := kl_
   have hbk : ∀ x ∈ kl, x ≤ i := fun x hx => HBd.out x (by rw [← hkl] at hx; exact List.mem_of_mem_drop hx)
   have hll : kl.length ≤ 1000 := by rw [← hkl, List.length_drop, HL.out]; omega
   have HCon := hideP (fun W v (h : IsL cdI W v kl) => depthOf_any n v kl W hn h (by omega) (fun x hx => by have := hbk x hx; omega))
   have HFv := hideP hF
   have hup : EX.up EX.dOf (n :: e.drop (i + 1)) free = match EX.dOf n kl with
     | .error c => .error c
     | .ok x => EX.up EX.dOf (e.drop (i + 1)) (free.take F ++ [x]) := by
    rw [EX.up]
    simp only [HL.out, ← hF, hkl]
    cases EX.dOf n kl <;> rfl
   rw [hup] at HA
   have hokb : ∀ x, EX.dOf n kl = .ok x → (∀ y ∈ free.take F ++ [x], y ≤ i + 1) := fun x hx y hy => by
    rcases List.mem_append.1 hy with h | h
    · have := HBd.out y (List.mem_of_mem_take h); omega
    ·
     obtain rfl : y = x := by simpa using h
     have := dOf_le (b := i) hx hbk; omega
   have herr : ∀ c, EX.dOf n kl = .error c → c ≠ 0 := fun c hc => dOf_ne hc
   have HKl := hideP hkl
   generalize EX.dOf n kl = D at *
   obtain ⟨op, kids, ⟨vk, vn, vs⟩, nm⟩ := n
   simp only [EX.val] at c0 c1 c2 c3 c4 c5 hfirst HCon
   have HB1 := hideP (Blk.new wr #[.int .i64 op, .int .i64 kids, .int .i64 vk, .int .i64 vn, .string vs, .string nm] 61)
   have FW := hideP ((Fr.refl wr).alloc (.cells #[.int .i64 op, .int .i64 kids, .int .i64 vk, .int .i64 vn, .string vs, .string nm] 61))
   clear hc hn hkl hF
   go_upto_region 6 with fail
   generalize wr.alloc (.cells #[.int .i64 op, .int .i64 kids, .int .i64 vk, .int .i64 vn, .string vs, .string nm] 61) = wz at *
   have HS6 := hideP (show wz.cell? ⟨wr.heap.size, 0, none⟩ = some (.int .i64 op) ∧ wz.cell? ⟨wr.heap.size, 1, none⟩ = some (.int .i64 kids) ∧ wz.cell? ⟨wr.heap.size, 2, none⟩ = some (.int .i64 vk) ∧ wz.cell? ⟨wr.heap.size, 3, none⟩ = some (.int .i64 vn) ∧ wz.cell? ⟨wr.heap.size, 4, none⟩ = some (.string vs) ∧ wz.cell? ⟨wr.heap.size, 5, none⟩ = some (.string nm) from ⟨HB1.out.cell 0 rfl, HB1.out.cell 1 rfl, HB1.out.cell 2 rfl, HB1.out.cell 3 rfl, HB1.out.cell 4 rfl, HB1.out.cell 5 rfl⟩)
   have hz := Fr.drew (Fr.refl wz)
   have hFL' : (F : Int) ≤ (L : Int) := by omega
   have hsh : (fa = none ∧ L = 0 ∧ fc = 0) ∨ ∃ g, fa = some ⟨g, 0, none⟩ ∧ L ≤ fc := by
    rcases HO.out.2 with ⟨e1, h0⟩ | ⟨g, cap', cur, e1, h2, h3, h4, _⟩
    · cases e1; exact .inl ⟨rfl, h0, rfl⟩
    · cases e1; exact .inr ⟨g, rfl, h4⟩
   cases D with
   | error c =>
    have HE := hideP (herr c rfl)
    have HZ := hideP HA.out
    have e1 : ((c : Int) != 0) = true := by have := HE.out; simp; omega
    have e2 : ¬ ((c : Int) = 0) := by have := HE.out; omega
    simp only [exI] at HCon
    clear hokb herr HA
    rcases hsh with ⟨rfl, rfl, rfl⟩ | ⟨g, rfl, hLc⟩
    ·
     obtain rfl : F = 0 := by omega
     have HIs := hideP (show IsL cdI wz.drew (.slice none 0 0) kl from by
      rw [← HKl.out, show free = [] from List.length_eq_zero_iff.1 HL.out]
      exact isL_nil _ _)
     go_region_held3 (fun W => W.cell? ⟨wr.heap.size, 0, none⟩ = some (.int .i64 op) ∧ W.cell? ⟨wr.heap.size, 1, none⟩ = some (.int .i64 kids) ∧ W.cell? ⟨wr.heap.size, 2, none⟩ = some (.int .i64 vk) ∧ W.cell? ⟨wr.heap.size, 3, none⟩ = some (.int .i64 vn) ∧ W.cell? ⟨wr.heap.size, 4, none⟩ = some (.string vs) ∧ W.cell? ⟨wr.heap.size, 5, none⟩ = some (.string nm)) (first | exact HS6.out | exact s6_after hz HS6.out | exact s6_after hf9 HS6.out) (first
      | (go_at_call 84; refine (HCon.out _ _ HIs.out).mono ?_; rintro _ w3 ⟨rfl, f3⟩; have hf9 := hz.trans f3; clear f3))
     all_goals (
      go_wp2_with fail
      go_ret2
      exact ⟨.inr ⟨c, HZ.out, HE.out, rfl⟩, HF.out.trans (FW.out.trans hf9)⟩)
    ·
     have hFc : (F : Int) ≤ (fc : Int) := by omega
     have hLc' : (L : Int) ≤ (fc : Int) := by omega
     have HIs := hideP (show IsL cdI wz.drew (.slice (if fc = F then some ⟨g, 0, none⟩ else some ⟨g, F, none⟩) (L - F) (fc - F)) kl from by
      rw [← HKl.out]
      refine isL_drop (own_fr HO.out (FW.out.trans hz)) HL.out.symm hFL ?_
      by_cases h : fc = F
      · left; omega
      · right; exact ⟨g, rfl, by rw [if_neg h]; first | rfl | (show some (⟨g, F, none⟩ : Addr) = some ⟨g, F * 1, none⟩; rw [Nat.mul_one])⟩)
     go_region_held3 (fun W => W.cell? ⟨wr.heap.size, 0, none⟩ = some (.int .i64 op) ∧ W.cell? ⟨wr.heap.size, 1, none⟩ = some (.int .i64 kids) ∧ W.cell? ⟨wr.heap.size, 2, none⟩ = some (.int .i64 vk) ∧ W.cell? ⟨wr.heap.size, 3, none⟩ = some (.int .i64 vn) ∧ W.cell? ⟨wr.heap.size, 4, none⟩ = some (.string vs) ∧ W.cell? ⟨wr.heap.size, 5, none⟩ = some (.string nm)) (first | exact HS6.out | exact s6_after hz HS6.out | exact s6_after hf9 HS6.out) (first
      | (go_at_call 84; refine (HCon.out _ _ HIs.out).mono ?_; generalize (if fc = F then (some ⟨g, 0, none⟩ : Option Addr) else some ⟨g, F, none⟩) = A9; rintro _ w3 ⟨rfl, f3⟩; have hf9 := hz.trans f3; clear f3))
     all_goals (
      go_wp2_with fail
      go_ret2
      exact ⟨.inr ⟨c, HZ.out, HE.out, rfl⟩, HF.out.trans (FW.out.trans hf9)⟩)
   | ok x =>
    have HOk := hideP (hokb x rfl)
    have HZ := hideP HA.out
    simp only [exI] at HCon
    clear hokb herr HA
    have HTk := hideP (show wr.ownsRow w.heap.size 3 1 (.slice fa F fc) F (flat cdI (free.take F)) from by
     have h := own_take (m := F) HO.out hFL (by decide)
     have e := flat_take cdI free F (by rw [HL.out]; exact hFL)
     rw [← e]
     exact h)
    rcases hsh with ⟨rfl, rfl, rfl⟩ | ⟨g, rfl, hLc⟩
    ·
     obtain rfl : F = 0 := by omega
     have HIs := hideP (show IsL cdI wz.drew (.slice none 0 0) kl from by
      rw [← HKl.out, show free = [] from List.length_eq_zero_iff.1 HL.out]
      exact isL_nil _ _)
     go_region_held3 (fun W => W.cell? ⟨wr.heap.size, 0, none⟩ = some (.int .i64 op) ∧ W.cell? ⟨wr.heap.size, 1, none⟩ = some (.int .i64 kids) ∧ W.cell? ⟨wr.heap.size, 2, none⟩ = some (.int .i64 vk) ∧ W.cell? ⟨wr.heap.size, 3, none⟩ = some (.int .i64 vn) ∧ W.cell? ⟨wr.heap.size, 4, none⟩ = some (.string vs) ∧ W.cell? ⟨wr.heap.size, 5, none⟩ = some (.string nm)) (first | exact HS6.out | exact s6_after hz HS6.out | exact s6_after hf9 HS6.out) (first
      | (go_at_call 84; refine (HCon.out _ _ HIs.out).mono ?_; rintro _ w3 ⟨rfl, f3⟩; have hf9 := hz.trans f3; clear f3))
     all_goals (
      have hfw := HF.out.trans (FW.out.trans hf9)
      have HLit := hideP (lit_one cdI w3 x 3)
      have HO3 := hideP (own_fr (own_fr (w := wr) HTk.out (FW.out.trans hf9)) ((Fr.refl w3).alloc (.cells #[.int .i64 (x : Int)] 3)))
      have HFW := hideP hfw
      have hsz : w.heap.size ≤ w3.heap.size := hfw.size
      clear hfw HS6 hz
      go_wp2_with (at_builtin; refine wpList_append_L cdI rfl _ _ 40 3 i0 _ 8 rfl Tryz.underlying40 hi0 hz0 hz1 hz2 rfl w.heap.size _ 0 _ rfl HO3.out (.slice (some ⟨w3.heap.size, 0, none⟩) 1 1) [x] rfl HLit.out ?c3 ?c4 ?c5 ?_)
      case c3 => unfold maxLen; simp <;> omega
      case c4 => simp <;> omega
      case c5 => simp <;> omega
      intro v2 wB own2 gr2
      have HN2 := hideP (show wB.ownsRow w.heap.size 3 1 v2 (free.take 0 ++ [x]).length (flat cdI (free.take 0 ++ [x])) from by
       have e9 : (free.take 0 ++ [x]).length = 0 + 1 := by rw [List.length_append, List.length_take, HL.out, Nat.zero_min]; rfl
       rw [e9]
       first | exact own2 | simpa using own2)
      have FB := hideP (show Fr w wB from Below.grown (HFW.out.alloc _) gr2 (by simp; omega) (own_base HO3.out))
      clear own2 gr2
      go_wp2_with fail
      go_roundw
      case rel => exact ⟨i + 1, free.take 0 ++ [x], by go_num, by omega, HZ.out, HN2.out, FB.out, HOk.out, by rw [List.length_append, List.length_take, HL.out]; simp <;> omega⟩
      case measure => simp [intOf]; omega
     )
    ·
     have hFc : (F : Int) ≤ (fc : Int) := by omega
     have hLc' : (L : Int) ≤ (fc : Int) := by omega
     have HIs := hideP (show IsL cdI wz.drew (.slice (if fc = F then some ⟨g, 0, none⟩ else some ⟨g, F, none⟩) (L - F) (fc - F)) kl from by
      rw [← HKl.out]
      refine isL_drop (own_fr HO.out (FW.out.trans hz)) HL.out.symm hFL ?_
      by_cases h : fc = F
      · left; omega
      · right; exact ⟨g, rfl, by rw [if_neg h]; first | rfl | (show some (⟨g, F, none⟩ : Addr) = some ⟨g, F * 1, none⟩; rw [Nat.mul_one])⟩)
     go_region_held3 (fun W => W.cell? ⟨wr.heap.size, 0, none⟩ = some (.int .i64 op) ∧ W.cell? ⟨wr.heap.size, 1, none⟩ = some (.int .i64 kids) ∧ W.cell? ⟨wr.heap.size, 2, none⟩ = some (.int .i64 vk) ∧ W.cell? ⟨wr.heap.size, 3, none⟩ = some (.int .i64 vn) ∧ W.cell? ⟨wr.heap.size, 4, none⟩ = some (.string vs) ∧ W.cell? ⟨wr.heap.size, 5, none⟩ = some (.string nm)) (first | exact HS6.out | exact s6_after hz HS6.out | exact s6_after hf9 HS6.out) (first
      | (go_at_call 84; refine (HCon.out _ _ HIs.out).mono ?_; generalize (if fc = F then (some ⟨g, 0, none⟩ : Option Addr) else some ⟨g, F, none⟩) = A9; rintro _ w3 ⟨rfl, f3⟩; have hf9 := hz.trans f3; clear f3))
     all_goals (
      have hfw := HF.out.trans (FW.out.trans hf9)
      have HLit := hideP (lit_one cdI w3 x 3)
      have HO3 := hideP (own_fr (own_fr (w := wr) HTk.out (FW.out.trans hf9)) ((Fr.refl w3).alloc (.cells #[.int .i64 (x : Int)] 3)))
      have HFW := hideP hfw
      have hsz : w.heap.size ≤ w3.heap.size := hfw.size
      clear hfw HS6 hz
      go_wp2_with (at_builtin; refine wpList_append_L cdI rfl _ _ 40 3 i0 _ 8 rfl Tryz.underlying40 hi0 hz0 hz1 hz2 rfl w.heap.size _ F _ rfl HO3.out (.slice (some ⟨w3.heap.size, 0, none⟩) 1 1) [x] rfl HLit.out ?c3 ?c4 ?c5 ?_)
      case c3 => unfold maxLen; simp <;> omega
      case c4 => simp <;> omega
      case c5 => simp <;> omega
      intro v2 wB own2 gr2
      have HN2 := hideP (show wB.ownsRow w.heap.size 3 1 v2 (free.take F ++ [x]).length (flat cdI (free.take F ++ [x])) from by
       have e9 : (free.take F ++ [x]).length = F + 1 := by rw [List.length_append, List.length_take, HL.out, Nat.min_eq_left hFL]; rfl
       rw [e9]
       first | exact own2 | simpa using own2)
      have FB := hideP (show Fr w wB from Below.grown (HFW.out.alloc _) gr2 (by simp; omega) (own_base HO3.out))
      clear own2 gr2
      go_wp2_with fail
      go_roundw
      case rel => exact ⟨i + 1, free.take F ++ [x], by go_num, by omega, HZ.out, HN2.out, FB.out, HOk.out, by rw [List.length_append, List.length_take, HL.out]; simp <;> omega⟩
      case measure => simp [intOf]; omega
     )
  ·
   obtain rfl : i = e.length := by omega
   have hlt' : ((e.length : Int) < (e.length : Int)) = False := by simp
   have HZ : Hid (EX.up EX.dOf e [] = .ok free) := by
    unfold Hid
    rw [HA.out, List.drop_length]
    rfl
   go_wp2_with fail
   go_ret2
   refine ⟨.inl ⟨free, _, HZ.out, rfl, ?_⟩, HF.out⟩
   rw [HL.out]
   exact HO.out
end Go.Proofs.YtbcfdhimngoplaaGreatDoor
