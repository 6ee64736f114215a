/-
  What is told of all is told of what is told of the groups: the whole. Plain lists.
-/
import Derived.Test.YtaabandfjdnkjaaGreatDoorBnB
namespace Go.Proofs.YtaabandfjdnkjaaGreatDoor
set_option linter.unusedVariables false
set_option linter.unusedSimpArgs false
set_option maxRecDepth 100000
namespace BG
open VM
theorem dst00 : ∀ (l b : List (List Vl)), (BM.dst b l).length ≤ l.length
  | [], _ => Nat.le_refl _
  | x :: l, b => by
    have := dst00 l (b ++ [x])
    rw [BM.dst]; split
    · simp; omega
    · simpa using this
theorem rsE00 (wd : Nat) : ∀ {ls : List (List Vl)}, (∀ r ∈ ls, r.length ≤ 8 ∧ chkAll r = 0 ∧ r.length = wd) → rsE wd ls = 0
  | [], _ => rfl
  | r :: t, h => by
    have h1 := h r (by simp)
    have e : rE wd r = 0 := by
      unfold rE
      rw [if_neg (by omega), if_neg (by simp [h1.2.2]), h1.2.1]
    unfold rsE
    rw [if_pos e]
    exact rsE00 wd fun x hx => h x (by simp [hx])
theorem chk00 {ls : List (List Vl)} {n : Nat} (h40 : ls.length ≤ 40) (h : ∀ r ∈ ls, r.length ≤ 8 ∧ chkAll r = 0 ∧ r.length = n) : chk ls = 0 := by
  unfold chk
  rw [if_neg (by omega)]
  refine rsE00 _ fun r hr => ⟨(h r hr).1, (h r hr).2.1, ?_⟩
  rw [(h r hr).2.2]
  cases ls with
  | nil => cases hr
  | cons x t => exact ((h x (by simp)).2.2).symm
section
variable {α β : Type} {f : α → Except Nat β}
theorem mp00 : ∀ {l : List α} {m : List β}, mp f l = .ok m → m.length = l.length
  | [], m, h => by cases h; rfl
  | a :: t, m, h => by
    cases ha : f a with
    | error c => rw [mp_err ha] at h; cases h
    | ok x =>
      rw [mp_ok ha] at h
      cases ht : mp f t with
      | error c => rw [ht] at h; cases h
      | ok k =>
        rw [ht] at h
        cases h
        have := mp00 ht
        simp [this]
theorem mpne00 (hf : ∀ r c, f r = .error c → c ≠ 0) : ∀ {ls : List α} {c : Nat}, mp f ls = .error c → c ≠ 0
  | [], c, h => by cases h
  | r :: t, c, h => by
    cases hr : f r with
    | error c' => rw [mp_err hr] at h; cases h; exact hf r _ hr
    | ok x =>
      rw [mp_ok hr] at h
      cases ht : mp f t with
      | error c' => rw [ht] at h; cases h; exact mpne00 hf ht
      | ok k => rw [ht] at h; cases h
end
theorem vls_in {ls : List (List Vl)} {C : Nat} {x : Vl} (h : x ∈ vls ls C) : x.k ≠ 0 ∧ ∃ r ∈ ls, x ∈ r ∧ r.getD C nulV = x := by
  unfold vls at h
  rw [List.mem_filter, List.mem_map] at h
  obtain ⟨⟨r, hr, rfl⟩, hk⟩ := h
  have hk' : (r.getD C nulV).k ≠ 0 := by simpa using hk
  refine ⟨hk', r, hr, ?_, rfl⟩
  by_cases hc : C < r.length
  · rw [List.getD_eq_getElem?_getD, List.getElem?_eq_getElem hc]; exact List.getElem_mem _
  · exfalso; apply hk'; rw [List.getD_eq_getElem?_getD, List.getElem?_eq_none (by omega)]; rfl
theorem vls_mk {ls : List (List Vl)} {C : Nat} {r : List Vl} (hr : r ∈ ls) (hk : (r.getD C nulV).k ≠ 0) : r.getD C nulV ∈ vls ls C :=
  List.mem_filter.2 ⟨List.mem_map.2 ⟨r, hr, rfl⟩, by simpa using hk⟩
theorem mem_ofK {cs : List Int} {ls : List (List Vl)} {k r : List Vl} : r ∈ ofK cs ls k ↔ r ∈ ls ∧ pck r cs = k := by unfold ofK; rw [List.mem_filter]; simp
/-- the values of all rows are those of the groups -/
theorem vls_parts (cs : List Int) (ls : List (List Vl)) (C : Nat) (v : Vl) : v ∈ vls ls C ↔ ∃ k ∈ BM.dist (ls.map fun r => pck r cs), v ∈ vls (ofK cs ls k) C := by
  constructor
  · intro h
    obtain ⟨hk, r, hr, _, rfl⟩ := vls_in h
    exact ⟨pck r cs, (BM.mem_dist _).2 (List.mem_map.2 ⟨r, hr, rfl⟩), vls_mk (mem_ofK.2 ⟨hr, rfl⟩) hk⟩
  · rintro ⟨k, _, h⟩
    obtain ⟨hk, r, hr, _, rfl⟩ := vls_in h
    exact vls_mk (mem_ofK.1 hr).1 hk
def wt (f : Vl → Int) (C : Nat) (r : List Vl) : Int := if (r.getD C nulV).k ≠ 0 then f (r.getD C nulV) else 0
theorem vls_sum (f : Vl → Int) (C : Nat) : ∀ ls : List (List Vl), ((vls ls C).map f).sum = (ls.map (wt f C)).sum
  | [] => rfl
  | r :: t => by
    have ih := vls_sum f C t
    unfold vls at ih ⊢
    rw [List.map_cons, List.filter_cons, List.map_cons, List.sum_cons, ← ih]
    unfold wt
    by_cases h : (r.getD C nulV).k ≠ 0
    · rw [if_pos (by simpa using h), if_pos h, List.map_cons, List.sum_cons]
    · rw [if_neg (by simpa using h), if_neg h, Int.zero_add]
theorem sum_parts (f : Vl → Int) (C : Nat) (cs : List Int) (ls : List (List Vl)) : ((BM.dist (ls.map fun r => pck r cs)).map fun k => ((vls (ofK cs ls k) C).map f).sum).sum = ((vls ls C).map f).sum := by
  have h := BM.parts_fold (α := List Vl) (β := Int) (· + ·) 0 Int.add_assoc Int.add_comm Int.zero_add (fun r => pck r cs) (wt f C) ls _ (BM.dist_nodup (ls.map fun r => pck r cs)) (fun x hx => (BM.mem_dist _).2 (List.mem_map.2 ⟨x, hx, rfl⟩))
  rw [vls_sum]
  have e : (fun k => ((vls (ofK cs ls k) C).map f).sum) = fun k => ((BM.part (fun r => pck r cs) ls k).map (wt f C)).sum := funext fun k => vls_sum f C _
  rw [e]
  exact h
theorem sum_one (l : List Vl) : (l.map fun _ => (1 : Int)).sum = (l.length : Int) := by
  induction l with
  | nil => rfl
  | cons a t ih => rw [List.map_cons, List.sum_cons, ih, List.length_cons]; omega
theorem len_parts (C : Nat) (cs : List Int) (ls : List (List Vl)) : ((BM.dist (ls.map fun r => pck r cs)).map fun k => ((vls (ofK cs ls k) C).length : Int)).sum = ((vls ls C).length : Int) := by
  have h := sum_parts (fun _ => 1) C cs ls
  simpa only [sum_one] using h
/-- those that have something -/
def nz (Ws : List (List Vl)) : List (List Vl) := Ws.filter fun W => !W.isEmpty
theorem mem_nz {Ws : List (List Vl)} {W : List Vl} : W ∈ nz Ws ↔ W ∈ Ws ∧ W ≠ [] := by
  unfold nz
  rw [List.mem_filter]
  cases W <;> simp
theorem flt4 {F : List Vl → Vl} (h0 : F [] = nulV) : ∀ {Ws : List (List Vl)}, (∀ W ∈ Ws, W ≠ [] → (F W).k ≠ 0) → (Ws.map F).filter (fun x => decide (x.k ≠ 0)) = (nz Ws).map F
  | [], _ => rfl
  | W :: t, h => by
    have ih := flt4 h0 (Ws := t) fun W hW => h W (by simp [hW])
    unfold nz at ih ⊢
    rw [List.map_cons, List.filter_cons, List.filter_cons, ih]
    cases W with
    | nil => rw [h0]; simp [nulV]
    | cons a l =>
      rw [if_pos (by simpa using h (a :: l) (by simp) (by simp)), if_pos (by simp)]
      rfl
theorem nz_sum : ∀ Ws : List (List Vl), (((nz Ws).map sm4).map (·.n)).sum = (Ws.map fun W => (W.map (·.n)).sum).sum
  | [] => rfl
  | W :: t => by
    have ih := nz_sum t
    unfold nz at ih ⊢
    rw [List.filter_cons, List.map_cons, List.sum_cons, ← ih]
    cases W with
    | nil => simp
    | cons a l =>
      rw [if_pos (by simp), List.map_cons, List.map_cons, List.sum_cons]
      rfl
def cn4 (V : List Vl) : Vl := ⟨1, (V.length : Int), ⟨#[]⟩⟩
def four (V : List Vl) : List Vl := [cn4 V, sm4 V, fr4 (-1) V, fr4 1 V]
theorem gpO_four {ls m : List (List Vl)} {cs : List Int} {c : Int} (hc : 0 ≤ c) (h : gpO ls cs (A4 c) = .ok m) :
    chk ls = 0 ∧ gE ls cs (A4 c) = 0 ∧ m = (grs cs ls).map (fun g => g.1 ++ four (vls g.2 c.toNat)) ∧ ∀ g ∈ grs cs ls, okS (vls g.2 c.toNat) := by
  unfold gpO at h
  split at h
  · cases h
  rename_i h1
  split at h
  · cases h
  rename_i h2
  obtain ⟨e, ha⟩ := mp_inv h
  have hk : ∀ g ∈ grs cs ls, vl (telR (A4 c) g) = g.1 ++ four (vls g.2 c.toNat) ∧ okS (vls g.2 c.toNat) := by
    intro g hg
    have h3 := ha g hg
    unfold telR at h3 ⊢
    cases hx : mp (tel g.2) (A4 c) with
    | error z => rw [hx] at h3; cases h3
    | ok r =>
      obtain ⟨h4, h5⟩ := tel4 hc hx
      subst h4
      exact ⟨rfl, h5⟩
  refine ⟨by omega, by omega, ?_, fun g hg => (hk g hg).2⟩
  rw [e]
  exact List.map_congr_left fun g hg => (hk g hg).1
theorem ok_num (n : Int) : VM.chk ⟨1, n, ⟨#[]⟩⟩ = 0 := by
  unfold VM.chk
  rw [if_neg (by simp only; omega), if_neg (by simp [ByteArray.size]), if_neg (by simp [ByteArray.size])]
theorem ok_nul : VM.chk nulV = 0 := by decide
theorem fr4_in {s : Int} (hs : s = -1 ∨ s = 1) {V : List Vl} (hV : ∀ v ∈ V, VM.chk v = 0) (h0 : V ≠ []) : fr4 s V ∈ V := by
  unfold fr4
  rw [if_neg h0]
  exact (far_hd hs h0 hV).1
theorem fr4_of {s : Int} (hs : s = -1 ∨ s = 1) {V : List Vl} {Ws : List (List Vl)} (hV : ∀ v ∈ V, VM.chk v = 0 ∧ v.k ≠ 0) (hm : ∀ v, v ∈ V ↔ ∃ W ∈ Ws, v ∈ W) :
    ((Ws.map (fr4 s)).filter fun x => decide (x.k ≠ 0)) = (nz Ws).map (fr4 s) ∧ (V = [] ↔ nz Ws = []) ∧ (V ≠ [] → far s (((nz Ws).map (fr4 s)).headD nulV) ((nz Ws).map (fr4 s)) = fr4 s V) := by
  have hk : ∀ W ∈ Ws, W ≠ [] → (fr4 s W).k ≠ 0 := fun W hW h0 => (hV _ ((hm _).2 ⟨W, hW, fr4_in hs (fun v hv => (hV v ((hm v).2 ⟨W, hW, hv⟩)).1) h0⟩)).2
  have hm2 : ∀ v, v ∈ V ↔ ∃ W ∈ nz Ws, v ∈ W := by
    intro v
    rw [hm]
    constructor
    · rintro ⟨W, h1, h2⟩
      exact ⟨W, mem_nz.2 ⟨h1, fun e => by rw [e] at h2; cases h2⟩, h2⟩
    · rintro ⟨W, h1, h2⟩
      exact ⟨W, (mem_nz.1 h1).1, h2⟩
  refine ⟨flt4 (by simp [fr4]) hk, ⟨fun e => ?_, fun e => ?_⟩, fun h0 => ?_⟩
  · cases hn : nz Ws with
    | nil => rfl
    | cons W t =>
      have h1 := mem_nz.1 (show W ∈ nz Ws by rw [hn]; simp)
      obtain ⟨v, hv⟩ := List.exists_mem_of_ne_nil W h1.2
      have := (hm v).2 ⟨W, h1.1, hv⟩
      rw [e] at this
      cases this
  · cases V with
    | nil => rfl
    | cons v t =>
      obtain ⟨W, h1, _⟩ := (hm2 v).1 (by simp)
      rw [e] at h1
      cases h1
  · have e : (nz Ws).map (fr4 s) = (nz Ws).map fun W => far s (W.headD nulV) W := List.map_congr_left fun W hW => by unfold fr4; rw [if_neg (mem_nz.1 hW).2]
    rw [e]
    unfold fr4
    rw [if_neg h0]
    exact far_far hs (fun v hv => (hV v hv).1) (fun W hW => (mem_nz.1 hW).2) hm2 h0
theorem whole4 {ls m g : List (List Vl)} {c b : Int} (h0 : ls ≠ []) (hc : 0 ≤ c) (hw : ∀ r ∈ ls, ∀ x ∈ r, LM.wide x) (hm : gpO ls [] (A4 c) = .ok m) (hg : gpO ls [b] (A4 c) = .ok g) :
    gpO g [] B4 = .ok m ∧ g.length ≤ 40 ∧ (∀ r ∈ g, r.length = 5) ∧ ∀ r ∈ g, ∀ x ∈ r, LM.wide x := by
  obtain ⟨hk, _, em, om⟩ := gpO_four hc hm
  obtain ⟨_, _, eg, og⟩ := gpO_four hc hg
  obtain ⟨h40, hall⟩ := chk_all hk
  generalize c.toNat = C at *
  have g1 : grs [] ls = [([], ls)] := by unfold grs; rw [if_pos rfl]
  have g2 : grs [b] ls = allG [b] ls := by unfold grs; rw [if_neg (by simp), grp_all]
  rw [g1] at em om
  rw [g2] at eg og
  have oV := om ([], ls) (by simp)
  simp only at oV
  obtain ⟨ks, hks⟩ : ∃ ks, BM.dist (ls.map fun r => pck r [b]) = ks := ⟨_, rfl⟩
  have eA : allG [b] ls = ks.map fun k => (k, ofK [b] ls k) := by unfold allG; rw [hks]
  rw [eA] at eg og
  rw [List.map_map] at eg
  have hkey : ∀ k ∈ ks, ∃ x, k = [x] ∧ VM.chk x = 0 ∧ LM.wide x := by
    intro k hk
    rw [← hks] at hk
    obtain ⟨r, hr, rfl⟩ := List.mem_map.1 ((BM.mem_dist _).1 hk)
    refine ⟨r.getD b.toNat nulV, rfl, ?_⟩
    by_cases hb : b.toNat < r.length
    · have : r.getD b.toNat nulV ∈ r := by rw [List.getD_eq_getElem?_getD, List.getElem?_eq_getElem hb]; exact List.getElem_mem _
      exact ⟨WM.chkAll_ok (hall r hr).2.1 _ this, hw r hr _ this⟩
    · have : r.getD b.toNat nulV = nulV := by rw [List.getD_eq_getElem?_getD, List.getElem?_eq_none (by omega)]; rfl
      rw [this]
      exact ⟨ok_nul, by unfold LM.wide nulV; simp⟩
  have hVk : ∀ v ∈ vls ls C, VM.chk v = 0 ∧ v.k ≠ 0 := by
    intro v hv
    obtain ⟨h1, r, hr, h2, _⟩ := vls_in hv
    exact ⟨WM.chkAll_ok (hall r hr).2.1 _ h2, h1⟩
  have hVw : ∀ v ∈ vls ls C, LM.wide v := by
    intro v hv
    obtain ⟨_, r, hr, h2, _⟩ := vls_in hv
    exact hw r hr _ h2
  have hpt := vls_parts [b] ls C
  have hle := len_parts C [b] ls
  have hsu := sum_parts (·.n) C [b] ls
  rw [hks] at hpt hle hsu
  have hlk : ks.length ≤ 40 := by
    rw [← hks]
    have := dst00 (ls.map fun r => pck r [b]) []
    rw [List.length_map] at this
    exact Nat.le_trans this h40
  have hk0 : ks ≠ [] := by
    cases ls with
    | nil => exact absurd rfl h0
    | cons r t =>
      intro e
      have := (BM.mem_dist ((r :: t).map fun r => pck r [b]) (y := pck r [b])).2 (by simp)
      rw [hks, e] at this
      cases this
  obtain ⟨Ws, hWs⟩ : ∃ Ws, (ks.map fun k => vls (ofK [b] ls k) C) = Ws := ⟨_, rfl⟩
  have hm2 : ∀ v, v ∈ vls ls C ↔ ∃ W ∈ Ws, v ∈ W := by
    intro v
    rw [hpt, ← hWs]
    constructor
    · rintro ⟨k, h1, h2⟩
      exact ⟨_, List.mem_map.2 ⟨k, h1, rfl⟩, h2⟩
    · rintro ⟨W, h1, h2⟩
      obtain ⟨k, h3, rfl⟩ := List.mem_map.1 h1
      exact ⟨k, h3, h2⟩
  have hoW : ∀ W ∈ Ws, okS W := by
    intro W hW
    rw [← hWs] at hW
    obtain ⟨k, h3, rfl⟩ := List.mem_map.1 hW
    exact og _ (List.mem_map.2 ⟨k, h3, rfl⟩)
  have hlW : Ws.length = ks.length := by rw [← hWs, List.length_map]
  have hcol : ∀ (i : Nat) (F : List Vl → Vl), (∀ V : List Vl, (four V).getD i nulV = F V) → (g.map fun r => r.getD (i + 1) nulV) = Ws.map F := by
    intro i F hF
    rw [eg, ← hWs, List.map_map, List.map_map]
    refine List.map_congr_left fun k hk => ?_
    obtain ⟨x, rfl, _⟩ := hkey k hk
    exact hF _
  have hrow : ∀ r ∈ g, r.length = 5 ∧ ∀ x ∈ r, VM.chk x = 0 ∧ LM.wide x := by
    intro r hr
    rw [eg] at hr
    obtain ⟨k, h3, rfl⟩ := List.mem_map.1 hr
    obtain ⟨x, rfl, hx⟩ := hkey k h3
    refine ⟨rfl, fun y hy => ?_⟩
    have hW : vls (ofK [b] ls [x]) C ∈ Ws := by
      rw [← hWs]
      exact List.mem_map.2 ⟨[x], h3, rfl⟩
    have hS := hoW _ hW
    have hWv : ∀ v ∈ vls (ofK [b] ls [x]) C, v ∈ vls ls C := fun v hv => (hm2 v).2 ⟨_, hW, hv⟩
    have hWl : (vls (ofK [b] ls [x]) C).length ≤ 40 := by
      unfold vls ofK
      refine Nat.le_trans (List.length_filter_le _ _) ?_
      rw [List.length_map]
      exact Nat.le_trans (List.length_filter_le _ _) h40
    have hF : ∀ s : Int, (s = -1 ∨ s = 1) → VM.chk (fr4 s (vls (ofK [b] ls [x]) C)) = 0 ∧ LM.wide (fr4 s (vls (ofK [b] ls [x]) C)) := by
      intro s hs
      by_cases he : vls (ofK [b] ls [x]) C = []
      · unfold fr4
        rw [if_pos he]
        exact ⟨ok_nul, by unfold LM.wide nulV; simp⟩
      · have := hWv _ (fr4_in hs (fun v hv => (hVk v (hWv v hv)).1) he)
        exact ⟨(hVk _ this).1, hVw _ this⟩
    simp only [Function.comp, four, List.cons_append, List.nil_append, List.mem_cons, List.not_mem_nil, or_false] at hy
    rcases hy with rfl | rfl | rfl | rfl | rfl
    · exact hx
    · exact ⟨ok_num _, by unfold LM.wide cn4; simp only; omega⟩
    · unfold sm4
      split
      · exact ⟨ok_nul, by unfold LM.wide nulV; simp⟩
      · rename_i he
        refine ⟨ok_num _, ?_⟩
        rcases hS with hS | ⟨_, _, hS⟩
        · exact absurd hS he
        · unfold WH.err at hS
          unfold LM.wide
          split at hS
          · assumption
          · cases hS
    · exact hF _ (.inl rfl)
    · exact hF _ (.inr rfl)
  have hgl : g.length = ks.length := by rw [eg, List.length_map]
  have hck : chk g = 0 := chk00 (n := 5) (by omega) fun r hr => ⟨by rw [(hrow r hr).1]; decide, chkAll_of fun x hx => ((hrow r hr).2 x hx).1, (hrow r hr).1⟩
  have hwd : wd g = 5 := by
    cases g with
    | nil => simp at hgl; exact absurd (List.length_eq_zero_iff.1 hgl.symm) hk0
    | cons r t => exact (hrow r (by simp)).1
  have hge : gE g [] B4 = 0 := by
    unfold gE
    rw [if_neg (by decide), if_neg (by decide), if_neg (by simp), if_neg]
    unfold B4 colOk hasC
    rw [hwd]
    simp
  have t1 : tel g ⟨2, 1⟩ = .ok (cn4 (vls ls C)) := by
    have e1 : vls g 1 = Ws.map cn4 := by
      unfold vls
      rw [hcol 0 cn4 (fun V => rfl), List.filter_eq_self.2]
      intro x hx
      obtain ⟨W, _, rfl⟩ := List.mem_map.1 hx
      rfl
    have e2 : ((Ws.map cn4).map (·.n)).sum = ((vls ls C).length : Int) := by
      rw [← hle, ← hWs, List.map_map, List.map_map]
      rfl
    have e3 : (vls ls C).length ≤ 40 := by
      unfold vls
      refine Nat.le_trans (List.length_filter_le _ _) ?_
      rw [List.length_map]
      exact h40
    unfold tel
    simp only
    rw [show ((1 : Int).toNat) = 1 from rfl, e1, if_neg (by omega), if_neg (by omega), if_neg (by rw [List.map_eq_nil_iff]; intro e; rw [e] at hlW; simp at hlW; exact hk0 (List.length_eq_zero_iff.1 hlW.symm)), if_pos trivial]
    unfold smO
    rw [if_neg, if_neg (by rw [List.length_map]; omega), e2, if_neg, ← e2]
    · rw [e2]; rfl
    · rw [WH.err_ok (by unfold WH.Ok; omega)]; simp
    · simp [cn4]
  have t2 : tel g ⟨2, 2⟩ = .ok (sm4 (vls ls C)) := by
    have e1 : vls g 2 = (nz Ws).map sm4 := by
      unfold vls
      rw [hcol 1 sm4 (fun V => rfl)]
      refine flt4 (by simp [sm4]) fun W _ hW => ?_
      unfold sm4
      rw [if_neg hW]
      simp
    have e2 : (((nz Ws).map sm4).map (·.n)).sum = ((vls ls C).map (·.n)).sum := by
      rw [nz_sum, ← hsu, ← hWs, List.map_map]
      rfl
    obtain ⟨_, q2, _⟩ := fr4_of (.inl rfl) hVk hm2 (s := -1)
    unfold tel
    simp only
    rw [show ((2 : Int).toNat) = 2 from rfl, e1, if_neg (by omega), if_neg (by omega)]
    by_cases hv : vls ls C = []
    · rw [if_pos (by rw [q2.1 hv]; rfl)]
      unfold sm4
      rw [if_pos hv]
    · rw [if_neg (by rw [List.map_eq_nil_iff]; exact fun e => hv (q2.2 e)), if_pos trivial]
      rcases oV with oV | ⟨_, _, oV⟩
      · exact absurd oV hv
      unfold smO
      rw [if_neg, if_neg, e2, if_neg (by omega)]
      · unfold sm4
        rw [if_neg hv]
      · rw [List.length_map]
        have := List.length_filter_le (fun W : List Vl => !W.isEmpty) Ws
        unfold nz
        omega
      · intro e
        rw [List.all_eq_false] at e
        obtain ⟨x, hx, h⟩ := e
        obtain ⟨W, hW, rfl⟩ := List.mem_map.1 hx
        apply h
        unfold sm4
        rw [if_neg (mem_nz.1 hW).2]
        rfl
  have t3 : tel g ⟨3, 3⟩ = .ok (fr4 (-1) (vls ls C)) := by
    obtain ⟨q1, q2, q3⟩ := fr4_of (.inl rfl) hVk hm2 (s := -1)
    have e1 : vls g 3 = (nz Ws).map (fr4 (-1)) := by
      unfold vls
      rw [hcol 2 (fr4 (-1)) (fun V => rfl)]
      exact q1
    unfold tel
    simp only
    rw [show ((3 : Int).toNat) = 3 from rfl, e1, if_neg (by omega), if_neg (by omega)]
    by_cases hv : vls ls C = []
    · rw [if_pos (by rw [q2.1 hv]; rfl)]
      unfold fr4
      rw [if_pos hv]
    · rw [if_neg (by rw [List.map_eq_nil_iff]; exact fun e => hv (q2.2 e)), if_neg (by decide), if_pos trivial, q3 hv]
  have t4 : tel g ⟨4, 4⟩ = .ok (fr4 1 (vls ls C)) := by
    obtain ⟨q1, q2, q3⟩ := fr4_of (.inr rfl) hVk hm2 (s := 1)
    have e1 : vls g 4 = (nz Ws).map (fr4 1) := by
      unfold vls
      rw [hcol 3 (fr4 1) (fun V => rfl)]
      exact q1
    unfold tel
    simp only
    rw [show ((4 : Int).toNat) = 4 from rfl, e1, if_neg (by omega), if_neg (by omega)]
    by_cases hv : vls ls C = []
    · rw [if_pos (by rw [q2.1 hv]; rfl)]
      unfold fr4
      rw [if_pos hv]
    · rw [if_neg (by rw [List.map_eq_nil_iff]; exact fun e => hv (q2.2 e)), if_neg (by decide), if_neg (by decide), q3 hv]
  refine ⟨?_, by omega, fun r hr => (hrow r hr).1, fun r hr x hx => ((hrow r hr).2 x hx).2⟩
  unfold gpO
  rw [if_neg (by omega), if_neg (by omega)]
  have g3 : grs [] g = [([], g)] := by unfold grs; rw [if_pos rfl]
  have e4 : telR B4 ([], g) = .ok (four (vls ls C)) := by
    unfold telR B4
    simp only
    rw [mp_ok t1, mp_ok t2, mp_ok t3, mp_ok t4]
    rfl
  rw [g3, mp_ok e4, em]
  rfl
theorem whole_m {ls m : List (List Vl)} {c : Int} (hm : gpO ls [] (A4 c) = .ok m) : m.length ≤ 40 ∧ ∀ r ∈ m, r.length ≤ 9223372036854775806 := by
  unfold gpO at hm
  split at hm
  · cases hm
  split at hm
  · cases hm
  have g1 : grs [] ls = [([], ls)] := by unfold grs; rw [if_pos rfl]
  rw [g1] at hm
  cases hx : mp (tel ls) (A4 c) with
  | error z =>
    have e : telR (A4 c) ([], ls) = .error z := by unfold telR; rw [hx]; rfl
    rw [mp_err e] at hm
    cases hm
  | ok r =>
    have e : telR (A4 c) ([], ls) = .ok r := by unfold telR; rw [hx]; rfl
    rw [mp_ok e] at hm
    cases hm
    have := mp00 hx
    refine ⟨by simp, fun x hx => ?_⟩
    simp only [List.mem_append, List.mem_singleton, List.not_mem_nil, or_false, List.append_nil] at hx
    rw [hx, this]
    simp [A4]
/-- an error is one -/
theorem gpO_ne {ls : List (List Vl)} {cs : List Int} {gs : List Ag} {c : Nat} (h : gpO ls cs gs = .error c) : c ≠ 0 := by
  unfold gpO at h
  split at h
  · cases h; assumption
  split at h
  · cases h; assumption
  refine mpne00 (fun g c hg => ?_) h
  unfold telR at hg
  cases hx : mp (tel g.2) gs with
  | error z =>
    rw [hx] at hg
    cases hg
    exact mpne00 (fun g c h => tel_ne h) hx
  | ok r => rw [hx] at hg; cases hg
end BG
end Go.Proofs.YtaabandfjdnkjaaGreatDoor
