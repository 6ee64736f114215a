/-
  What the document's TextLess, sums, PairsOf, FoundOf and RangeOf answer.
-/
import Derived.Test.YtmemapfboefngaaGtD
import Derived.Test.YtmemapfboefngaaTtA
namespace Go.Proofs.Ytmemapfboefngaa
open Go.ChangeShapes Go.WideShapes Go.ChangeAt Go.RowKit
set_option linter.unusedVariables false
set_option linter.unusedSimpArgs false
set_option maxRecDepth 100000
set_option maxHeartbeats 2000000
theorem cb_step (a b : ByteArray) (i : Nat) (ha : i < a.size) (hb : i < b.size) :
    Lib.compareBytes (a.data.toList.drop i) (b.data.toList.drop i) = if a[i].toNat < b[i].toNat then -1 else if b[i].toNat < a[i].toNat then 1 else Lib.compareBytes (a.data.toList.drop (i + 1)) (b.data.toList.drop (i + 1)) := by
  have ea : a.data.toList.drop i = a[i] :: a.data.toList.drop (i + 1) := by
    rw [List.drop_eq_getElem_cons (by simpa using ha)]
    rfl
  have eb : b.data.toList.drop i = b[i] :: b.data.toList.drop (i + 1) := by
    rw [List.drop_eq_getElem_cons (by simpa using hb)]
    rfl
  rw [ea, eb]
  conv => lhs; unfold Lib.compareBytes
  simp only [UInt8.lt_iff_toNat_lt]
theorem cb_left (a b : ByteArray) (i : Nat) (ha : i ≤ a.size) (hb : i ≤ b.size) (h : i = a.size ∨ i = b.size) :
    (Lib.compareBytes (a.data.toList.drop i) (b.data.toList.drop i) < 0) ↔ a.size < b.size := by
  have la : (a.data.toList.drop i).length = a.size - i := by rw [List.length_drop, Array.length_toList]; rfl
  have lb : (b.data.toList.drop i).length = b.size - i := by rw [List.length_drop, Array.length_toList]; rfl
  generalize a.data.toList.drop i = x at *
  generalize b.data.toList.drop i = y at *
  cases x with
  | nil =>
    cases y with
    | nil => simp [Lib.compareBytes] at *; omega
    | cons c t => simp [Lib.compareBytes] at *; omega
  | cons c t =>
    cases y with
    | nil => simp [Lib.compareBytes] at *; omega
    | cons d u => simp at la lb; omega

set_option maxRecDepth 100000 in
set_option maxHeartbeats 1000000 in
theorem textLess_any (a b : ByteArray) (w : World) (ha : a.size ≤ maxLen) (hb : b.size ≤ maxLen) :
    Calls Try.prog 29 #[.string a, .string b] w fun e w' => e = .returned (.bool (decide (Lib.compareBytes a.data.toList b.data.toList < 0))) ∧ Fr w w' := by
  unfold maxLen at ha hb
  go_enter Try.func29, Try.ntmps29
  go_wp2_with fail
  go_loopw [5] (fun iv wr => ∃ i : Nat, iv = .int .i64 i ∧ i ≤ a.size ∧ i ≤ b.size ∧ Lib.compareBytes a.data.toList b.data.toList = Lib.compareBytes (a.data.toList.drop i) (b.data.toList.drop i) ∧ Fr w wr) (fun iv _ => a.size - (intOf iv).toNat)
  case atStart => exact ⟨0, rfl, Nat.zero_le _, Nat.zero_le _, rfl, Fr.refl _⟩
  case round =>
    obtain ⟨i, rfl, hi, hj, hcb, hfr⟩ := hrel
    have HF : Hid _ := hfr
    clear hfr
    by_cases hlt : i < a.size ∧ i < b.size
    · obtain ⟨h1, h2⟩ := hlt
      have hst := cb_step a b i h1 h2
      rw [← hcb] at hst
      have HS : Hid _ := hst
      have h1' : (i : Int) < (a.size : Int) := by omega
      have h2' : (i : Int) < (b.size : Int) := by omega
      clear hst hcb
      rcases Nat.lt_trichotomy a[i].toNat b[i].toNat with h | h | h
      · have HE : Hid _ := HS.out.trans (if_pos h)
        have q1 : ((a[i].toNat : Int) != (b[i].toNat : Int)) = true := by simp; omega
        have q2 : (a[i].toNat : Int) < (b[i].toNat : Int) := by omega
        have q3 : ¬ a[i].toNat = b[i].toNat := by omega
        clear HS h
        go_wp2_with fail
        go_region
        go_wp2_with fail
        go_region
        go_wp2_with fail
        go_ret
        exact ⟨ret_bool (by rw [HE.out]; rfl), Fr.drew (Fr.drew HF.out)⟩
      · have HE : Hid _ := HS.out.trans ((if_neg (by omega)).trans (if_neg (by omega)))
        have q1 : ((a[i].toNat : Int) != (b[i].toNat : Int)) = false := by simp; omega
        clear HS
        go_wp2_with fail
        go_region
        go_wp2_with fail
        go_roundw
        case rel => exact ⟨i + 1, by go_num, by omega, by omega, HE.out, Fr.drew HF.out⟩
        case measure => simp [intOf]; omega
      · have HE : Hid _ := HS.out.trans ((if_neg (by omega)).trans (if_pos h))
        have q1 : ((a[i].toNat : Int) != (b[i].toNat : Int)) = true := by simp; omega
        have q2 : (b[i].toNat : Int) ≤ (a[i].toNat : Int) := by omega
        have q3 : ¬ a[i].toNat = b[i].toNat := by omega
        clear HS h
        go_wp2_with fail
        go_region
        go_wp2_with fail
        go_region
        go_wp2_with fail
        go_ret
        exact ⟨ret_bool (by rw [HE.out, decide_eq_decide]; omega), Fr.drew (Fr.drew HF.out)⟩
    · have he : i = a.size ∨ i = b.size := by omega
      have hd := cb_left a b i hi hj he
      rw [← hcb] at hd
      have HD : Hid _ := hd
      clear hd hcb
      have hz : ((a.size : Int) ≤ (i : Int)) ∨ ((i : Int) < (a.size : Int) ∧ (b.size : Int) ≤ (i : Int)) := by omega
      clear hlt he
      rcases hz with h | ⟨h, h'⟩
      · go_wp2_with fail
        go_ret
        exact ⟨ret_bool (by rw [decide_eq_decide, HD.out]), HF.out⟩
      · go_wp2_with fail
        go_ret
        exact ⟨ret_bool (by rw [decide_eq_decide, HD.out]), HF.out⟩
theorem textLess_t (a b : ByteArray) (w : World) (ha : a.size ≤ 140737488351232) (hb : b.size ≤ 140737488351232) :
    Calls Try.prog 29 #[.string a, .string b] w fun e w' => e = .returned (.bool (TK.lt a b)) ∧ Fr w w' := by
  rw [TK.lt_cb]
  exact textLess_any a b w (by unfold maxLen; omega) (by unfold maxLen; omega)
theorem sums_any (v : Value) (l : List Int) (n : Int) (w : World) (h : IsL cdZ w v l) (hl : l.length ≤ 17592186044416) (hn : 0 ≤ n ∧ n ≤ 17592186044416) :
    Calls Try.prog 30 #[v, .int .i64 n] w fun e w' => e = .returned (.bool (!l.any TK.bad && decide (l.sum = n))) ∧ Fr w w' := by
  obtain ⟨a, cap, rfl, _, hcs⟩ := h
  have HC := hideP hcs
  clear hcs
  go_enter Try.func30, Try.ntmps30
  go_wp2_with fail
  go_loopw [1, 5] (fun sv iv wr => ∃ (i : Nat) (s : Int), iv = .int .i64 i ∧ sv = .int .i64 (n - s) ∧ i ≤ l.length ∧ (l.take i).any TK.bad = false ∧ s = (l.take i).sum ∧ (0 ≤ s ∧ s ≤ 4 * (i : Int)) ∧ Fr w wr) (fun _ iv _ => l.length - (intOf iv).toNat)
  case atStart => exact ⟨0, 0, rfl, by simp, Nat.zero_le _, rfl, rfl, by omega, Fr.refl _⟩
  case round =>
    obtain ⟨i, s, rfl, rfl, hi, hany, hsum, hs, hfr⟩ := hrel
    by_cases hlt : i < l.length
    · have hlt' : (i : Int) < (l.length : Int) := by omega
      obtain ⟨b, o, rfl, hb, hat⟩ : ∃ b o, a = some ⟨b, o, none⟩ ∧ b < w.heap.size ∧ At cdZ w b o l := by
        rcases HC.out with h | h
        · subst h; simp at hlt
        · exact h
      have c0 := (hat.fr hb hfr).z1 i hlt
      have hst := TK.sum_step hlt
      have hby : TK.bad l[i] = true → l.any TK.bad = true := fun hb => List.any_eq_true.2 ⟨l[i], List.getElem_mem _, hb⟩
      have han : TK.bad l[i] = false → (l.take (i + 1)).any TK.bad = false := TK.any_step hlt hany
      generalize hx : l[i] = x at *
      have HBy := hideP hby
      have HAn := hideP han
      have HSt := hideP (show s + x = (l.take (i + 1)).sum by rw [hst, hsum])
      have HF := hideP hfr
      clear hby han hst hsum hfr hx hat hany
      by_cases g1 : x < 2
      · have HE := hideP (HBy.out (by unfold TK.bad; simp [g1]))
        go_wp2_with fail
        go_ret
        exact ⟨by rw [HE.out]; rfl, HF.out⟩
      by_cases g2 : 4 < x
      · have HE := hideP (HBy.out (by unfold TK.bad; simp [g2]))
        go_wp2_with fail
        go_ret
        exact ⟨by rw [HE.out]; rfl, HF.out⟩
      have HE := hideP (HAn.out (by unfold TK.bad; simp; omega))
      clear HBy HAn
      go_wp2_with fail
      go_roundw
      case rel => exact ⟨i + 1, s + x, by go_num, by go_num, by omega, HE.out, HSt.out, by omega, HF.out⟩
      case measure => simp [intOf]; omega
    · obtain rfl : i = l.length := by omega
      rw [List.take_length] at hany hsum
      have HSum := hideP hsum
      have HAny := hideP hany
      have HF := hideP hfr
      clear hsum hany hfr
      go_wp2_with fail
      go_ret
      refine ⟨?_, HF.out⟩
      rw [HAny.out, ← HSum.out]
      by_cases e : s = n
      · subst e; simp
      · have : ¬ (n - s = 0) := by omega
        simp [e, this]
/-- where a key is first -/
def TK.fo (key : ByteArray) : List TK.Pr → Nat → Int
  | [], _ => -1
  | p :: t, i => if p.k = key then (i : Int) else TK.fo key t (i + 1)
theorem foundOf_any (v : Value) (l : List TK.Pr) (key : ByteArray) (w : World) (h : IsL cdPr w v l) (hl : l.length ≤ 9223372036854775806) :
    Calls Try.prog 20 #[v, .string key] w fun e w' => e = .returned (.int .i64 (TK.fo key l 0)) ∧ Fr w w' := by
  obtain ⟨a, cap, rfl, _, hcs⟩ := h
  have HC := hideP hcs
  clear hcs
  obtain ⟨R, hR⟩ : ∃ R, TK.fo key l 0 = R := ⟨_, rfl⟩
  rw [hR]
  have HR := hideP hR
  clear hR
  go_enter Try.func20, Try.ntmps20
  go_wp2_with fail
  go_loopw [5] (fun iv wr => ∃ i : Nat, iv = .int .i64 i ∧ i ≤ l.length ∧ R = TK.fo key (l.drop i) i ∧ Fr w wr) (fun iv _ => l.length - (intOf iv).toNat)
  case atStart => exact ⟨0, rfl, Nat.zero_le _, HR.out.symm, Fr.refl _⟩
  case round =>
    obtain ⟨i, rfl, hi, hRi, hfr⟩ := hrel
    by_cases hlt : i < l.length
    · have hlt' : (i : Int) < (l.length : Int) := by omega
      obtain ⟨b, o, rfl, hb, hat⟩ : ∃ b o, a = some ⟨b, o, none⟩ ∧ b < w.heap.size ∧ At cdPr w b o l := by
        rcases HC.out with h | h
        · subst h; simp at hlt
        · exact h
      obtain ⟨c0, c1⟩ := (hat.fr hb hfr).p2 i hlt
      rw [List.drop_eq_getElem_cons hlt, TK.fo] at hRi
      generalize l[i] = x at *
      obtain ⟨xk, xn⟩ := x
      simp only at c0 c1 hRi
      have HF := hideP hfr
      clear hat hfr
      by_cases hk : xk = key
      · rw [if_pos hk] at hRi
        subst hk
        have hs : (xk.toList == xk.toList) = true := by simp
        have HE := hideP hRi
        clear hRi
        go_wp2_with fail
        go_ret
        exact ⟨by rw [HE.out]; rfl, HF.out⟩
      · rw [if_neg hk] at hRi
        have hs := TK.toList_ne hk
        have HE := hideP hRi
        clear hRi hk
        go_wp2_with fail
        go_roundw
        case rel => exact ⟨i + 1, by go_num, by omega, HE.out, HF.out⟩
        case measure => simp [intOf]; omega
    · obtain rfl : i = l.length := by omega
      rw [List.drop_length, TK.fo] at hRi
      have HE := hideP hRi
      have HF := hideP hfr
      clear hRi hfr
      go_wp2_with fail
      go_ret
      exact ⟨by rw [HE.out]; rfl, HF.out⟩
theorem pairsOf_any (p q : Value) (L : List (List TK.Pr)) (w : World) (h : IsLL cdPr w p L) (hq : ∃ a n c, q = .slice a n c) (hL : L.length ≤ 9223372036854775806) (hN : L.flatten.length ≤ 1048576) :
    Calls Try.prog 19 #[.agg #[p, q]] w fun e w' => ∃ u, e = .returned u ∧ w'.ownsRow w.heap.size 38 2 u L.flatten.length (flat cdPr L.flatten) ∧ Fr w w' := by
  obtain ⟨i0, hi0, hz0, hz1, hz2⟩ := info_parts Try.infoPr
  obtain ⟨pa, pc, rfl⟩ := h.slice
  obtain ⟨qa, qn, qc, rfl⟩ := hq
  obtain ⟨nT, NT⟩ : ∃ n, L.length = n := ⟨_, rfl⟩
  rw [NT] at h hL ⊢
  obtain ⟨W0, hW0⟩ : ∃ W0, w.alloc (.cells #[.slice pa nT pc, .slice qa qn qc] 25) = W0 := ⟨_, rfl⟩
  have f0 : Fr w W0 := by rw [← hW0]; exact (Fr.refl w).alloc _
  have b0 : Blk W0 w.heap.size #[.slice pa nT pc, .slice qa qn qc] 25 := by rw [← hW0]; exact Blk.new w _ _
  have x0 := b0.cell 0 (u := .slice pa nT pc) rfl
  have HX := hideP x0
  obtain ⟨qs, hq0, hz1, hz2, ha0, har0⟩ := (h.fr f0).at
  have HQ := hideP hq0
  have HA := hideP ha0
  have HAr := hideP har0
  have HF0 := hideP f0
  have HNT := hideP NT
  have HN := hideP hN
  clear h f0 b0 hq0 ha0 har0 NT hN hz1 hz2
  go_enter Try.func19, Try.ntmps19
  go_wp2_with fail
  clear x0
  go_loopw [3, 4] (fun ov iv wr => ∃ i : Nat, iv = .int .i64 i ∧ i ≤ nT ∧ wr.ownsRow W0.heap.size 38 2 ov (L.take i).flatten.length (flat cdPr (L.take i).flatten) ∧ Fr W0 wr) (fun _ iv _ => nT - (intOf iv).toNat)
  case atStart => exact ⟨0, rfl, Nat.zero_le _, World.ownsRow_nil _ _ _ _, Fr.refl _⟩
  case round =>
    obtain ⟨i, rfl, hi, hown, hfr⟩ := hrel
    obtain ⟨fa, fc, rfl⟩ := own_slice hown
    have k0 := (Below.cell hfr (World.block_lt_of_cell? _ _ HX.out)).trans HX.out
    by_cases hlt : i < nT
    · have hltL : i < L.length := by rw [HNT.out]; exact hlt
      have hltq : i < qs.length := by rw [HQ.out]; exact hltL
      have hlt' : (i : Int) < (nT : Int) := by omega
      obtain ⟨b, o, rfl, hb, c0⟩ := HA.out i hltq
      have d0 := (Below.cell hfr (World.block_lt_of_cell? _ _ c0)).trans c0
      obtain ⟨h1, h2⟩ := HAr.out i hltq hltL
      have h1' := h1.fr hfr
      have hst : (L.take (i + 1)).flatten = (L.take i).flatten ++ L[i] := by
        rw [List.take_succ_eq_append_getElem hltL, List.flatten_append]; simp
      have hln : (L.take i).flatten.length + L[i].length ≤ 1048576 := by
        have e := congrArg List.length hst
        rw [List.length_append] at e
        have e2 : (L.take (i + 1)).flatten.length + (L.drop (i + 1)).flatten.length = L.flatten.length := by
          rw [← List.length_append, ← List.flatten_append, List.take_append_drop]
        have := HN.out
        omega
      generalize L[i] = l at *
      obtain ⟨x, hx⟩ : ∃ x, qs[i] = x := ⟨_, rfl⟩
      rw [hx] at c0 d0 h1 h1' h2
      obtain ⟨xa, xn, xc⟩ := x
      simp only [Sq.v] at c0 d0 h1 h1' h2
      have HIs := hideP h1'
      obtain ⟨fs, hfs⟩ : ∃ fs, (L.take i).flatten = fs := ⟨_, rfl⟩
      rw [hfs] at hown hst hln ⊢
      obtain ⟨fs', hfs'⟩ : ∃ fs', (L.take (i + 1)).flatten = fs' := ⟨_, rfl⟩
      rw [hfs'] at hst
      have HFs := hideP hfs'
      have HS := hideP hst
      obtain ⟨m, hm⟩ : ∃ m, fs.length = m := ⟨_, rfl⟩
      rw [hm] at hown hln ⊢
      have HMm := hideP hm
      have HO := hideP hown
      have HF := hideP hfr
      have hsz : W0.heap.size ≤ wr.heap.size := hfr.size
      clear h1 h1' h2 hst hfs hfs' hm hown hfr c0 hx
      go_wp2_with (at_builtin; refine wpList_append_L cdPr rfl _ _ 28 38 i0 _ 24 rfl Try.underlying28 hi0 hz0 hz1 hz2 rfl W0.heap.size _ m fs rfl HO.out (.slice xa xn xc) l rfl HIs.out ?c3 ?c4 ?c5 ?_)
      case c3 => unfold maxLen; omega
      case c4 => omega
      case c5 => exact hsz
      intro v2 wB own2 gr2
      have HN2 := hideP (show wB.ownsRow W0.heap.size 38 2 v2 fs'.length (flat cdPr fs') from by
        rw [HS.out, List.length_append, HMm.out]
        exact own2)
      have FB := hideP (show Fr W0 wB from Below.grown HF.out gr2 hsz (own_base HO.out))
      clear own2 gr2
      go_wp2_with fail
      go_roundw
      case rel => exact ⟨i + 1, by go_num, by omega, by rw [HFs.out]; exact HN2.out, FB.out⟩
      case measure => simp [intOf]; omega
    · obtain rfl : i = nT := by omega
      have ht : L.take i = L := by rw [← HNT.out, List.take_length]
      rw [ht] at hown ⊢
      clear ht
      have HO := hideP (own_low hown HF0.out.size)
      have HF := hideP (HF0.out.trans hfr)
      obtain ⟨nF, NF⟩ : ∃ n, L.flatten.length = n := ⟨_, rfl⟩
      rw [NF] at HO ⊢
      have HNF := hideP NF
      clear hown hfr NF
      go_wp2_with fail
      go_ret
      exact ⟨_, rfl, by rw [HNF.out]; exact HO.out, HF.out⟩
/-- a literal of one behind -/
theorem rangeOf_any (v : Value) (l : List TK.Pr) (lo hi : ByteArray) (w : World) (h : IsL cdPr w v l) (hl : l.length ≤ 1048576) (hs : ∀ x ∈ l, x.k.size ≤ 140737488351232) (hlo : lo.size ≤ 140737488351232) (hhi : hi.size ≤ 140737488351232) :
    Calls Try.prog 22 #[v, .string lo, .string hi] w fun e w' => ∃ u, e = .returned u ∧ w'.ownsRow w.heap.size 38 2 u (TK.rng lo hi l).length (flat cdPr (TK.rng lo hi l)) ∧ Fr w w' := by
  obtain ⟨i0, hi0, hz0, hz1, hz2⟩ := info_parts Try.infoPr
  obtain ⟨a, cap, rfl, _, hcs⟩ := h
  have HC := hideP hcs
  have HS := hideP hs
  obtain ⟨nL, NL⟩ : ∃ n, l.length = n := ⟨_, rfl⟩
  rw [NL] at hl ⊢
  have HNL := hideP NL
  clear hcs hs NL
  go_enter Try.func22, Try.ntmps22
  go_wp2_with fail
  go_loopw [7, 8] (fun ov iv wr => ∃ i : Nat, iv = .int .i64 i ∧ i ≤ nL ∧ wr.ownsRow w.heap.size 38 2 ov (TK.rng lo hi (l.take i)).length (flat cdPr (TK.rng lo hi (l.take i))) ∧ Fr w wr) (fun _ iv _ => nL - (intOf iv).toNat)
  case atStart => exact ⟨0, rfl, Nat.zero_le _, World.ownsRow_nil _ _ _ _, Fr.refl _⟩
  case round =>
    obtain ⟨i, rfl, hi', hown, hfr⟩ := hrel
    obtain ⟨fa, fc, rfl⟩ := own_slice hown
    by_cases hlt : i < nL
    · have hltL : i < l.length := by rw [HNL.out]; exact hlt
      have hlt' : (i : Int) < (nL : Int) := by omega
      obtain ⟨b, o, rfl, hb, hat⟩ : ∃ b o, a = some ⟨b, o, none⟩ ∧ b < w.heap.size ∧ At cdPr w b o l := by
        rcases HC.out with h | h
        · subst h; simp at hltL
        · exact h
      have hat0 := hat.p2 i hltL
      have hst : TK.rng lo hi (l.take (i + 1)) = TK.rng lo hi (l.take i) ++ if TK.btw lo hi l[i] = true then [l[i]] else [] := by
        unfold TK.rng
        rw [List.take_succ_eq_append_getElem hltL, List.filter_append]
        congr 1
        by_cases e : TK.btw lo hi l[i] = true
        · rw [if_pos e, List.filter_cons_of_pos e]; rfl
        · rw [if_neg e, List.filter_cons_of_neg e]; rfl
      have hrl : (TK.rng lo hi (l.take i)).length ≤ i := Nat.le_trans (List.length_filter_le _ _) (List.length_take_le _ _)
      have hsz0 := HS.out _ (List.getElem_mem hltL)
      generalize l[i] = x at *
      obtain ⟨xk, xn⟩ := x
      simp only at hat0 hsz0
      obtain ⟨c0, c1⟩ := hat0
      have HC0 := hideP (show _ ∧ _ from ⟨c0, c1⟩)
      obtain ⟨fs, hfs⟩ : ∃ fs, TK.rng lo hi (l.take i) = fs := ⟨_, rfl⟩
      rw [hfs] at hown hst hrl ⊢
      obtain ⟨fs', hfs'⟩ : ∃ fs', TK.rng lo hi (l.take (i + 1)) = fs' := ⟨_, rfl⟩
      rw [hfs'] at hst
      have HFs := hideP hfs'
      obtain ⟨m, hm⟩ : ∃ m, fs.length = m := ⟨_, rfl⟩
      rw [hm] at hown hrl ⊢
      have HMm := hideP hm
      have HO := hideP hown
      have HF := hideP hfr
      have HT1 := hideP (fun W => textLess_t xk lo W hsz0 hlo)
      have HT2 := hideP (fun W => textLess_t hi xk W hhi hsz0)
      have d0 := (Below.cell hfr (World.block_lt_of_cell? _ _ c0)).trans c0
      have hbt : TK.btw lo hi ⟨xk, xn⟩ = (!(TK.lt xk lo) && !(TK.lt hi xk)) := rfl
      rw [hbt] at hst
      clear hfs hfs' hm hown hfr c0 c1 hat hbt
      have HSt := hideP hst
      clear hst
      go_wp2_with fail
      refine (HT1.out _).mono ?_
      rintro _ w1 ⟨rfl, f1⟩
      replace HF := hideP (HF.out.trans f1)
      replace HO := hideP (own_fr HO.out f1)
      have d0 := (Below.cell HF.out (World.block_lt_of_cell? _ _ HC0.out.1)).trans HC0.out.1
      clear f1
      cases e1 : TK.lt xk lo with
      | true =>
        have HE := hideP (show fs' = fs by rw [HSt.out, e1]; simp)
        clear HSt
        go_wp2_with fail
        go_roundw
        case rel => exact ⟨i + 1, by go_num, by omega, by rw [HFs.out, HE.out, HMm.out]; exact HO.out, HF.out⟩
        case measure => simp [intOf]; omega
      | false =>
        go_wp2_with fail
        refine (HT2.out _).mono ?_
        rintro _ w2 ⟨rfl, f2⟩
        replace HF := hideP (HF.out.trans f2)
        replace HO := hideP (own_fr HO.out f2)
        have d0 := (Below.cell HF.out (World.block_lt_of_cell? _ _ HC0.out.1)).trans HC0.out.1
        have d1 := (Below.cell HF.out (World.block_lt_of_cell? _ _ HC0.out.2)).trans HC0.out.2
        clear f2
        cases e2 : TK.lt hi xk with
        | true =>
          have HE := hideP (show fs' = fs by rw [HSt.out, e1, e2]; simp)
          clear HSt
          go_wp2_with fail
          go_roundw
          case rel => exact ⟨i + 1, by go_num, by omega, by rw [HFs.out, HE.out, HMm.out]; exact HO.out, HF.out⟩
          case measure => simp [intOf]; omega
        | false =>
          have HE := hideP (show fs' = fs ++ [⟨xk, xn⟩] by rw [HSt.out, e1, e2]; simp)
          have HLit := hideP (lit_one cdPr w2 ⟨xk, xn⟩ 38)
          have HO2 := hideP (own_fr HO.out ((Fr.refl w2).alloc (.cells #[.string xk, .int .i64 xn] 38)))
          have hsz : w.heap.size ≤ w2.heap.size := HF.out.size
          clear HSt
          go_wp2_with (at_builtin; refine wpList_append_L cdPr rfl _ _ 28 38 i0 _ 24 rfl Try.underlying28 hi0 hz0 hz1 hz2 rfl w.heap.size _ m _ rfl HO2.out (.slice (some ⟨w2.heap.size, 0, none⟩) 1 1) [⟨xk, xn⟩] rfl HLit.out ?c3 ?c4 ?c5 ?_)
          case c3 => unfold maxLen; simp <;> omega
          case c4 => simp <;> omega
          case c5 => simp <;> omega
          intro v2 wB own2 gr2
          have HN2 := hideP (show wB.ownsRow w.heap.size 38 2 v2 fs'.length (flat cdPr fs') from by
            rw [HE.out, List.length_append, HMm.out]
            exact own2)
          have FB := hideP (show Fr w wB from Below.grown (HF.out.alloc _) gr2 (by simp <;> omega) (own_base HO2.out))
          clear own2 gr2
          go_wp2_with fail
          go_roundw
          case rel => exact ⟨i + 1, by go_num, by omega, by rw [HFs.out]; exact HN2.out, FB.out⟩
          case measure => simp [intOf]; omega
    · obtain rfl : i = nL := by omega
      have ht : l.take i = l := by rw [← HNL.out, List.take_length]
      rw [ht] at hown ⊢
      clear ht
      have HO := hideP hown
      have HF := hideP hfr
      obtain ⟨nF, NF⟩ : ∃ n, (TK.rng lo hi l).length = n := ⟨_, rfl⟩
      rw [NF] at HO ⊢
      have HNF := hideP NF
      clear hown hfr NF
      go_wp2_with fail
      go_ret
      exact ⟨_, rfl, by rw [HNF.out]; exact HO.out, HF.out⟩
end Go.Proofs.Ytmemapfboefngaa
