/-
  What belongs together: TsI, TsJ, TsK, TsL, TsM, TsN.
-/
import Derived.Test.YtmemapfboefngaaGtC
import Derived.Test.YtmemapfboefngaaShelf
namespace Go.Proofs.Ytmemapfboefngaa
open Go.ChangeShapes Go.WideShapes Go.ChangeAt Go.RowKit
set_option linter.unusedVariables false
set_option linter.unusedSimpArgs false
set_option maxRecDepth 100000
set_option maxHeartbeats 2000000
namespace TK
/-- how many of a row's first pairs have a key below one -/
def low (key : ByteArray) (r : List Pr) : Nat := (r.takeWhile fun p => lt p.k key).length
theorem low_le (key : ByteArray) (r : List Pr) : low key r ≤ r.length := by
  unfold low
  exact (List.takeWhile_prefix _).length_le
/-- keys rise -/
def Up (r : List Pr) : Prop := r.Pairwise fun a b => lt a.k b.k = true
theorem low_lt {key : ByteArray} : ∀ {r : List Pr} {i : Nat} (h : i < r.length), i < low key r → lt r[i].k key = true
  | p :: t, i, h, hi => by
    unfold low at hi
    rw [List.takeWhile_cons] at hi
    split at hi
    · rename_i hp
      cases i with
      | zero => exact hp
      | succ i =>
        have : i < low key t := by unfold low; simpa using hi
        show lt (t[i]'(by simpa using h)).k key = true
        exact low_lt _ this
    · simp at hi
theorem low_ge {key : ByteArray} : ∀ {r : List Pr} {i : Nat} (h : i < r.length), Up r → low key r ≤ i → lt r[i].k key = false
  | p :: t, i, h, hu, hi => by
    unfold low at hi
    rw [List.takeWhile_cons] at hi
    have hu2 : Up t := (List.pairwise_cons.1 hu).2
    cases i with
    | zero =>
      split at hi
      · simp at hi
      · rename_i hp; simpa using hp
    | succ i =>
      have ht : i < t.length := by simpa using h
      split at hi
      · have : low key t ≤ i := by unfold low; simpa using hi
        exact low_ge ht hu2 this
      · rename_i hp
        have h1 := (List.pairwise_cons.1 hu).1 t[i] (List.getElem_mem ht)
        show lt t[i].k key = false
        cases hb : lt t[i].k key with
        | false => rfl
        | true => exact absurd (lt_trans h1 hb) hp
theorem low_eq {key : ByteArray} {r : List Pr} {i : Nat} (hu : Up r) (hi : i ≤ r.length) (h1 : ∀ j (h : j < r.length), j < i → lt r[j].k key = true) (h2 : ∀ j (h : j < r.length), i ≤ j → lt r[j].k key = false) : i = low key r := by
  have hl := low_le key r
  rcases Nat.lt_trichotomy i (low key r) with h | h | h
  · have a := low_lt (key := key) (i := i) (by omega) h
    rw [h2 i (by omega) (Nat.le_refl _)] at a
    cases a
  · exact h
  · have a := low_ge (key := key) (i := low key r) (by omega) hu (Nat.le_refl _)
    rw [h1 _ (by omega) h] at a
    cases a
/-- is a key among a row's? -/
def isAt (key : ByteArray) (r : List Pr) : Bool := match r[low key r]? with
  | some p => decide (p.k = key)
  | none => false
end TK
theorem cb_neg (a b : ByteArray) : (Lib.compareBytes a.data.toList b.data.toList < 0) = (TK.lt a b = true) := by rw [TK.lt_cb]; simp
theorem cb_eq (a b : ByteArray) : (Lib.compareBytes a.data.toList b.data.toList = 0) = (a = b) := by
  apply propext
  rw [TK.cb_zero]
  constructor
  · intro h; exact TK.toList_inj (by rw [Lib.toList_data, Lib.toList_data]; exact h)
  · rintro rfl; rfl
theorem placeClo_any (k key : ByteArray) (n : Int) (w : World) : Calls Try.prog 51 #[.agg #[.string k, .int .i64 n], .string key] w fun e w' => e = .returned (.int .i64 (Lib.compareBytes k.data.toList key.data.toList)) ∧ Fr w w' := by
  have bb := Blk.new w #[.string k, .int .i64 n] 38
  have x0 := bb.cell 0 (u := .string k) rfl
  clear bb
  generalize hc : Lib.compareBytes k.data.toList key.data.toList = c
  have HC := hideP (fun W => Try.strings_Compare k key W)
  rw [hc] at HC
  clear hc
  go_enter Try.func51, Try.ntmps51
  go_wp2_with fail
  refine (HC.out _).mono ?_
  rintro _ _ ⟨rfl, rfl⟩
  go_wp2_with fail
  go_ret
  exact ⟨rfl, (Fr.refl w).alloc _⟩
end Go.Proofs.Ytmemapfboefngaa
namespace Go.Proofs.Ytmemapfboefngaa
open Go.ChangeShapes Go.WideShapes Go.ChangeAt Go.RowKit
set_option linter.unusedVariables false
set_option linter.unusedSimpArgs false
set_option maxRecDepth 100000
set_option maxHeartbeats 2000000
theorem bsearch_any (v : Value) (r : List TK.Pr) (key : ByteArray) (w : World) (h : IsL cdPr w v r) (hu : TK.Up r) (hl : r.length ≤ 1000000) :
    Calls Try.prog 50 #[v, .string key, .func (.func 51) #[] #[]] w fun e w' => e = .returned (.tuple #[.int .i64 ((TK.low key r : Nat) : Int), .bool (TK.isAt key r)]) ∧ Fr w w' := by
  have HLow := hideP (fun (i : Nat) (hi : i ≤ r.length) h1 h2 => TK.low_eq (key := key) (r := r) (i := i) hu hi h1 h2)
  have HIs : Hid (TK.isAt key r = match r[TK.low key r]? with
    | some p => decide (p.k = key)
    | none => false) := rfl
  obtain ⟨L, hL⟩ : ∃ L, TK.low key r = L := ⟨_, rfl⟩
  rw [hL] at HLow HIs ⊢
  have HUp := hideP hu
  have HLL := hideP hL
  clear hL hu
  obtain ⟨B, hB⟩ : ∃ B, TK.isAt key r = B := ⟨_, rfl⟩
  rw [hB] at HIs ⊢
  clear hB
  obtain ⟨a, c, rfl, hcap, hcs⟩ := h
  have HCs := hideP hcs
  clear hcs
  go_enter Try.func50, Try.ntmps50
  go_wp2_with fail
  go_loopw [9, 10, 11] (fun iv jv _ wr => ∃ (i j : Nat), iv = .int .i64 (i : Int) ∧ jv = .int .i64 (j : Int) ∧ i ≤ j ∧ j ≤ r.length ∧ (∀ k (h : k < r.length), k < i → TK.lt r[k].k key = true) ∧ (∀ k (h : k < r.length), j ≤ k → TK.lt r[k].k key = false) ∧ Fr w wr) (fun iv jv _ _ => (intOf jv).toNat - (intOf iv).toNat)
  case atStart => exact ⟨0, r.length, rfl, rfl, Nat.zero_le _, Nat.le_refl _, fun k _ h => by omega, fun k h1 h2 => by omega, Fr.refl _⟩
  case round =>
    obtain ⟨i, j, rfl, rfl, hij, hj, h1, h2, hfr⟩ := hrel
    have H1 := hideP h1
    have H2 := hideP h2
    have HF := hideP hfr
    clear h1 h2 hfr
    by_cases hlt : i < j
    case neg =>
      obtain rfl : i = j := by omega
      have hE := HLow.out i hj H1.out H2.out
      subst hE
      have hlt' : ¬ ((i : Int) < (i : Int)) := by omega
      by_cases hin : i < r.length
      · have hin' : (i : Int) < (r.length : Int) := by omega
        obtain ⟨gb, go, rfl, hgb, hat⟩ : ∃ b o, a = some ⟨b, o, none⟩ ∧ b < w.heap.size ∧ At cdPr w b o r := by
          rcases HCs.out with h | h
          · subst h; simp at hin
          · exact h
        obtain ⟨c1, c2⟩ := hat.p2 i hin
        have d1 := (Below.cell HF.out (World.block_lt_of_cell? _ _ c1)).trans c1
        have d2 := (Below.cell HF.out (World.block_lt_of_cell? _ _ c2)).trans c2
        have HB := hideP (show B = decide (r[i].k = key) by rw [HIs.out, List.getElem?_eq_getElem hin])
        generalize r[i] = p at *
        clear c1 c2 hat
        obtain ⟨pk, pn⟩ := p
        simp only at d1 d2 HB
        have HE := hideP (cb_eq pk key)
        have HC := hideP (fun W => placeClo_any pk key pn W)
        generalize Lib.compareBytes pk.data.toList key.data.toList = cb at *
        go_wp2_with fail
        refine (HC.out _).mono ?_
        rintro _ w3 ⟨rfl, f3⟩
        have F3 := hideP (HF.out.trans f3)
        clear f3
        by_cases he : cb = 0
        · subst he
          have HB2 := hideP (show B = true by rw [HB.out]; simp only [decide_eq_true_eq]; rw [← HE.out])
          go_wp2_with fail
          go_ret2
          exact ⟨by rw [HB2.out]; rfl, F3.out⟩
        · have he' : (cb == 0) = false := by simpa using he
          have HB2 := hideP (show B = false by rw [HB.out]; simp only [decide_eq_false_iff_not]; rw [← HE.out]; exact he)
          go_wp2_with fail
          go_ret2
          exact ⟨by rw [HB2.out]; rfl, F3.out⟩
      · have hin' : ((i : Int) < (r.length : Int)) = False := by simp; omega
        have HB2 := hideP (show B = false by rw [HIs.out, List.getElem?_eq_none (by omega)])
        go_wp2_with fail
        go_ret2
        exact ⟨by rw [HB2.out]; rfl, HF.out⟩
    have hlt' : (i : Int) < (j : Int) := by omega
    obtain ⟨m, hm⟩ : ∃ m, m = (i + j) / 2 := ⟨_, rfl⟩
    have hmi : i ≤ m := by omega
    have hmj : m < j := by omega
    have hmr : m < r.length := by omega
    have e1 : IntKind.u64.wrap ((i : Int) + (j : Int)) = (i : Int) + (j : Int) := by
      simp [IntKind.wrap, IntKind.bits, IntKind.signed]
      omega
    have e2 : ((i : Int) + (j : Int)) / 2 = (m : Int) := by omega
    have e3 : IntKind.i64.wrap (m : Int) = (m : Int) := by
      simp [IntKind.wrap, IntKind.bits, IntKind.signed]
      omega
    obtain ⟨gb, go, rfl, hgb, hat⟩ : ∃ b o, a = some ⟨b, o, none⟩ ∧ b < w.heap.size ∧ At cdPr w b o r := by
      rcases HCs.out with h | h
      · subst h; simp at hmr
      · exact h
    obtain ⟨c1, c2⟩ := hat.p2 m hmr
    have d1 := (Below.cell HF.out (World.block_lt_of_cell? _ _ c1)).trans c1
    have d2 := (Below.cell HF.out (World.block_lt_of_cell? _ _ c2)).trans c2
    clear c1 c2 hat
    have hmin : TK.lt r[m].k key = true → ∀ k (h : k < r.length), k < m + 1 → TK.lt r[k].k key = true := by
      intro ht k hk hkm
      by_cases e : k = m
      · subst e; exact ht
      · have hp := List.pairwise_iff_getElem.1 HUp.out k m hk hmr (by omega)
        exact TK.lt_trans hp ht
    have hmax : TK.lt r[m].k key = false → ∀ k (h : k < r.length), m ≤ k → TK.lt r[k].k key = false := by
      intro ht k hk hkm
      by_cases e : k = m
      · subst e; exact ht
      · have hp := List.pairwise_iff_getElem.1 HUp.out m k hmr hk (by omega)
        cases hb : TK.lt r[k].k key with
        | false => rfl
        | true => rw [TK.lt_trans hp hb] at ht; cases ht
    have HMin := hideP hmin
    have HMax := hideP hmax
    clear hmin hmax
    generalize r[m] = p at *
    obtain ⟨pk, pn⟩ := p
    simp only at d1 d2 HMin HMax
    have HE := hideP (cb_neg pk key)
    have HC := hideP (fun W => placeClo_any pk key pn W)
    generalize Lib.compareBytes pk.data.toList key.data.toList = cb at *
    clear hm
    go_wp2_with fail
    refine (HC.out _).mono ?_
    rintro _ w3 ⟨rfl, f3⟩
    have F3 := hideP (HF.out.trans f3)
    clear f3 HC
    by_cases he : cb < 0
    · have HT := hideP (HMin.out (by rw [← HE.out]; exact he))
      clear e1 e2 e3
      go_wp2_with fail
      go_roundw
      case rel => exact ⟨m + 1, j, by go_num, rfl, by omega, hj, HT.out, H2.out, F3.out⟩
      case measure => simp [intOf]; omega
    · have HT := hideP (HMax.out (by
        cases hb : TK.lt pk key with
        | false => rfl
        | true => exact absurd (HE.out.symm ▸ hb) he))
      clear e1 e2 e3
      go_wp2_with fail
      go_roundw
      case rel => exact ⟨i, m, rfl, rfl, by omega, by omega, H1.out, HT.out, F3.out⟩
      case measure => simp [intOf]; omega
end Go.Proofs.Ytmemapfboefngaa
namespace Go.Proofs.Ytmemapfboefngaa
open Go.ChangeShapes Go.WideShapes Go.ChangeAt Go.RowKit
set_option linter.unusedVariables false
set_option linter.unusedSimpArgs false
set_option maxRecDepth 100000
set_option maxHeartbeats 2000000
namespace TK
theorem le_lt (a b : ByteArray) : (Op.bytesLess a.toList b.toList || (a.toList == b.toList)) = !(lt b a) := by
  rw [← gt_lt]
  cases Op.bytesLess a.toList b.toList <;> cases (a.toList == b.toList) <;> rfl
/-- the last leaf whose first key is not above a key -/
def leafAt (key : ByteArray) : List (List Pr) → Nat → Nat → Nat
  | [], _, cur => cur
  | r :: t, i, cur => leafAt key t (i + 1) (if lt key (r.headD ⟨⟨#[]⟩, 0⟩).k = true then cur else i)
def leafOf (key : ByteArray) (L : List (List Pr)) : Nat := leafAt key L 0 0
theorem leafAt_lt (key : ByteArray) : ∀ (t : List (List Pr)) (i cur n : Nat), cur < n → i + t.length ≤ n → leafAt key t i cur < n
  | [], _, _, _, h, _ => h
  | r :: t, i, cur, n, h, h2 => by
    unfold leafAt
    refine leafAt_lt key t (i + 1) _ n ?_ (by simp at h2; omega)
    split
    · exact h
    · simp at h2; omega
theorem leafOf_lt (key : ByteArray) {L : List (List Pr)} (h : 0 < L.length) : leafOf key L < L.length := leafAt_lt key L 0 0 _ h (by omega)
end TK
theorem place_any (p q : Value) (L : List (List TK.Pr)) (key : ByteArray) (w : World) (h : IsLL cdPr w p L) (hq : ∃ a n c, q = .slice a n c) (hL : L.length ≤ 1000000) (hne : ∀ r ∈ L, r ≠ []) (hl : ∀ r ∈ L, r.length ≤ 1000000) (hu : ∀ r ∈ L, TK.Up r) :
    Calls Try.prog 33 #[.agg #[p, q], .string key] w fun e w' => e = .returned (.tuple #[.int .i64 ((TK.leafOf key L : Nat) : Int), .int .i64 ((TK.low key (L.getD (TK.leafOf key L) []) : Nat) : Int), .bool (TK.isAt key (L.getD (TK.leafOf key L) []))]) ∧ Fr w w' := by
  obtain ⟨qa, qn, qc', rfl⟩ := hq
  obtain ⟨a, c, rfl⟩ := h.slice
  obtain ⟨qs, hq, _, hc, hcell, hrow⟩ := h.at
  have HCe := hideP hcell
  have HRo := hideP hrow
  have HNe := hideP hne
  have HLl := hideP hl
  have HUp := hideP hu
  clear hcell hrow hne hl hu h
  have bb := Blk.new w #[.slice a L.length c, .slice qa qn qc'] 25
  have x0 := bb.cell 0 (u := .slice a L.length c) rfl
  have HB := hideP bb
  have F0 := hideP ((Fr.refl w).alloc (.cells #[.slice a L.length c, .slice qa qn qc'] 25))
  clear bb
  by_cases h0 : L.length = 0
  · have e : L = [] := List.length_eq_zero_iff.1 h0
    subst e
    have h0' : (((([] : List (List TK.Pr)).length : Nat) : Int) == 0) = true := rfl
    go_enter Try.func33, Try.ntmps33
    go_wp2_with fail
    go_ret3
    exact ⟨rfl, F0.out⟩
  obtain ⟨F, hF⟩ : ∃ F, TK.leafOf key L = F := ⟨_, rfl⟩
  have HFl := hideP (show F < L.length by rw [← hF]; exact TK.leafOf_lt key (by omega))
  have HFe := hideP (show F = TK.leafAt key L 0 0 from hF.symm)
  rw [hF]
  clear hF
  obtain ⟨lo, hlo⟩ : ∃ x, TK.low key (L.getD F []) = x := ⟨_, rfl⟩
  obtain ⟨fo, hfo⟩ : ∃ x, TK.isAt key (L.getD F []) = x := ⟨_, rfl⟩
  have HLo := hideP hlo
  have HFo := hideP hfo
  rw [hlo, hfo]
  clear hlo hfo
  have h0' : ((L.length : Int) == 0) = false := by simp; exact fun h => h0 (by rw [h]; rfl)
  have h0'' : ¬ ((L.length : Int) = 0) := by omega
  have hn9 : L.length ≤ 1000000 := hL
  go_enter Try.func33, Try.ntmps33
  go_wp2_with fail
  clear h0' h0''
  go_loopw [4, 7, 8, 16] (fun lv _ _ iv wr => ∃ (i cur : Nat), iv = .int .i64 (i : Int) ∧ lv = .int .i64 (cur : Int) ∧ i ≤ L.length ∧ F = TK.leafAt key (L.drop i) i cur ∧ Fr w wr ∧ Blk wr w.heap.size #[.slice a L.length c, .slice qa qn qc'] 25) (fun _ _ _ iv _ => L.length - (intOf iv).toNat)
  case atStart => exact ⟨0, 0, rfl, rfl, Nat.zero_le _, HFe.out, F0.out, HB.out⟩
  case round =>
    clear F0 HB x0
    obtain ⟨i, cur, rfl, rfl, hi, hFi, hfr, hbk⟩ := hrel
    have HF := hideP hfr
    have HB := hideP hbk
    have x0 := hbk.cell 0 (u := .slice a L.length c) rfl
    clear hfr hbk
    by_cases hlt : i < L.length
    case neg =>
      obtain rfl : i = L.length := by omega
      rw [List.drop_length] at hFi
      have hFc : F = cur := hFi
      subst hFc
      have hFl := HFl.out
      have hltF : (F : Int) < (L.length : Int) := by omega
      obtain ⟨b, o, rfl, hbb, c0⟩ := HCe.out F (by omega)
      obtain ⟨h1, h2⟩ := HRo.out F (by omega) hFl
      have d0 := (Below.cell HF.out (World.block_lt_of_cell? _ _ c0)).trans c0
      have eg : L.getD F [] = L[F] := by rw [List.getD_eq_getElem?_getD, List.getElem?_eq_getElem hFl]; rfl
      have hbs := fun W (f : Fr w W) => bsearch_any qs[F].v L[F] key W (h1.fr f) (HUp.out _ (List.getElem_mem hFl)) (HLl.out _ (List.getElem_mem hFl))
      rw [← eg, HLo.out, HFo.out] at hbs
      obtain ⟨q, hqq⟩ : ∃ q, (qs[F]'(by omega)) = q := ⟨_, rfl⟩
      rw [hqq] at d0 hbs
      obtain ⟨ra, rn, rc⟩ := q
      simp only [Sq.v] at d0 hbs
      have HBs := hideP hbs
      clear hFi hbs h1 h2 c0 eg hqq
      go_wp2_with fail
      refine (HBs.out _ HF.out).mono ?_
      rintro _ w3 ⟨rfl, f3⟩
      have F3 := hideP (HF.out.trans f3)
      clear f3 HBs
      go_wp2_with fail
      go_ret3
      exact ⟨rfl, F3.out⟩
    have hlt' : (i : Int) < (L.length : Int) := by omega
    obtain ⟨b, o, rfl, hbb, c0⟩ := HCe.out i (by omega)
    obtain ⟨h1, h2⟩ := HRo.out i (by omega) hlt
    have d0 := (Below.cell HF.out (World.block_lt_of_cell? _ _ c0)).trans c0
    rw [List.drop_eq_getElem_cons hlt] at hFi
    have hFi2 : F = TK.leafAt key (L.drop (i + 1)) (i + 1) (if TK.lt key ((L[i]).headD ⟨⟨#[]⟩, 0⟩).k = true then cur else i) := hFi
    have hne := HNe.out _ (List.getElem_mem hlt)
    generalize hr : L[i] = r at *
    clear hr
    obtain ⟨q, hqq⟩ : ∃ q, (qs[i]'(by omega)) = q := ⟨_, rfl⟩
    rw [hqq] at d0 h1 h2
    obtain ⟨ra, rn, rc⟩ := q
    simp only [Sq.v] at d0 h1 h2
    subst h2
    cases r with
    | nil => exact absurd rfl hne
    | cons y t =>
      obtain ⟨A, C, e1, hcap, hcs⟩ := h1
      simp only [Value.slice.injEq] at e1
      obtain ⟨rfl, _, rfl⟩ := e1
      obtain ⟨gb, go, rfl, hgb, hat⟩ : ∃ b o, ra = some ⟨b, o, none⟩ ∧ b < w.heap.size ∧ At cdPr w b o (y :: t) := by
        rcases hcs with h | h
        · cases h
        · exact h
      obtain ⟨c1, _⟩ := hat.p2 0 (by simp)
      have d1 := (Below.cell HF.out (World.block_lt_of_cell? _ _ c1)).trans c1
      simp only [List.getElem_cons_zero, Nat.zero_mul, Nat.add_zero] at d1
      obtain ⟨yk, yn⟩ := y
      simp only [List.headD_cons] at hFi2 d1
      have HG : Hid ((Op.bytesLess yk.toList key.toList || (yk.toList == key.toList)) = !(TK.lt key yk)) := TK.le_lt yk key
      have HFi := hideP hFi2
      have hlen : (0 : Int) < (((⟨yk, yn⟩ : TK.Pr) :: t).length : Int) := by simp
      generalize (((⟨yk, yn⟩ : TK.Pr) :: t).length) = n9 at *
      clear hFi hFi2 hcs hat c1 c0 hqq
      cases hb : TK.lt key yk with
      | true =>
        have HFn := hideP (HFi.out.trans (congrArg _ (if_pos hb)))
        have HG2 := HG.out
        rw [hb] at HG2
        simp only [Bool.not_true] at HG2
        have HF2 := hideP HF.out
        clear HG
        go_wp2_with fail
        go_roundw
        case rel => exact ⟨i + 1, cur, by go_num, rfl, by omega, HFn.out, HF2.out, HB.out⟩
        case measure => simp [intOf]; omega
      | false =>
        have HFn := hideP (HFi.out.trans (congrArg _ (if_neg (by rw [hb]; decide))))
        have HG2 := HG.out
        rw [hb] at HG2
        simp only [Bool.not_false] at HG2
        have HF2 := hideP HF.out
        clear HG
        go_wp2_with fail
        go_roundw
        case rel => exact ⟨i + 1, i, by go_num, rfl, by omega, HFn.out, HF2.out, HB.out⟩
        case measure => simp [intOf]; omega
end Go.Proofs.Ytmemapfboefngaa
namespace Go.Proofs.Ytmemapfboefngaa
open Go.ChangeShapes Go.WideShapes Go.ChangeAt Go.RowKit
set_option linter.unusedVariables false
set_option linter.unusedSimpArgs false
set_option maxRecDepth 100000
set_option maxHeartbeats 2000000
namespace TK
/-- all keys of a row are above one -/
def Abv (st : Option ByteArray) (r : List Pr) : Prop := ∀ k, st = some k → ∀ p ∈ r, lt k p.k = true
theorem pE_up : ∀ {r : List Pr} {st s : Option ByteArray}, pE st r = .ok s → Up r ∧ Abv st r ∧ (∀ p ∈ r, p.k.size ≤ 40) ∧ (∀ k, s = some k → (r = [] ∧ st = some k) ∨ ∃ p, r.getLast? = some p ∧ p.k = k) ∧ (s = none → r = [])
  | [], st, s, h => by
    cases h
    exact ⟨List.Pairwise.nil, fun k _ p hp => (by cases hp), fun p hp => (by cases hp), fun k hk => .inl ⟨rfl, hk⟩, fun _ => rfl⟩
  | p :: t, st, s, h => by
    rw [pE_step] at h
    split at h
    · cases h
    split at h
    · cases h
    rename_i h40 hr
    have hr' : rs st p.k = true := by simpa using hr
    obtain ⟨a1, a2, a3, a4, a5⟩ := pE_up h
    refine ⟨List.pairwise_cons.2 ⟨fun q hq => a2 p.k rfl q hq, a1⟩, fun k hk q hq => ?_, fun q hq => ?_, fun k hk => ?_, fun hs => ?_⟩
    · subst hk
      rcases List.mem_cons.1 hq with rfl | hq
      · exact hr'
      · exact lt_trans hr' (a2 p.k rfl q hq)
    · rcases List.mem_cons.1 hq with rfl | hq
      · omega
      · exact a3 q hq
    · right
      rcases a4 k hk with ⟨rfl, h2⟩ | ⟨q, h1, h2⟩
      · exact ⟨p, rfl, by simpa using h2⟩
      · refine ⟨q, ?_, h2⟩
        cases t with
        | nil => cases h1
        | cons y t => simpa [List.getLast?_cons_cons] using h1
    · have := a5 hs
      subst this
      cases h
      cases hs
theorem lE_up {many : Nat} : ∀ {L : List (List Pr)} {st : Option ByteArray}, er (lE many st L) = 0 → Up L.flatten ∧ Abv st L.flatten ∧ (∀ r ∈ L, r ≠ [] ∧ Up r ∧ r.length ≤ 4) ∧ (∀ p ∈ L.flatten, p.k.size ≤ 40)
  | [], st, _ => ⟨List.Pairwise.nil, fun k _ p hp => (by simp at hp), fun r hr => (by cases hr), fun p hp => (by simp at hp)⟩
  | l :: t, st, h => by
    have h4 := lE_len h
    rw [lE_step] at h
    split at h
    · cases h
    · rename_i h1
      have hne : l ≠ [] := by
        rintro rfl
        simp [szOk] at h1
      cases hp : pE st l with
      | error c =>
        rw [hp] at h
        exact absurd h (pE_ne hp)
      | ok s =>
        rw [hp] at h
        obtain ⟨a1, a2, a3, a4, a5⟩ := pE_up hp
        obtain ⟨b1, b2, b3, b4⟩ := lE_up (st := s) (L := t) h
        have hs : ∃ k, s = some k := by
          cases s with
          | none => exact absurd (a5 rfl) hne
          | some k => exact ⟨k, rfl⟩
        obtain ⟨k, rfl⟩ := hs
        obtain ⟨p, h2, h3⟩ : ∃ p, l.getLast? = some p ∧ p.k = k := by
          rcases a4 k rfl with ⟨h2, _⟩ | h2
          · exact absurd h2 hne
          · exact h2
        have hpl : p ∈ l := List.mem_of_getLast? h2
        have hcr : ∀ x ∈ l, ∀ y ∈ t.flatten, lt x.k y.k = true := by
          intro x hx y hy
          have hy2 := b2 k rfl y hy
          by_cases e : x = p
          · subst e; rw [h3]; exact hy2
          · have : lt x.k p.k = true := by
              obtain ⟨l0, rfl⟩ : ∃ l0, l = l0 ++ [p] := by
                obtain ⟨l0, hl0⟩ := List.getLast?_eq_some_iff.1 h2
                exact ⟨l0, hl0⟩
              rcases List.mem_append.1 hx with hx | hx
              · exact (List.pairwise_append.1 a1).2.2 x hx p (by simp)
              · simp at hx; exact absurd hx e
            rw [h3] at this
            exact lt_trans this hy2
        refine ⟨?_, fun k' hk' y hy => ?_, fun r hr => ?_, fun y hy => ?_⟩
        · rw [List.flatten_cons]
          exact List.pairwise_append.2 ⟨a1, b1, hcr⟩
        · rw [List.flatten_cons] at hy
          rcases List.mem_append.1 hy with hy | hy
          · exact a2 k' hk' y hy
          · obtain ⟨z, hz⟩ : ∃ z, z ∈ l := by
              cases l with
              | nil => exact absurd rfl hne
              | cons z _ => exact ⟨z, by simp⟩
            exact lt_trans (a2 k' hk' z hz) (hcr z hz y hy)
        · rcases List.mem_cons.1 hr with rfl | hr
          · exact ⟨hne, a1, h4 r (by simp)⟩
          · exact b3 r hr
        · rw [List.flatten_cons] at hy
          rcases List.mem_append.1 hy with hy | hy
          · exact a3 y hy
          · exact b4 y hy
/-- the pair of a key -/
def fnd (key : ByteArray) (L : List (List Pr)) : Option Pr := if isAt key (L.getD (leafOf key L) []) = true then (L.getD (leafOf key L) [])[low key (L.getD (leafOf key L) [])]? else none
def fndV : Option Pr → Int × Bool
  | some p => (p.n, true)
  | none => (0, false)
/-- what Find answers -/
def findA (key : ByteArray) (L : List (List Pr)) (U : List (List Int)) : (Int × Bool) × Nat := if chk L U ≠ 0 then ((0, false), chk L U) else if 40 < key.size then ((0, false), 2) else (fndV (fnd key L), 0)
end TK
theorem find_any (p q : Value) (L : List (List TK.Pr)) (U : List (List Int)) (key : ByteArray) (w : World) (h : IsT w p q L U) (hL : L.length ≤ 9223372036854775806) (hR : ∀ r ∈ L, r.length ≤ 9223372036854775806) (hS : ∀ r ∈ L, ∀ x ∈ r, x.k.size ≤ 9223372036854775806) (hU : U.length ≤ 9223372036854775806) (hUr : ∀ u ∈ U, u.length ≤ 17592186044416) (hk : key.size ≤ 9223372036854775806) :
    Calls Try.prog 15 #[.agg #[p, q], .string key] w fun e w' => e = .returned (.tuple #[.int .i64 (TK.findA key L U).1.1, .bool (TK.findA key L U).1.2, .int .i64 (((TK.findA key L U).2 : Nat) : Int)]) ∧ Fr w w' := by
  have HC := hideP (fun W (f : Fr w W) => tcheck_any p q L U W (h.fr f) hL hR hS hU hUr)
  have HK : Hid (TK.findA key L U = if TK.chk L U ≠ 0 then ((0, false), TK.chk L U) else if 40 < key.size then ((0, false), 2) else (TK.fndV (TK.fnd key L), 0)) := rfl
  have HOk := hideP (fun (h0 : TK.chk L U = 0) => (show L.length ≤ 1000000 ∧ (∀ r ∈ L, r ≠ [] ∧ TK.Up r ∧ r.length ≤ 4) by
    obtain ⟨a1, _, a3, _⟩ := TK.chk_ok h0
    exact ⟨by omega, (TK.lE_up a3).2.2.1⟩))
  have HP := hideP (fun (h0 : TK.chk L U = 0) W (f : Fr w W) => by
    obtain ⟨a1, _, a3, _⟩ := TK.chk_ok h0
    have a5 := (TK.lE_up a3).2.2.1
    exact place_any p q L key W (h.l.fr f) (by obtain ⟨a, c, e⟩ := h.u.slice; exact ⟨a, _, c, e⟩) (by omega) (fun r hr => (a5 r hr).1) (fun r hr => by have := (a5 r hr).2.2; omega) (fun r hr => (a5 r hr).2.1))
  have HI := hideP h.l
  obtain ⟨pa, pc, rfl⟩ := h.l.slice
  obtain ⟨qa, qc, rfl⟩ := h.u.slice
  have bb := Blk.new w #[.slice pa L.length pc, .slice qa U.length qc] 25
  have x0 := bb.cell 0 (u := .slice pa L.length pc) rfl
  have x1 := bb.cell 1 (u := .slice qa U.length qc) rfl
  have F0 := hideP ((Fr.refl w).alloc (.cells #[.slice pa L.length pc, .slice qa U.length qc] 25))
  have HB := hideP bb
  clear bb h hR hS hUr
  generalize TK.findA key L U = R at *
  obtain ⟨⟨r1, r2⟩, r3⟩ := R
  simp only
  obtain ⟨z, hz⟩ : ∃ z, TK.chk L U = z := ⟨_, rfl⟩
  rw [hz] at HC HOk HP HK
  clear hz
  go_enter Try.func15, Try.ntmps15
  go_wp2_with fail
  refine (HC.out _ F0.out).mono ?_
  rintro _ w1 ⟨rfl, f1⟩
  have F1 := hideP (F0.out.trans f1)
  have HB1 := hideP (HB.out.fr f1)
  clear f1 x0 x1
  have x0 := HB1.out.cell 0 (u := .slice pa L.length pc) rfl
  have x1 := HB1.out.cell 1 (u := .slice qa U.length qc) rfl
  by_cases h0 : z = 0
  case neg =>
    have hE := HK.out.trans (if_pos h0)
    simp only [Prod.mk.injEq] at hE
    obtain ⟨⟨rfl, rfl⟩, rfl⟩ := hE
    have g1 : ((r3 : Int) != 0) = true := by simp; omega
    have g2 : ¬ ((r3 : Int) = 0) := by omega
    go_wp2_with fail
    go_ret3
    exact ⟨rfl, F1.out⟩
  subst h0
  obtain ⟨hL6, hall⟩ := HOk.out (by trivial)
  have HAll := hideP hall
  replace HK := hideP (HK.out.trans (if_neg (by simp)))
  clear hall
  by_cases h40 : 40 < key.size
  · have hE := HK.out.trans (if_pos h40)
    simp only [Prod.mk.injEq] at hE
    obtain ⟨⟨rfl, rfl⟩, rfl⟩ := hE
    have h40' : (40 : Int) < (key.size : Int) := by omega
    go_wp2_with fail
    go_ret3
    exact ⟨rfl, F1.out⟩
  have hE := HK.out.trans (if_neg h40)
  simp only [Prod.mk.injEq] at hE
  obtain ⟨hE, rfl⟩ := hE
  have h40' : ¬ (40 : Int) < (key.size : Int) := by omega
  have HP2 := hideP (HP.out (by trivial) _ F1.out)
  have HE := hideP hE
  have HFd : Hid (TK.fnd key L = if TK.isAt key (L.getD (TK.leafOf key L) []) = true then (L.getD (TK.leafOf key L) [])[TK.low key (L.getD (TK.leafOf key L) [])]? else none) := rfl
  have HLf := hideP (fun (h : 0 < L.length) => TK.leafOf_lt key h)
  clear HP HC HOk HK hE
  generalize TK.leafOf key L = F at *
  have HIA : Hid (TK.isAt key (L.getD F []) = match (L.getD F [])[TK.low key (L.getD F [])]? with
    | some p => decide (p.k = key)
    | none => false) := rfl
  generalize TK.isAt key (L.getD F []) = fo at *
  generalize TK.low key (L.getD F []) = lo at *
  go_wp2_with fail
  refine HP2.out.mono ?_
  rintro _ w2 ⟨rfl, f2⟩
  have F2 := hideP (F1.out.trans f2)
  have HB2 := hideP (HB1.out.fr f2)
  clear f2 x0 x1 HP2
  have x0 := HB2.out.cell 0 (u := .slice pa L.length pc) rfl
  cases fo with
  | false =>
    have hE := HE.out
    rw [HFd.out] at hE
    simp only [Bool.false_eq_true, if_false, TK.fndV, Prod.mk.injEq] at hE
    obtain ⟨rfl, rfl⟩ := hE
    go_wp2_with fail
    go_ret3
    exact ⟨rfl, F2.out⟩
  | true =>
    have hE := HE.out
    rw [HFd.out] at hE
    simp only [if_true] at hE
    have hia := HIA.out
    obtain ⟨y, hy⟩ : ∃ y, (L.getD F [])[lo]? = some y := by
      cases hq : (L.getD F [])[lo]? with
      | none => rw [hq] at hia; cases hia
      | some y => exact ⟨y, rfl⟩
    rw [hy] at hE
    simp only [TK.fndV, Prod.mk.injEq] at hE
    obtain ⟨rfl, rfl⟩ := hE
    have hFl : F < L.length := by
      by_cases hq : F < L.length
      · exact hq
      · rw [List.getD_eq_getElem?_getD, List.getElem?_eq_none (show L.length ≤ F by omega)] at hy
        simp at hy
    have eg : L.getD F [] = L[F] := by rw [List.getD_eq_getElem?_getD, List.getElem?_eq_getElem hFl]; rfl
    rw [eg] at hy
    obtain ⟨hlo, hye⟩ := List.getElem?_eq_some_iff.1 hy
    have hlr := (HAll.out _ (List.getElem_mem hFl)).2.2
    obtain ⟨qs, hq, _, hc, hcell, hrow⟩ := HI.out.at
    obtain ⟨b, o, rfl, hbb, c0⟩ := hcell F (by omega)
    obtain ⟨h1, h2⟩ := hrow F (by omega) hFl
    have d0 := (Below.cell F2.out (World.block_lt_of_cell? _ _ c0)).trans c0
    generalize L[F] = r at *
    generalize (qs[F]'(by omega)) = q at *
    obtain ⟨ra, rn, rc⟩ := q
    simp only [Sq.v] at d0 h1 h2
    subst h2
    obtain ⟨A, C, e1, hcap, hcs⟩ := h1
    simp only [Value.slice.injEq] at e1
    obtain ⟨rfl, _, rfl⟩ := e1
    obtain ⟨gb, go, rfl, hgb, hat⟩ : ∃ b o, ra = some ⟨b, o, none⟩ ∧ b < w.heap.size ∧ At cdPr w b o r := by
      rcases hcs with h | h
      · subst h; simp at hlo
      · exact h
    obtain ⟨_, c1⟩ := hat.p2 lo hlo
    have d1 := (Below.cell F2.out (World.block_lt_of_cell? _ _ c1)).trans c1
    rw [hye] at d1
    have i1 : (F : Int) < (L.length : Int) := by omega
    have i2 : (lo : Int) < (r.length : Int) := by omega
    clear hat hcs c0 c1 hcell hrow hy hye hia eg
    go_wp2_with fail
    go_ret3
    exact ⟨rfl, F2.out⟩
end Go.Proofs.Ytmemapfboefngaa
namespace Go.Proofs.Ytmemapfboefngaa
open Go.ChangeShapes Go.WideShapes Go.ChangeAt Go.RowKit Go.Shelf
set_option linter.unusedVariables false
set_option linter.unusedSimpArgs false
set_option maxRecDepth 100000
attribute [local go_sem] Oper.semAt_some
namespace TK
/-- does a pair lie between two keys? -/
def btw (lo hi : ByteArray) (p : Pr) : Bool := !(lt p.k lo) && !(lt hi p.k)
/-- what Range answers of right trees -/
def rng (lo hi : ByteArray) (l : List Pr) : List Pr := l.filter (btw lo hi)
end TK
/-- the boxes of Range -/
structure Ra (b : Nat) (lo hi : ByteArray) (W : World) : Prop where
  l : Blk W (b + 1) #[.string lo] 9
  h : Blk W (b + 2) #[.string hi] 9
theorem Ra.fr {b : Nat} {lo hi : ByteArray} {W W' : World} (h : Ra b lo hi W) (f : Fr W W') : Ra b lo hi W' := ⟨h.l.fr f, h.h.fr f⟩
namespace TK
theorem rng_snoc (lo hi : ByteArray) (l : List Pr) (p : Pr) : rng lo hi (l ++ [p]) = rng lo hi l ++ (if btw lo hi p = true then [p] else []) := by
  unfold rng
  rw [List.filter_append]
  congr 1
  by_cases h : btw lo hi p = true
  · rw [if_pos h]; simp [h]
  · rw [if_neg h]; simp [h]
theorem rng_stop {lo hi : ByteArray} {pre suf : List Pr} {ini : List Pr} {last : Pr} (h : Up (pre ++ suf)) (hp : pre = ini ++ [last]) (hl : lt hi last.k = true) : rng lo hi (pre ++ suf) = rng lo hi pre := by
  unfold rng
  rw [List.filter_append]
  have : suf.filter (btw lo hi) = [] := by
    rw [List.filter_eq_nil_iff]
    intro x hx hb
    have h1 := (List.pairwise_append.1 h).2.2 last (by rw [hp]; simp) x hx
    have h2 := lt_trans hl h1
    unfold btw at hb
    rw [h2] at hb
    simp at hb
  rw [this, List.append_nil]
end TK
/-- between two rounds of Range -/
structure RgI (w w1 : World) (A : Value) (Q : Value) (lo hi : ByteArray) (pre : List TK.Pr) (W : World) : Prop where
  bx : ∃ u, Boxed W w1.heap.size 28 u ∧ W.ownsRow w1.heap.size 38 2 u (TK.rng lo hi pre).length (flat cdPr (TK.rng lo hi pre))
  ra : Ra w.heap.size lo hi W
  bt : Blk W (w1.heap.size + 1) #[A, Q] 25
  below : Below w.heap.size w W
  size : w1.heap.size + 2 ≤ W.heap.size
theorem RgI.own {w w1 : World} {A Q : Value} {lo hi : ByteArray} {B : Nat} (hB : w.heap.size ≤ B) : OwnFrom B (fun pre W => RgI w w1 A Q lo hi pre W) := fun s X Y row hs hg hr =>
  ⟨(holdsRow_own w1.heap.size w1.heap.size 28 38 2 (fun (_ : Unit) => (TK.rng lo hi s).length) (fun _ => flat cdPr (TK.rng lo hi s)) (fun _ _ => True)) () X Y row (by obtain ⟨u, a, b⟩ := hs.bx; exact ⟨u, a, b, trivial⟩) hg (fun r e => (hr r e).2) |>.elim fun u h => ⟨u, h.1, h.2.1⟩,
   ⟨blk_own hs.ra.l hg (fun r e => (hr r e).2), blk_own hs.ra.h hg (fun r e => (hr r e).2)⟩, blk_own hs.bt hg (fun r e => (hr r e).2), hs.below.grown hg hs.below.size (fun k e => by have := (hr k e).1; omega), Nat.le_trans hs.size hg.size⟩
theorem RgI.alloc {w w1 : World} {A Q : Value} {lo hi : ByteArray} {pre : List TK.Pr} {W : World} (h : RgI w w1 A Q lo hi pre W) (o : Obj) : RgI w w1 A Q lo hi pre (W.alloc o) :=
  OwnFrom.alloc (RgI.own (B := w.heap.size) (Nat.le_refl _)) o h
set_option maxHeartbeats 1000000 in
theorem range_in (n : Nat) (hn : 3 ≤ n) (p q : Value) (L : List (List TK.Pr)) (U : List (List Int)) (lo hi : ByteArray) (w : World) (h : IsT w p q L U) (h0 : TK.chk L U = 0) (hL : L.length ≤ 9223372036854775806) (hR : ∀ r ∈ L, r.length ≤ 9223372036854775806) (hS : ∀ r ∈ L, ∀ x ∈ r, x.k.size ≤ 9223372036854775806) (hU : U.length ≤ 9223372036854775806) (hUr : ∀ u ∈ U, u.length ≤ 17592186044416) :
    CallsIn Fence.wide n Try.prog 16 #[.agg #[p, q], .string lo, .string hi] w fun e w' => ∃ u, e = .returned (.tuple #[u, .int .i64 0]) ∧ w'.ownsRow w.heap.size 38 2 u (TK.rng lo hi L.flatten).length (flat cdPr (TK.rng lo hi L.flatten)) ∧ Fr w w' := by
  have h1 : 1 ≤ n := by omega
  have HC := hideP (fun W (f : Fr w W) => tcheck_any p q L U W (h.fr f) hL hR hS hU hUr)
  rw [h0] at HC
  obtain ⟨k1, k2, k3, k4, k5⟩ := TK.chk_ok h0
  have HUp := hideP (TK.lE_up k3)
  have hR4 : ∀ r ∈ L, r.length ≤ 1000000 := fun r hr => by have := TK.lE_len k3 r hr; omega
  have HI := hideP h
  obtain ⟨pa, pc, rfl⟩ := h.l.slice
  obtain ⟨qa, qc, rfl⟩ := h.u.slice
  obtain ⟨i0, hi0, hz0, hz1, hz2⟩ := info_parts Try.infoPr
  clear h hR hS hUr k3 k4 h0
  have b0 := ((Blk.new w #[.slice pa L.length pc, .slice qa U.length qc] 25).old (.cells #[.string lo] 9)).old (.cells #[.string hi] 9)
  have b1 := (Blk.new (w.alloc (.cells #[.slice pa L.length pc, .slice qa U.length qc] 25)) #[.string lo] 9).old (.cells #[.string hi] 9)
  have b2 := Blk.new ((w.alloc (.cells #[.slice pa L.length pc, .slice qa U.length qc] 25)).alloc (.cells #[.string lo] 9)) #[.string hi] 9
  rw [World.size_alloc] at b1
  rw [World.size_alloc, World.size_alloc] at b2
  have HB := hideP b0
  have HRa := hideP (show Ra w.heap.size lo hi _ from ⟨b1, b2⟩)
  have x0 := b0.cell 0 (u := .slice pa L.length pc) rfl
  have x1 := b0.cell 1 (u := .slice qa U.length qc) rfl
  have HF0 := hideP ((((Fr.refl w).alloc (.cells #[.slice pa L.length pc, .slice qa U.length qc] 25)).alloc (.cells #[.string lo] 9)).alloc (.cells #[.string hi] 9))
  clear b0 b1 b2
  refine callsIn_of_wp_marks Try.func16 rfl trivial ?_ rfl
  simp only [Try.ntmps16, List.size_toArray, List.length_cons, List.length_nil, Nat.reduceAdd, Nat.reduceSub, Array.replicate_succ, Array.replicate_zero, List.push_toArray, List.append_toArray, List.nil_append, List.cons_append]
  gi_wp2_with fail
  refine ⟨trivial, ?_⟩
  refine (callsIn_wide.2 (HC.out _ HF0.out)).mono ?_
  rintro _ w1 ⟨rfl, f1⟩
  have HF1 := hideP (HF0.out.trans f1)
  have HB1 := hideP (HB.out.fr f1)
  have HRa1 := hideP (HRa.out.fr f1)
  have hsz1 : w.heap.size + 3 ≤ w1.heap.size := by
    have := f1.size
    simp only [World.size_alloc] at this
    omega
  clear f1 x0 x1 HC HF0 HB HRa
  have HO := hideP (Boxed.new w1 28 (.slice none 0 0))
  have x0 := (HB1.out.old (.cells #[.slice none 0 0] 28)).cell 0 (u := .slice pa L.length pc) rfl
  have x1 := (HB1.out.old (.cells #[.slice none 0 0] 28)).cell 1 (u := .slice qa U.length qc) rfl
  have HF2 := hideP (HF1.out.alloc (.cells #[.slice none 0 0] 28))
  have HRa2 := hideP (HRa1.out.fr ((Fr.refl w1).alloc (.cells #[.slice none 0 0] 28)))
  gi_wp2_with fail
  refine ⟨trivial, ?_⟩
  refine (callsIn_wide.2 (pairsT_any _ _ _)).mono ?_
  rintro _ w2 ⟨rfl, hw2⟩
  subst hw2
  clear x0 x1
  have hnil : TK.rng lo hi [] = [] := rfl
  have bt := Blk.new (w1.alloc (.cells #[.slice none 0 0] 28)) #[.slice pa L.length pc, .slice qa U.length qc] 25
  rw [World.size_alloc] at bt
  have hcT := bt.cell 0 (u := .slice pa L.length pc) rfl
  have HInit := hideP (show RgI w w1 (.slice pa L.length pc) (.slice qa U.length qc) lo hi [] ((w1.alloc (.cells #[.slice none 0 0] 28)).alloc (.cells #[.slice pa L.length pc, .slice qa U.length qc] 25)) from
    ⟨⟨_, (HO.out).alloc _, by rw [hnil]; exact World.ownsRow_nil _ _ _ _⟩, HRa2.out.fr ((Fr.refl _).alloc _), bt, HF2.out.alloc _, by simp⟩)
  have hB0 : Below w1.heap.size w1 ((w1.alloc (.cells #[.slice none 0 0] 28)).alloc (.cells #[.slice pa L.length pc, .slice qa U.length qc] 25)) := ((Below.refl _ w1).alloc (Nat.le_refl _) _).alloc (by simp) _
  have hbl : w1.heap.size + 1 < ((w1.alloc (.cells #[.slice none 0 0] 28)).alloc (.cells #[.slice pa L.length pc, .slice qa U.length qc] 25)).heap.size := by simp
  have hIw : IsLL cdPr w1 (.slice pa L.length pc) L := HI.out.l.fr HF1.out
  have hRs : ((w1.alloc (.cells #[.slice none 0 0] 28)).alloc (.cells #[.slice pa L.length pc, .slice qa U.length qc] 25)).heap.size = w1.heap.size + 2 := by simp
  have hww : w.heap.size ≤ w1.heap.size := HF1.out.size
  gi_wp2_with fail
  refine wpIn_rangeFunc_ownH rfl h1 (gf := 49) (lb := #[.pointer (some ⟨w1.heap.size + 1, 0, none⟩)]) rfl trivial (enters_of Try.func49 (by kernel_rfl) rfl)
    (pairsT_stops (n - 1) (by omega) (w1.heap.size + 1) w1.heap.size (.slice pa L.length pc) w1 L (by omega) hR4 _ hB0.size hB0 rfl hcT hIw) k1_t (k1_b (w := (w1.alloc (.cells #[.slice none 0 0] 28)).alloc (.cells #[.slice pa L.length pc, .slice qa U.length qc] 25)) hB0.size hbl) (Below.refl _ _) (fun _ => rfl)
    (fun pre W => RgI w w1 (.slice pa L.length pc) (.slice qa U.length qc) lo hi pre W)
    (fun c pre W => c = .exit 0 ∧ RgI w w1 (.slice pa L.length pc) (.slice qa U.length qc) lo hi pre W ∧ ∃ (ini : List TK.Pr) (last : TK.Pr), pre = ini ++ [last] ∧ TK.lt hi last.k = true)
    (RgI.own (by rw [hRs]; omega))
    (fun c s A B row hs hg hr => ⟨hs.1, RgI.own (B := w1.heap.size + 2) (by omega) s A B row hs.2.1 hg (fun r e => ⟨by have := (hr r e).1; rw [hRs] at this; exact this, (hr r e).2⟩), hs.2.2⟩)
    HInit.out
    (fun x a' W => ∃ Bx, Blk W Bx #[.string x.k, .int .i64 x.n] 38 ∧ a' = { tmps := #[.agg #[.slice pa L.length pc, .slice qa U.length qc], .string lo, .string hi, .pointer (some ⟨w.heap.size, 0, none⟩), .pointer (some ⟨w.heap.size + 1, 0, none⟩), .pointer (some ⟨w.heap.size + 1 + 1, 0, none⟩), .slice none 0 0, .int .i64 0, .int .i64 0, .pointer (some ⟨w1.heap.size, 0, none⟩), .pointer (some ⟨Bx, 0, none⟩), .agg #[.slice pa L.length pc, .slice qa U.length qc], .int .i64 0, .int .i64 0, .bool false, undef, .agg #[.slice pa L.length pc, .slice qa U.length qc], .func (.func 49) #[] #[.pointer (some ⟨w1.heap.size + 1, 0, none⟩)], .agg #[.string x.k, .int .i64 x.n], undef, undef, undef, undef, undef, undef, undef, undef, undef, undef, undef, undef, undef], defers := [] })
    (fun x a' _ X Y row hs hg hr => by obtain ⟨Bx, e2, e3⟩ := hs; exact ⟨Bx, blk_own e2 hg (fun r e => (hr r e).2), e3⟩)
    ?assign ?body ?done ?stop
  case assign =>
    rintro l pre ⟨xk, xn⟩ W K hI hK
    simp only [ptV]
    have hsz := hI.size
    gi_wp2
    exact hK _ _ ((KeepsOthers.alloc _ _).from _) (k1_alloc (K1.refl _ _ _) (by omega) (by omega) (Nat.le_refl _) _) (hI.alloc _) ⟨W.heap.size, Blk.new W _ _, rfl⟩
  case body =>
    rintro l pre ⟨xk, xn⟩ a' W hl _ hI ⟨Bx, bX, rfl⟩ hlt
    obtain ⟨u, hu, hrow⟩ := hI.bx
    have hc := hu.cell
    have d0 := bX.cell 0 (u := .string xk) rfl
    have d1 := bX.cell 1 (u := .int .i64 xn) rfl
    have r1 := hI.ra.l.cell 0 (u := .string lo) rfl
    have r2 := hI.ra.h.cell 0 (u := .string hi) rfl
    have HI := hideP hI
    have hG1 : (!(Op.bytesLess xk.toList hi.toList) && !(xk.toList == hi.toList)) = TK.lt hi xk := TK.gt_lt xk hi
    have hG2 : Op.bytesLess xk.toList lo.toList = TK.lt xk lo := rfl
    have hlen : (TK.rng lo hi pre).length ≤ pre.length := by unfold TK.rng; exact List.length_filter_le _ _
    have hsn := TK.rng_snoc lo hi pre ⟨xk, xn⟩
    have HSn := hideP hsn
    clear bX hI hsn
    cases hb : TK.lt hi xk with
    | true =>
      rw [hb] at hG1
      have hno : TK.rng lo hi (pre ++ [⟨xk, xn⟩]) = TK.rng lo hi pre := by
        rw [HSn.out, if_neg (by unfold TK.btw; simp [hb]), List.append_nil]
      clear hG2
      gi_wp2_with fail
      exact ⟨KeepsFrom.refl _ _, rfl, ⟨⟨u, hu, by rw [hno]; exact hrow⟩, HI.out.ra, HI.out.bt, HI.out.below, HI.out.size⟩, pre, ⟨xk, xn⟩, rfl, hb⟩
    | false =>
      rw [hb] at hG1
      cases hc2 : TK.lt xk lo with
      | true =>
        rw [hc2] at hG2
        have hno : TK.rng lo hi (pre ++ [⟨xk, xn⟩]) = TK.rng lo hi pre := by
          rw [HSn.out, if_neg (by unfold TK.btw; simp [hc2]), List.append_nil]
        gi_wp2_with fail
        exact ⟨KeepsFrom.refl _ _, K1.refl _ _ _, ⟨⟨u, hu, by rw [hno]; exact hrow⟩, HI.out.ra, HI.out.bt, HI.out.below, HI.out.size⟩⟩
      | false =>
        rw [hc2] at hG2
        have hyes : TK.rng lo hi (pre ++ [⟨xk, xn⟩]) = TK.rng lo hi pre ++ [⟨xk, xn⟩] := by
          rw [HSn.out, if_pos (by unfold TK.btw; simp [hb, hc2])]
        have hsz := HI.out.size
        have hbt := HI.out.bt
        gi_wp2_with (gi_at_builtin; refine wpListIn_append_own _ rfl _ _ 28 rfl w1.heap.size 38 i0 (.agg #[.string ⟨#[]⟩, .int .i64 0]) 2 24 Try.underlying28 hi0 hz0 hz1 hz2 rfl (by decide) _ _ _ rfl (hrow.alloc _) ⟨W.heap.size, 0, none⟩ 1 1 [.string xk, .int .i64 xn] rfl rfl (cell_two_new _ _ _ _) (by simp [Value.oneCell']) (by unfold maxLen; omega) (by omega) (by simp; omega) ?_; intro v' w9 hown' hgrow _; obtain ⟨g', cap', rfl⟩ := ownsRow_succ hown'; obtain ⟨hv1, hv2, hr2, hk2, hb2⟩ := hu.appended (by decide) hrow (by omega) (Nat.le_refl _) hown' hgrow; have hc1 := hv1.cell; have hf1 := hv1.frozen; have hbt2 := (hbt.old (.cells #[.string xk, .int .i64 xn] 38)).grown hgrow (by intro e; obtain ⟨cur, hcur⟩ := own_block hrow _ e; unfold Blk at hbt; rw [hbt] at hcur; simp only [Option.some.injEq, Obj.cells.injEq] at hcur; exact absurd hcur.2.1 (by decide)))
        have hbt3 := hbt2.other (b' := w1.heap.size) (by omega) 0 (.slice (some ⟨g', 0, none⟩) ((TK.rng lo hi pre).length + 1) cap')
        refine ⟨hk2.from _, ⟨hb2, hbt3.trans hbt.symm⟩, ⟨⟨_, hv2, by rw [hyes, flat_snoc, List.length_append]; exact hr2⟩, ?_, hbt3, HI.out.below.trans (Below.mono hb2 (by omega)), ?_⟩⟩
        · have h1 := HI.out.ra.l.lt
          exact ⟨(hb2.block (w.heap.size + 1) (by omega)).trans HI.out.ra.l, (hb2.block (w.heap.size + 2) (by omega)).trans HI.out.ra.h⟩
        · have := hb2.size; omega
  case done =>
    rintro D ys W hD rfl hI hK
    obtain ⟨u, hu, hrow⟩ := hI.bx
    have hc := hu.cell
    gi_wp2
    refine ⟨by simp, .inl ⟨_, _, rfl, run_takeDeferred hK, ?_⟩⟩
    refine ⟨.tuple #[u, .int .i64 0], ?_, u, rfl, own_low (ownsRow_putObj hrow _ hK rfl) (by omega), hI.below.trans (belowK_b (w := w) (Nat.le_refl _) W D _ _ (by omega) hK rfl rfl)⟩
    simp [results, Try.results16, go_sem]
  case stop =>
    rintro D c pre W hD ⟨suf, hsuf⟩ ⟨rfl, hI, ini, last, hp, hlast⟩ hK
    have hr : TK.rng lo hi L.flatten = TK.rng lo hi pre := by
      rw [← hsuf]
      exact TK.rng_stop (by rw [hsuf]; exact HUp.out.1) hp hlast
    obtain ⟨u, hu, hrow⟩ := hI.bx
    rw [← hr] at hrow
    have hc := hu.cell
    gi_wp2
    refine ⟨by simp, .inl ⟨_, _, rfl, run_takeDeferred hK, ?_⟩⟩
    refine ⟨.tuple #[u, .int .i64 0], ?_, u, rfl, own_low (ownsRow_putObj hrow _ hK rfl) (by omega), hI.below.trans (belowK_b (w := w) (Nat.le_refl _) W D _ _ (by omega) hK rfl rfl)⟩
    simp [results, Try.results16, go_sem]
end Go.Proofs.Ytmemapfboefngaa
namespace Go.Proofs.Ytmemapfboefngaa
open Go.ChangeShapes Go.WideShapes Go.ChangeAt Go.RowKit Go.Shelf
set_option linter.unusedVariables false
set_option linter.unusedSimpArgs false
set_option maxRecDepth 100000
set_option maxHeartbeats 2000000
/-- what Range answers -/
def RgAns (lo hi : ByteArray) (L : List (List TK.Pr)) (U : List (List Int)) (w : World) (e : Ending) (w' : World) : Prop :=
  (TK.chk L U ≠ 0 ∧ e = .returned (.tuple #[.slice none 0 0, .int .i64 ((TK.chk L U : Nat) : Int)])) ∨ (TK.chk L U = 0 ∧ ∃ u, e = .returned (.tuple #[u, .int .i64 0]) ∧ w'.ownsRow w.heap.size 38 2 u (TK.rng lo hi L.flatten).length (flat cdPr (TK.rng lo hi L.flatten)))
theorem range_any (p q : Value) (L : List (List TK.Pr)) (U : List (List Int)) (lo hi : ByteArray) (w : World) (h : IsT w p q L U) (hL : L.length ≤ 9223372036854775806) (hR : ∀ r ∈ L, r.length ≤ 9223372036854775806) (hS : ∀ r ∈ L, ∀ x ∈ r, x.k.size ≤ 9223372036854775806) (hU : U.length ≤ 9223372036854775806) (hUr : ∀ u ∈ U, u.length ≤ 17592186044416) :
    Calls Try.prog 16 #[.agg #[p, q], .string lo, .string hi] w fun e w' => RgAns lo hi L U w e w' ∧ Fr w w' := by
  by_cases h0 : TK.chk L U = 0
  · exact Calls.mono (callsIn_wide.1 (range_in 3 (Nat.le_refl _) p q L U lo hi w h h0 hL hR hS hU hUr)) fun e w' ⟨u, h1, h2, h3⟩ => ⟨.inr ⟨h0, u, h1, h2⟩, h3⟩
  · have HC := hideP (fun W (f : Fr w W) => tcheck_any p q L U W (h.fr f) hL hR hS hU hUr)
    unfold RgAns
    obtain ⟨pa, pc, rfl⟩ := h.l.slice
    obtain ⟨qa, qc, rfl⟩ := h.u.slice
    have b0 := ((Blk.new w #[.slice pa L.length pc, .slice qa U.length qc] 25).old (.cells #[.string lo] 9)).old (.cells #[.string hi] 9)
    have x0 := b0.cell 0 (u := .slice pa L.length pc) rfl
    have x1 := b0.cell 1 (u := .slice qa U.length qc) rfl
    have HF0 := hideP ((((Fr.refl w).alloc (.cells #[.slice pa L.length pc, .slice qa U.length qc] 25)).alloc (.cells #[.string lo] 9)).alloc (.cells #[.string hi] 9))
    clear h b0 hR hS hUr
    generalize TK.chk L U = z at *
    have g1 : ((z : Int) != 0) = true := by simp; omega
    have g2 : ¬ ((z : Int) = 0) := by omega
    refine (callsIn_wide (n := 3)).1 ?_
    refine callsIn_of_wp_marks Try.func16 rfl trivial ?_ rfl
    simp only [Try.ntmps16, List.size_toArray, List.length_cons, List.length_nil, Nat.reduceAdd, Nat.reduceSub, Array.replicate_succ, Array.replicate_zero, List.push_toArray, List.append_toArray, List.nil_append, List.cons_append]
    gi_wp2_with fail
    refine ⟨trivial, ?_⟩
    refine (callsIn_wide.2 (HC.out _ HF0.out)).mono ?_
    rintro _ w1 ⟨rfl, f1⟩
    have F1 := hideP (HF0.out.trans f1)
    clear f1 x0 x1
    gi_wp2_with fail
    refine ⟨.tuple #[.slice none 0 0, .int .i64 (z : Int)], ?_, .inl ⟨h0, rfl⟩, F1.out⟩
    simp [results, Try.results16, go_sem]
end Go.Proofs.Ytmemapfboefngaa
