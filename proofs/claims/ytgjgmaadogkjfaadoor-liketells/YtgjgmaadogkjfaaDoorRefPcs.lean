/-
  The document's pieces of a text, and its check of a pattern.
-/
import Derived.Test.YtgjgmaadogkjfaaDoorRefLen
import Derived.Test.YtgjgmaadogkjfaaDoorLkEsc
namespace Go.Proofs.YtgjgmaadogkjfaaDoor
open Go.ChangeShapes Go.WideShapes Go.ChangeAt Go.RowKit Go.Shelf
set_option linter.unusedVariables false

def szOf : Value → Nat
  | .string s => s.size
  | _ => 0

set_option maxRecDepth 100000 in
set_option maxHeartbeats 2000000 in
theorem piecesOf_any (S : ByteArray) (w : World) (hS : S.size ≤ 4194304) :
    Calls Tryd.prog 17 #[.string S] w fun e W' => ∃ v, e = .returned v ∧ IsTx W' v (LK.pc S.data.toList) ∧ Fr w W' := by
  obtain ⟨i0, hi, hz0, hz1, hz2⟩ := info_parts Tryd.infoStr
  go_enter Tryd.func17, Tryd.ntmps17
  go_wp2
  go_loopw [0, 3] (fun sv ov wr => ∃ (r : ByteArray) (pre : List LK.Bs), sv = .string r ∧ LK.pc S.data.toList = pre ++ LK.pc r.data.toList ∧ r.size + pre.length ≤ S.size ∧ wr.ownsRow w.heap.size 9 1 ov pre.length (strV pre) ∧ Below w.heap.size w wr) (fun sv _ _ => szOf sv)
  case atStart => exact ⟨S, [], rfl, rfl, by simp, World.ownsRow_nil _ _ _ _, Below.refl _ _⟩
  case round =>
    obtain ⟨r, pre, rfl, hx, hsz, hrow, hB⟩ := hrel
    have hrl : r.data.toList.length = r.size := by rw [Array.length_toList]; rfl
    by_cases h0 : 0 < r.size
    · have h0Z : (0 : Int) < (r.size : Int) := by omega
      have hne : r.data.toList ≠ [] := by intro e; rw [e] at hrl; simp at hrl; omega
      have hll := letterLen_any r wr
      obtain ⟨k, hk⟩ : ∃ k, LK.sz r.data.toList = k := ⟨_, rfl⟩
      rw [hk] at hll
      have hll2 := Calls.mono hll (R' := fun e w' => e = .returned (.int .i64 k) ∧ wr = w') (fun e w' h => ⟨h.1, h.2.symm⟩)
      clear hll
      have k1 : 1 ≤ k := by rw [← hk]; exact LK.sz_pos _
      have k2 : k ≤ r.size := by
        have := LK.sz_len hne
        rw [hk] at this
        omega
      have k2Z : (k : Int) ≤ (r.size : Int) := by omega
      have HX : Hid (LK.pc S.data.toList = (pre ++ [r.data.toList.take k]) ++ LK.pc (r.extract k r.size).data.toList) := by
        unfold Hid
        rw [hx, LK.pc_cons hne, hk, rest_list r k k2]
        simp
      have hext : r.extract 0 k = ⟨(r.data.toList.take k).toArray⟩ := by
        have := ext_list r 0 k (by omega)
        simpa using this
      have HE : Hid _ := hext
      have hes : (r.extract k r.size).size = r.size - k := by rw [ByteArray.size_extract]; omega
      have HES : Hid _ := hes
      have HL : Hid _ := hrl
      clear hx hext hk hne hes hrl
      go_wp2_with (first | (go_at_call 31; refine hll2.mono ?_; rintro _ _ ⟨rfl, rfl⟩) | (at_builtin; refine wpList_append_own _ rfl _ _ 28 rfl w.heap.size 9 i0 (.string ⟨#[]⟩) 1 16 Tryd.underlying28 hi hz0 hz1 hz2 rfl (by decide) _ _ _ rfl (hrow.alloc _) ⟨wr.heap.size, 0, none⟩ 1 1 [.string (r.extract 0 k)] rfl rfl ?c1 ?c2 ?c3 ?c4 ?c5 ?_))
      case c1 => exact cell_one_new _ _ _
      case c2 => intro u hu; simp at hu; subst hu; rfl
      case c3 => unfold maxLen; omega
      case c4 => omega
      case c5 => have := hB.size; simp; omega
      intro v' w2 hown' hgrow _
      obtain ⟨g', cap', rfl⟩ := ownsRow_succ hown'
      have hB2 : Below w.heap.size w w2 := (hB.alloc hB.size _).grown hgrow (by have := hB.size; simp; omega) (fun j ej => (hrow.lt j ej).1)
      have HO : Hid (w2.ownsRow w.heap.size 9 1 (.slice (some ⟨g', 0, none⟩) (pre.length + 1) cap') (pre ++ [r.data.toList.take k]).length (strV (pre ++ [r.data.toList.take k]))) := by
        unfold Hid
        rw [HE.out] at hown'
        rw [List.length_append, show strV (pre ++ [r.data.toList.take k]) = strV pre ++ [.string ⟨(r.data.toList.take k).toArray⟩] by simp [strV, sv]]
        exact hown'
      clear hown' hgrow hrow
      go_wp2
      go_roundw
      case rel => exact ⟨_, pre ++ [r.data.toList.take k], rfl, HX.out, by rw [HES.out]; simp; omega, HO.out, hB2⟩
      case measure =>
        show (r.extract k r.size).size < r.size
        rw [HES.out]; omega
    · have h0Z : ¬ (0 : Int) < (r.size : Int) := by omega
      have hr : r.data.toList = [] := List.eq_nil_of_length_eq_zero (by omega)
      have HX : Hid (LK.pc S.data.toList = pre) := by unfold Hid; rw [hx, hr, LK.pc_nil, List.append_nil]
      have HR : Hid _ := hrow
      clear hx hr hrow
      go_wp2
      go_ret
      exact ⟨_, rfl, by rw [HX.out]; exact tx_of_own HR.out, hB⟩

theorem kd_esc (x : LK.Bs) (hx : LK.pc x = [x]) : LK.kd x = 92 ↔ x = [92] := by
  constructor
  · intro h
    cases x with
    | nil => cases h
    | cons b r =>
      have hb : b.toNat = 92 := by
        unfold LK.kd at h
        simp only at h
        split at h
        · cases h
        · split at h
          · cases h
          · split at h
            · assumption
            · cases h
      have hb2 : b = 92 := UInt8.toNat_inj.1 hb
      subst hb2
      rw [LK.pc_low 92 r (by decide)] at hx
      simp only [List.cons.injEq] at hx
      rw [← hx.1.2]
  · intro h; subst h; rfl

/-- is an escape open behind pieces? -/
def opn (l : List LK.Bs) : Bool := l.foldl (fun o x => !o && x == [92]) false
theorem opn_snoc (l : List LK.Bs) (x : LK.Bs) : opn (l ++ [x]) = (!opn l && x == [92]) := by simp [opn]

set_option maxRecDepth 100000 in
set_option maxHeartbeats 2000000 in
theorem patternEnds_any (v : Value) (l : List LK.Bs) (w : World) (hv : IsTx w v l) (hl : l.length ≤ 9223372036854775807) :
    Calls Tryd.prog 24 #[v] w fun e w' => e = .returned (.bool (opn l)) ∧ w' = w := by
  obtain ⟨a, cap, rfl, hcap, hcu⟩ := hv
  have HU : Hid _ := hcu
  clear hcu
  go_enter Tryd.func24, Tryd.ntmps24
  go_wp2
  go_loop [3, 4] (fun ov iv => ∃ i : Nat, iv = .int .i64 i ∧ i ≤ l.length ∧ ov = .bool (opn (l.take i))) (fun _ iv => l.length - (intOf iv).toNat)
  case atStart => exact ⟨0, rfl, Nat.zero_le _, rfl⟩
  case round =>
    obtain ⟨i, rfl, hi, rfl⟩ := hrel
    by_cases hlt : i < l.length
    · have hltZ : (i : Int) < (l.length : Int) := by omega
      obtain ⟨x, hx⟩ : ∃ x, l[i]? = some x := ⟨l[i], List.getElem?_eq_getElem hlt⟩
      obtain ⟨b, rfl, hb, hc⟩ : ∃ b, a = some ⟨b, 0, none⟩ ∧ b < w.heap.size ∧ ∀ i x, l[i]? = some x → w.cell? ⟨b, i, none⟩ = some (sv x) := by
        rcases HU.out with h | h
        · rw [h] at hlt; simp at hlt
        · exact h
      have c0 := hc i x hx
      have hst : opn (l.take (i + 1)) = (!opn (l.take i) && x == [92]) := by
        rw [List.take_add_one, hx]
        exact opn_snoc _ _
      have HST : Hid _ := hst
      clear hst hc hx
      unfold sv at c0
      have hq : ((⟨x.toArray⟩ : ByteArray).toList == (⟨#[92]⟩ : ByteArray).toList) = (x == [92]) := by
        rw [Lib.toList_data, Lib.toList_data]
      have hm1 : l.length - (i + 1) < l.length - i := by omega
      generalize opn (l.take i) = o at HST ⊢
      generalize (⟨x.toArray⟩ : ByteArray) = sx at c0 hq
      generalize (x == [92]) = y at HST hq
      have q2 : ∀ t, (⟨#[92]⟩ : ByteArray).toList = t → (sx.toList == t) = y := fun t ht => by rw [← ht]; exact hq
      cases o
      · cases y
        · go_wp2
          go_round
          case rel => exact ⟨i + 1, by simp, hlt, by rw [HST.out]; rfl⟩
          case measure => simpa [intOf] using hm1
        · go_wp2
          go_round
          case rel => exact ⟨i + 1, by simp, hlt, by rw [HST.out]; rfl⟩
          case measure => simpa [intOf] using hm1
      · go_wp2
        go_round
        case rel => exact ⟨i + 1, by simp, hlt, by rw [HST.out]; rfl⟩
        case measure => simpa [intOf] using hm1
    · have hltZ : ¬ (i : Int) < (l.length : Int) := by omega
      have he : l.take i = l := List.take_of_length_le (by omega)
      rw [he]
      go_wp2
      go_ret
      exact ⟨rfl, rfl⟩

/-- it is open just if the code's own walk says so -/
theorem opn_run (l : List LK.Bs) (h : ∀ x ∈ l, LK.pc x = [x]) : opn l = (LK.run l).1 := by
  have key : ∀ (l : List LK.Bs) (o : Bool) (ps : List LK.Part), (∀ x ∈ l, LK.pc x = [x]) → l.foldl (fun o x => !o && x == [92]) o = (l.foldl LK.step (o, ps)).1 := by
    intro l
    induction l with
    | nil => intro o ps _; rfl
    | cons x l ih =>
      intro o ps hl
      have hx := hl x List.mem_cons_self
      have hl' : ∀ y ∈ l, LK.pc y = [y] := fun y hy => hl y (List.mem_cons_of_mem _ hy)
      have e : (LK.kdE o x = 92) ↔ (!o && x == [92]) = true := by
        cases o with
        | true => simp [LK.kdE]
        | false => simpa [LK.kdE] using kd_esc x hx
      rw [List.foldl_cons, List.foldl_cons]
      by_cases h92 : LK.kdE o x = 92
      · rw [e.1 h92, show LK.step (o, ps) x = (true, ps) by simp [LK.step, h92]]
        exact ih true ps hl'
      · have hf : (!o && x == [92]) = false := by
          cases hq : (!o && x == [92]) with
          | false => rfl
          | true => exact absurd (e.2 hq) h92
        rw [hf, show LK.step (o, ps) x = (false, ps ++ [(LK.kdE o x, x)]) by simp [LK.step, h92]]
        exact ih false _ hl'
  exact key l false [] h

set_option maxHeartbeats 1000000 in
theorem patternCheck_any (S : ByteArray) (w : World) (hb : S.size ≤ 9223372036854775807) :
    Calls Tryd.prog 11 #[.string S] w fun e w' => e = .returned (.int .i64 (perr S)) ∧ Fr w w' := by
  by_cases h32 : 32 < S.size
  · have hz : (32 : Int) < (S.size : Int) := by omega
    have hpe : perr S = 2 := by unfold perr; rw [if_pos h32]
    rw [hpe]
    go_enter Tryd.func11, Tryd.ntmps11
    go_wp2
    go_ret
    exact ⟨rfl, Fr.refl _⟩
  · have hz : ¬ (32 : Int) < (S.size : Int) := by omega
    have hpo := piecesOf_any S w (by omega)
    have hlen : (LK.pc S.data.toList).length ≤ 32 := by
      have h1 := LK.pc_len S.data.toList
      have h2 : S.data.toList.length = S.size := by rw [Array.length_toList]; rfl
      omega
    have hop : opn (LK.pc S.data.toList) = (LK.run (LK.pc S.data.toList)).1 := opn_run _ fun x hx => (LK.pc_one hx).1
    cases hr : (LK.run (LK.pc S.data.toList)).1 with
    | true =>
      have hpe : perr S = 1 := by unfold perr; rw [if_neg h32, if_pos hr]
      rw [hpe]
      rw [hr] at hop
      go_enter Tryd.func11, Tryd.ntmps11
      go_wp2_with fail
      refine hpo.mono ?_
      rintro _ w1 ⟨v, rfl, htx, f1⟩
      have hpn := patternEnds_any v _ w1 htx (by omega)
      rw [hop] at hpn
      clear hpo htx
      go_wp2_with fail
      refine hpn.mono ?_
      rintro _ _ ⟨rfl, rfl⟩
      clear hpn
      go_wp2
      go_ret
      exact ⟨rfl, f1⟩
    | false =>
      have hpe : perr S = 0 := by unfold perr; rw [if_neg h32, if_neg (by rw [hr]; decide)]
      rw [hpe]
      rw [hr] at hop
      go_enter Tryd.func11, Tryd.ntmps11
      go_wp2_with fail
      refine hpo.mono ?_
      rintro _ w1 ⟨v, rfl, htx, f1⟩
      have hpn := patternEnds_any v _ w1 htx (by omega)
      rw [hop] at hpn
      clear hpo htx
      go_wp2_with fail
      refine hpn.mono ?_
      rintro _ _ ⟨rfl, rfl⟩
      clear hpn
      go_wp2
      go_ret
      exact ⟨rfl, f1⟩

/-- are all bytes below 128? -/
def asc (S : ByteArray) : Bool := S.data.toList.all fun b => decide (b.toNat < 128)

set_option maxRecDepth 100000 in
set_option maxHeartbeats 1000000 in
theorem ascii_any (S : ByteArray) (w : World) (hb : S.size ≤ 9223372036854775807) :
    Calls Tryd.prog 21 #[.string S] w fun e w' => e = .returned (.bool (asc S)) ∧ w' = w := by
  have hsl : S.data.toList.length = S.size := by rw [Array.length_toList]; rfl
  have HSL : Hid _ := hsl
  clear hsl
  go_enter Tryd.func21, Tryd.ntmps21
  go_wp2
  go_loop [3] (fun iv => ∃ i : Nat, iv = .int .i64 i ∧ i ≤ S.size ∧ asc S = (S.data.toList.drop i).all fun b => decide (b.toNat < 128)) (fun iv => S.size - (intOf iv).toNat)
  case atStart => exact ⟨0, rfl, Nat.zero_le _, rfl⟩
  case round =>
    obtain ⟨i, rfl, hi, hall⟩ := hrel
    have HA : Hid _ := hall
    clear hall
    by_cases hlt : i < S.size
    · have hltZ : (i : Int) < (S.size : Int) := by omega
      have hd : S.data.toList.drop i = S[i] :: S.data.toList.drop (i + 1) := LK.drop_at (byte_at S i hlt)
      have HD : Hid (asc S = (decide (S[i].toNat < 128) && (S.data.toList.drop (i + 1)).all fun b => decide (b.toNat < 128))) := by
        unfold Hid
        rw [HA.out, hd, List.all_cons]
      have hm1 : S.size - (i + 1) < S.size - i := by omega
      clear hd HA
      by_cases h128 : S[i].toNat < 128
      · have hz : ¬ ((128 : Int) ≤ (S[i].toNat : Int)) := by omega
        have hq : decide (S[i].toNat < 128) = true := by simp [h128]
        rw [hq] at HD
        go_wp2
        go_round
        case rel => exact ⟨i + 1, by simp, hlt, by rw [HD.out]; rfl⟩
        case measure => simpa [intOf] using hm1
      · have hz : (128 : Int) ≤ (S[i].toNat : Int) := by omega
        have hq : decide (S[i].toNat < 128) = false := by simp [h128]
        rw [hq] at HD
        go_wp2
        go_ret
        exact ⟨by rw [HD.out]; rfl, rfl⟩
    · have hltZ : ¬ (i : Int) < (S.size : Int) := by omega
      have HD : Hid (asc S = true) := by
        unfold Hid
        rw [HA.out, List.drop_eq_nil_of_le (by have := HSL.out; omega)]
        rfl
      clear HA
      go_wp2
      go_ret
      exact ⟨by rw [HD.out]; rfl, rfl⟩
end Go.Proofs.YtgjgmaadogkjfaaDoor
