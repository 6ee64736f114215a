/-
  The reader of package record: the row of a key.
-/
import Derived.Test.YtpalikdnpchdeaaKVal
namespace Go.Proofs.Ytpalikdnpchdeaa
open Go.ChangeShapes Go.WideShapes Go.ChangeAt Go.RowKit
set_option linter.unusedVariables false
set_option linter.unusedSimpArgs false

def rowV (l : List VM.Vl) : List Value := l.flatMap fun x => [.int .i64 x.k, .int .i64 x.n, .string x.s]
theorem rowV_snoc (l : List VM.Vl) (x : VM.Vl) : rowV (l ++ [x]) = rowV l ++ [.int .i64 x.k, .int .i64 x.n, .string x.s] := by simp [rowV]
theorem rowV_len (l : List VM.Vl) : (rowV l).length = l.length * 3 := by
  induction l with
  | nil => rfl
  | cons a t ih =>
    simp only [rowV, List.flatMap_cons, List.length_append, List.length_cons, List.length_nil] at *
    omega
theorem rowV_get (l : List VM.Vl) (i : Nat) (h : i < l.length) : (rowV l)[i * 3]? = some (.int .i64 l[i].k) ∧ (rowV l)[i * 3 + 1]? = some (.int .i64 l[i].n) ∧ (rowV l)[i * 3 + 2]? = some (.string l[i].s) := by
  induction l generalizing i with
  | nil => simp at h
  | cons a t ih =>
    cases i with
    | zero => simp [rowV]
    | succ i =>
      have := ih i (by simpa using h)
      have e : rowV (a :: t) = .int .i64 a.k :: .int .i64 a.n :: .string a.s :: rowV t := by simp [rowV]
      rw [e, show (i + 1) * 3 = i * 3 + 1 + 1 + 1 by omega]
      simpa using this

/-- a row of values that the call owns -/
abbrev Ov (B : Nat) (v : Value) (l : List VM.Vl) (w : World) : Prop := w.ownsRow B 52 3 v l.length (rowV l)
theorem Ov.keep {B : Nat} {v : Value} {l : List VM.Vl} {w w' : World} (h : Ov B v l w) (hk : ∀ k, B ≤ k → k < w.heap.size → w'.heap[k]? = w.heap[k]?) : Ov B v l w' := by
  refine ⟨h.1, ?_⟩
  rcases h.2 with h0 | ⟨g, cap, cur, h1, h2, h3, h4⟩
  · exact Or.inl h0
  · exact Or.inr ⟨g, cap, cur, h1, h2, (hk g h2 (Array.getElem?_eq_some_iff.1 h3).1).trans h3, h4⟩
theorem Ov.row {B : Nat} {v : Value} {l : List VM.Vl} {w : World} (h : Ov B v l w) : IsRowB B w v l := by
  rcases h.2 with ⟨rfl, h0⟩ | ⟨g, cap, cur, rfl, h2, h3, h4, h5, h6, h7⟩
  · have := List.length_eq_zero_iff.1 h0
    subst this
    exact ⟨none, 0, rfl, Or.inl rfl⟩
  · refine ⟨_, cap, rfl, Or.inr ⟨g, 0, rfl, h2, (Array.getElem?_eq_some_iff.1 h3).1, ?_⟩⟩
    intro i hi
    obtain ⟨a, b, c⟩ := rowV_get l i hi
    have key : ∀ j u, (rowV l)[j]? = some u → w.cell? ⟨g, 0 + j, none⟩ = some u := by
      intro j u hu
      rw [Nat.zero_add, Lib.cell_of_heap h3]
      rw [← h7, List.getElem?_take] at hu
      split at hu
      · rw [← hu, Array.getElem?_toList]
      · cases hu
    exact ⟨key _ _ a, key _ _ b, key _ _ c⟩

set_option maxRecDepth 100000 in
set_option maxHeartbeats 2000000 in
theorem keyRow_any (r : Nat) (l : List UInt8) (w : World) (h : RdAt w r l) (hl : l.length ≤ 140737488351232) :
    Calls Try.prog 47 #[.pointer (some ⟨r, 0, none⟩)] w (Gv r w (KR.kr 8 l) fun xs e w' => ∃ v, e = .returned v ∧ IsRowB w.heap.size w' v xs) := by
  have hrl := h.lt
  obtain ⟨i0, hi0, hz0, hz1, hz2⟩ := info_parts Try.infoVal
  have HR : Hid _ := h
  clear h
  generalize hX : KR.kr 8 l = X
  have HX : Hid _ := hX
  clear hX
  go_enter Try.func47, Try.ntmps47
  go_wp2_with fail
  go_loopg [3] 8 (fun k v wr => ∃ (xs : List VM.Vl) (u : List UInt8), xs.length + k = 8 ∧ u.length ≤ l.length ∧ X = RM.pre xs (KR.kr k u) ∧ RdAt wr r u ∧ Mv r w wr ∧ Ov w.heap.size v xs wr)
  case atStart => exact ⟨[], l, rfl, Nat.le_refl _, by rw [RM.pre_nil]; exact HX.out.symm, HR.out, Mv.refl _ _, World.ownsRow_nil _ _ _ _⟩
  case round =>
    obtain ⟨xs, u, hk, hul, hx, hra, hmv, hown⟩ := hrel
    have hsz : w.heap.size ≤ wr.heap.size := hmv.size
    clear HX HR
    have hc := hra.cell
    cases u with
    | nil =>
      rw [KR.kr_nil] at hx
      have HXX : Hid (X = .ok (xs, [])) := by unfold Hid; rw [hx]; unfold RM.pre; simp
      have HRA : Hid _ := hra
      have HMV : Hid _ := hmv
      have HRW : Hid _ := Ov.row hown
      clear hra hmv hown hx
      go_wp2_with fail
      go_ret
      rw [HXX.out]
      exact ⟨⟨_, rfl, HRW.out⟩, HRA.out, HMV.out⟩
    | cons b t =>
      have hne : (⟨(b :: t).toArray⟩ : ByteArray).size ≠ 0 := by rw [mk_size]; simp
      have g1 : ((⟨(b :: t).toArray⟩ : ByteArray).toList == []) = false := by simp only [beq_eq_false_iff_ne, ne_eq, toList_nil]; exact hne
      have g2 : ((⟨(b :: t).toArray⟩ : ByteArray).toList != []) = true := by simp only [bne_iff_ne, ne_eq, toList_nil]; exact hne
      have g3 : ¬ (⟨(b :: t).toArray⟩ : ByteArray).toList = [] := by rw [toList_nil]; exact hne
      obtain ⟨av, cap, rfl⟩ : ∃ a cap, u3 = .slice a xs.length cap := by
        rcases hown.2 with ⟨hv, h0⟩ | ⟨g, cap, cur, hv, _⟩
        · exact ⟨none, 0, by rw [hv, h0]⟩
        · exact ⟨_, cap, hv⟩
      cases gk with
      | zero =>
        have h8 : xs.length = 8 := by omega
        have HXX : Hid (X = .error 2) := by rw [hx]; rfl
        have h8' : (((xs.length : Nat) : Int) == 8) = true := by simp [h8]
        have h8'' : (xs.length : Int) = 8 := by omega
        have HMV : Hid _ := hmv
        generalize (⟨(b :: t).toArray⟩ : ByteArray) = s at *
        clear hra hmv hown hx h8
        go_wp2_with fail
        rw [HXX.out]
        exact ⟨rfl, rfl, HMV.out⟩
      | succ k =>
        have h8 : xs.length < 8 := by omega
        have h8' : (((xs.length : Nat) : Int) == 8) = false := by simp; omega
        have h8'' : ¬ ((xs.length : Int) = 8) := by omega
        have hva := keyValue_any r (b :: t) wr hra (by omega)
        generalize (⟨(b :: t).toArray⟩ : ByteArray) = s at *
        match hy : KR.kv (b :: t) with
        | .error c =>
          rw [hy] at hva
          have HV : Hid _ := hx.trans (KR.kr_err hy xs)
          have HM1 : Hid _ := hmv
          clear hx hy hra hmv hown
          go_wp2_with (go_at_call 62; refine hva.mono ?_)
          rintro e w4 ⟨rfl, hm⟩
          have HM2 : Hid _ := Mv.trans HM1.out hm
          clear hm hva
          go_wp2_with fail
          rw [HV.out]
          exact ⟨rfl, rfl, HM2.out⟩
        | .ok (x, t2) =>
          rw [hy] at hva
          have ht2 := KR.kv_le hy
          have HV : Hid _ := hx.trans (KR.kr_ok hy xs)
          have HM1 : Hid _ := hmv
          have HO1 : Hid _ := hown
          clear hx hy hra hmv hown
          obtain ⟨xk, xn, xs'⟩ := x
          go_wp2_with (go_at_call 62; refine hva.mono ?_)
          rintro e w4 ⟨rfl, hr4, hm⟩
          have hown4 : Ov w.heap.size (.slice av xs.length cap) xs w4 := Ov.keep HO1.out (fun q h1 h2 => hm.2 q h2 (by omega))
          have HM2 : Hid _ := Mv.trans HM1.out hm
          have HR4 : Hid _ := hr4
          have hsz4 : w.heap.size ≤ w4.heap.size := Nat.le_trans hsz hm.size
          clear hm hva hr4 HM1 HO1 hc
          unfold VM.Vl.val
          simp only
          go_wp2_with (at_builtin; refine wpList_append_own _ rfl _ _ 22 rfl w.heap.size 52 i0 (.agg #[.int .i64 0, .int .i64 0, .string ⟨#[]⟩]) 3 32 Try.underlying22 hi0 hz0 hz1 hz2 rfl (by decide) _ _ _ rfl (hown4.alloc _) ⟨w4.heap.size, 0, none⟩ 1 1 [.int .i64 xk, .int .i64 xn, .string xs'] rfl rfl ?c1 ?c2 ?c3 ?c4 ?c5 ?_)
          case c1 =>
            intro j u hj
            match j, hj with
            | 0, hj => simp at hj; subst hj; simp [Addr.add]
            | 1, hj => simp at hj; subst hj; simp [Addr.add]
            | 2, hj => simp at hj; subst hj; simp [Addr.add]
          case c2 => intro u hu; simp at hu; rcases hu with rfl | rfl | rfl <;> rfl
          case c3 => unfold maxLen; omega
          case c4 => omega
          case c5 => simp; omega
          intro v' w5 hown' hgrow _
          have HO5 : Hid (Ov w.heap.size v' (xs ++ [⟨xk, xn, xs'⟩]) w5) := by
            unfold Hid Ov
            rw [rowV_snoc, List.length_append]
            exact hown'
          have hbe : Below w.heap.size w4 w5 := ((Below.refl w.heap.size w4).alloc hsz4 _).grown hgrow (by simp; omega) (fun q hq => (hown4.lt q hq).1)
          have HM5 : Hid _ := Mv.below HM2.out hbe
          have HR5 : Hid _ := RdAt.below HR4.out hbe hrl
          clear hown' hgrow hown4 hbe
          go_wp2_with fail
          go_roundg k
          case measure => omega
          case rel => exact ⟨xs ++ [⟨xk, xn, xs'⟩], t2, by simp; omega, by omega, HV.out, HR5.out, HM5.out, HO5.out⟩
end Go.Proofs.Ytpalikdnpchdeaa
