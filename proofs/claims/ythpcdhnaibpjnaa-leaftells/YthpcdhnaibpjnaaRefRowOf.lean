/-
  What the document's own RowOf answers.
-/
import Derived.Test.YthpcdhnaibpjnaaRefVb
import Derived.Test.YthpcdhnaibpjnaaLMath
import Derived.Test.YthpcdhnaibpjnaaLfF
namespace Go.Proofs.Ythpcdhnaibpjnaa
open Go.ChangeShapes Go.WideShapes Go.ChangeAt Go.RowKit
set_option linter.unusedVariables false
set_option linter.unusedSimpArgs false
set_option maxRecDepth 100000

theorem own_fr {w w' : World} {base : Nat} {e : TypeId} {size : Nat} {v : Value} {n : Nat} {xs : List Value} (h : w.ownsRow base e size v n xs) (f : Fr w w') : w'.ownsRow base e size v n xs := by
  refine ⟨h.1, ?_⟩
  rcases h.2 with h0 | ⟨g, cap, cur, h1, h2, h3, h4⟩
  · exact Or.inl h0
  · exact Or.inr ⟨g, cap, cur, h1, h2, (Below.block f g (Array.getElem?_eq_some_iff.1 h3).1).trans h3, h4⟩
theorem rest_list (s : ByteArray) (k : Nat) (h : k ≤ s.size) : (s.extract k s.size).data.toList = s.data.toList.drop k := by
  have : (s.extract k s.size).data.toList = (s.data.toList.drop k).take (s.size - k) := by simp
  rw [this, List.take_of_length_le]
  rw [List.length_drop, Array.length_toList]
  exact Nat.le_refl _
theorem rest_drop {l t : List UInt8} {x : VM.Vl} (h : RM.vl l = .ok (x, t)) : l.drop (l.length - t.length) = t ∧ t.length ≤ l.length := by
  obtain ⟨_, _, hl⟩ := LM.vl_only h
  have h2 := RM.vl_le h
  refine ⟨?_, h2⟩
  rw [hl, List.length_append, Nat.add_sub_cancel, List.drop_left]

set_option maxHeartbeats 2000000 in
theorem rowOf_any (s : ByteArray) (w : World) (hs : s.size ≤ maxLen) :
    Calls Try.prog 31 #[.string s] w fun e w' => ReadsAs w.heap.size s e w' ∧ Fr w w' := by
  obtain ⟨i0, hi0, hz0, hz1, hz2⟩ := info_parts Try.infoVal
  have hno := fun W => numOf_any s W hs
  have hnu : RM.nu s.data.toList = if (NM.rd s.data.toList 0 0).2.2 = 0 then .ok ((NM.rd s.data.toList 0 0).1, s.data.toList.drop (NM.rd s.data.toList 0 0).2.1) else .error (NM.rd s.data.toList 0 0).2.2 := rfl
  have hrle := RM.rd_le s.data.toList
  have hlen : s.data.toList.length = s.size := by rw [Array.length_toList]; rfl
  unfold rdv at hno
  have hs' : (s.size : Int) ≤ 9223372036854775807 := by unfold maxLen at hs; omega
  generalize hrd : NM.rd s.data.toList 0 0 = R at *
  obtain ⟨rn, rk, re⟩ := R
  simp only at hno hnu hrle
  by_cases he : re = 0
  · subst he
    rw [if_pos rfl] at hnu
    by_cases h8 : 8 < rn
    · have HR : Hid (RM.row s.data.toList = .error 2) := by unfold Hid RM.row RM.cnt; rw [hnu]; simp only; rw [if_pos h8]
      have h8' : (8 : Int) < (rn : Int) := by omega
      clear hnu hrd hrle hlen h8
      go_enter Try.func31, Try.ntmps31
      go_wp2_with (go_at_call 29; refine (hno _).mono ?_)
      rintro _ w1 ⟨rfl, rfl⟩
      go_wp2_with fail
      go_ret3
      refine ⟨?_, Fr.refl _⟩
      unfold ReadsAs
      rw [HR.out]
      rfl
    · have h8' : (rn : Int) ≤ 8 := by omega
      have HR : Hid (RM.row s.data.toList = RM.vls rn (s.data.toList.drop rk)) := by unfold Hid RM.row RM.cnt; rw [hnu]; simp only; rw [if_neg h8]
      have hrk : rk ≤ s.size := by omega
      have HLEN : Hid _ := hlen
      clear hnu hrd hrle hlen
      go_enter Try.func31, Try.ntmps31
      go_wp2_with (go_at_call 29; refine (hno _).mono ?_)
      rintro _ w1 ⟨rfl, rfl⟩
      clear hno
      go_wp2_with fail
      go_loopg [6, 8] rn (fun g kv ov wr => ∃ (xs : List VM.Vl) (K : Nat), xs.length + g = rn ∧ kv = .int .i64 K ∧ K ≤ s.size ∧ RM.row s.data.toList = RM.pre xs (RM.vls g (s.data.toList.drop K)) ∧ Ov w1.heap.size ov xs wr ∧ Fr w1 wr)
      case atStart => exact ⟨[], rk, by simp, rfl, hrk, by rw [HR.out, RM.pre_nil], World.ownsRow_nil _ _ _ _, Fr.refl _⟩
      case round =>
        obtain ⟨xs, K, hg, rfl, hK, hrow, hown, hfr⟩ := hrel
        have hle := hfr.size
        obtain ⟨av, cap, rfl⟩ : ∃ a cap, u8 = .slice a xs.length cap := by
          rcases hown.2 with ⟨hv, h0⟩ | ⟨g, cap, cur, hv, _⟩
          · exact ⟨none, 0, by rw [hv, h0]⟩
          · exact ⟨_, cap, hv⟩
        cases gk with
        | zero =>
          have HXX : Hid (RM.row s.data.toList = .ok (xs, s.data.toList.drop K)) := by unfold Hid; rw [hrow]; unfold RM.vls RM.pre; simp
          have HRW := hideP (Ov.row hown)
          have HFR : Hid _ := hfr
          have hx : (xs.length : Int) = (rn : Int) := by omega
          have HC : Hid ((K : Int) = (s.size : Int) - ((s.data.toList.drop K).length : Int)) := by unfold Hid; rw [List.length_drop, HLEN.out]; omega
          have hxn : xs.length = rn := by omega
          clear hrow hown hfr hg hx
          subst hxn
          go_wp2_with fail
          go_ret3
          refine ⟨?_, HFR.out⟩
          unfold ReadsAs
          rw [HXX.out]
          exact ⟨.slice av xs.length cap, by rw [← HC.out]; rfl, HRW.out⟩
        | succ g =>
          have hlt : (xs.length : Int) < (rn : Int) := by omega
          have hlt' : xs.length < rn := by omega
          have hex : (s.extract K s.size).size ≤ maxLen := by
            have : (s.extract K s.size).size ≤ s.size := by rw [ByteArray.size_extract]; omega
            omega
          have hva := fun W => valueBytes_any (s.extract K s.size) W hex
          have hrl := rest_list s K hK
          have hexs : (s.extract K s.size).size = s.size - K := by rw [ByteArray.size_extract]; omega
          have hK' : (K : Int) ≤ (s.size : Int) := by omega
          match hy : RM.vl (s.data.toList.drop K) with
          | .error c =>
            have hvb : vbv (s.extract K s.size) = _ := vbv_err (e := c) (by rw [hrl]; exact hy)
            rw [hvb] at hva
            have hcn := RM.vl_err hy
            have HXX : Hid (RM.row s.data.toList = .error c) := hrow.trans (RM.vls_err hy xs)
            have he1 : ((c : Int) != 0) = true := by simp; omega
            have he2 : ¬ ((c : Int) = 0) := by omega
            have HFR : Hid _ := hfr
            clear hrow hown hfr hg hy hvb hrl hcn
            go_wp2_with (go_at_call 49; refine (hva _).mono ?_)
            rintro _ w2 ⟨rfl, hf2⟩
            have HF2 : Hid (Fr w1 w2) := Fr.trans HFR.out hf2
            clear hf2 hva
            go_wp2_with fail
            go_ret3
            refine ⟨?_, Fr.alloc HF2.out _⟩
            unfold ReadsAs
            rw [HXX.out]
            rfl
          | .ok (y, t) =>
            have hvb : vbv (s.extract K s.size) = _ := vbv_ok (x := y) (t := t) (by rw [hrl]; exact hy)
            rw [hvb] at hva
            obtain ⟨hrd, htl⟩ := rest_drop hy
            rw [List.length_drop, HLEN.out] at hrd htl
            have HXX : Hid _ := hrow.trans (RM.vls_ok hy xs)
            rw [hexs] at hva
            have HD : Hid (s.data.toList.drop (K + (s.size - K - t.length)) = t) := by unfold Hid; rw [← List.drop_drop]; exact hrd
            have HFR : Hid _ := hfr
            have HO : Hid _ := hown
            have hc1 : (K : Int) + ((s.size - K - t.length : Nat) : Int) ≤ 9223372036854775807 := by omega
            obtain ⟨yk, yn, ys⟩ := y
            unfold VM.Vl.val at hva
            simp only at hva
            generalize hj : s.size - K - t.length = j at *
            have HJ : Hid _ := hj
            clear hrow hown hfr hy hvb hrl hrd hj hexs
            go_wp2_with (go_at_call 49; refine (hva _).mono ?_)
            rintro _ w2 ⟨rfl, hf2⟩
            have HF2 : Hid (Fr w1 w2) := Fr.trans HFR.out hf2
            have hown2 : Ov w1.heap.size (.slice av xs.length cap) xs (w2.alloc (.cells #[.int .i64 yk, .int .i64 yn, .string ys] 66)) := own_fr HO.out (Fr.trans hf2 ((Fr.refl _).alloc _))
            have hsz2 : w1.heap.size ≤ w2.heap.size := Fr.size HF2.out
            clear hf2 hva HO
            go_wp2_with (at_builtin; refine wpList_append_own _ rfl _ _ 41 rfl w1.heap.size 66 i0 (.agg #[.int .i64 0, .int .i64 0, .string ⟨#[]⟩]) 3 32 Try.underlying41 hi0 hz0 hz1 hz2 rfl (by decide) _ _ _ rfl (hown2.alloc _) ⟨w2.heap.size + 1, 0, none⟩ 1 1 [.int .i64 yk, .int .i64 yn, .string ys] rfl rfl ?c1 ?c2 ?c3 ?c4 ?c5 ?_)
            case c1 =>
              intro j u hj
              match j, hj with
              | 0, hj => simp at hj; subst hj; simp [Addr.add]
              | 1, hj => simp at hj; subst hj; simp [Addr.add]
              | 2, hj => simp at hj; subst hj; simp [Addr.add]
            case c2 => intro u hu; simp at hu; rcases hu with rfl | rfl | rfl <;> rfl
            case c3 => unfold maxLen; omega
            case c4 => omega
            case c5 => simp; omega
            intro v' w5 hown' hgrow _
            have HO5 : Hid (Ov w1.heap.size v' (xs ++ [⟨yk, yn, ys⟩]) w5) := by
              unfold Hid Ov
              rw [rowV_snoc, List.length_append]
              exact hown'
            have HF5 : Hid (Fr w1 w5) := Below.grown (Fr.alloc (Fr.alloc HF2.out _) _) hgrow (by simp; omega) (fun q hq => (hown2.lt q hq).1)
            clear hown' hgrow hown2
            go_wp2_with fail
            go_roundg g
            case measure => omega
            case rel => exact ⟨xs ++ [⟨yk, yn, ys⟩], K + j, by simp; omega, by go_num, by have := HJ.out; omega, by rw [HD.out]; exact HXX.out, HO5.out, HF5.out⟩
  · rw [if_neg he] at hnu
    have HR : Hid (RM.row s.data.toList = .error re) := by unfold Hid RM.row RM.cnt; rw [hnu]
    have he1 : ((re : Int) != 0) = true := by simp; omega
    have he2 : ¬ ((re : Int) = 0) := by omega
    clear hnu hrd hrle hlen he
    go_enter Try.func31, Try.ntmps31
    go_wp2_with (go_at_call 29; refine (hno _).mono ?_)
    rintro _ w1 ⟨rfl, rfl⟩
    go_wp2_with fail
    go_ret3
    refine ⟨?_, Fr.refl _⟩
    unfold ReadsAs
    rw [HR.out]
    rfl
end Go.Proofs.Ythpcdhnaibpjnaa
