/-
  What the document's UnkeyOf answers.
-/
import Derived.Test.YtpalikdnpchdeaaVOfK
import Derived.Test.YtpalikdnpchdeaaRefRowOf
import Derived.Test.YtpalikdnpchdeaaRecUnkey
namespace Go.Proofs.Ytpalikdnpchdeaa
open Go.ChangeShapes Go.WideShapes Go.ChangeAt Go.RowKit
set_option linter.unusedVariables false
set_option linter.unusedSimpArgs false
set_option maxRecDepth 100000

theorem valueOfKey_any (s : ByteArray) (x : VM.Vl) (w : World) (h : UK.VK s.data.toList x) (hs : s.size ≤ 140737488355327) :
    Calls Try.prog 51 #[.string s] w fun r w' => r = .returned x.val ∧ Fr w w' := by
  rcases h with ⟨b, h, hb, rfl⟩ | ⟨b, t, h, hb, ht, rfl⟩ | ⟨b, e, h, hb, rfl⟩
  · exact valueOfKey_null s b w h hb
  · exact valueOfKey_int s b t w h hb ht
  · refine valueOfKey_text s b e (b.toNat / 16) w h ?_ hs
    rcases hb with hb | hb <;> rw [hb] <;> simp
theorem first_list (s : ByteArray) (k : Nat) (h : k ≤ s.size) : (s.extract 0 k).data.toList = s.data.toList.take k := by simp
theorem pre_err (xs : List VM.Vl) (e : Nat) : RM.pre xs (.error e : Except Nat (List VM.Vl × List UInt8)) = .error e := rfl

set_option maxHeartbeats 2000000 in
theorem unkeyOf_any (s : ByteArray) (w : World) (hs : s.size ≤ 140737488351232) :
    Calls Try.prog 23 #[.string s] w fun e w' => UnkeysAs s e w' ∧ Fr w w' := by
  obtain ⟨i0, hi0, hz0, hz1, hz2⟩ := info_parts Try.infoVal
  have HU : Hid (UnkeysAs s = fun e w' => match KR.kr 8 s.data.toList with
    | .error c => e = .returned (.tuple #[.slice none 0 0, .int .i64 (c : Nat)])
    | .ok (xs, _) => ∃ v, e = .returned (.tuple #[v, .int .i64 0]) ∧ IsRow w' v xs) := rfl
  generalize UnkeysAs s = U at *
  have HK : Hid (∃ R, R = KR.kr 8 s.data.toList) := ⟨_, rfl⟩
  obtain ⟨R, hR⟩ := HK.out
  rw [← hR] at HU
  go_enter Try.func23, Try.ntmps23
  go_wp2_with fail
  go_loopg [0, 4] 8 (fun g sv ov wr => ∃ (T : ByteArray) (xs : List VM.Vl), xs.length + g = 8 ∧ sv = .string T ∧ T.size ≤ 140737488351232 ∧ R = RM.pre xs (KR.kr g T.data.toList) ∧ Ov w.heap.size ov xs wr ∧ Fr w wr)
  case atStart => exact ⟨s, [], rfl, rfl, hs, by rw [RM.pre_nil]; exact hR, World.ownsRow_nil _ _ _ _, Fr.refl _⟩
  case round =>
    obtain ⟨T, xs, hg, rfl, hT, hkr, hown, hfr⟩ := hrel
    have hle := hfr.size
    obtain ⟨av, cap, rfl⟩ : ∃ a cap, u4 = .slice a xs.length cap := by
      rcases hown.2 with ⟨hv, h0⟩ | ⟨g, cap, cur, hv, _⟩
      · exact ⟨none, 0, by rw [hv, h0]⟩
      · exact ⟨_, cap, hv⟩
    clear hR HK
    by_cases h0 : T.size = 0
    · have hnil : T.data.toList = [] := List.length_eq_zero_iff.1 (by rw [Array.length_toList]; exact h0)
      have HX : Hid (R = .ok (xs, [])) := by unfold Hid; rw [hkr, hnil, KR.kr_nil]; unfold RM.pre; simp
      have HRW : Hid _ := Ov.isRow hown
      have HFR : Hid _ := hfr
      have h0' : (T.size : Int) = 0 := by omega
      clear hkr hown hfr hg hnil
      go_wp2_with fail
      go_ret2
      refine ⟨?_, HFR.out⟩
      rw [HU.out, HX.out]
      exact ⟨_, rfl, HRW.out⟩
    · have hpos : 0 < T.size := by omega
      have hpos' : (0 : Int) < (T.size : Int) := by omega
      have hcons := head_cons T hpos
      cases gk with
      | zero =>
        have HX : Hid (R = .error 2) := by unfold Hid; rw [hkr, hcons]; rfl
        have h8 : (xs.length : Int) = 8 := by omega
        have HFR : Hid _ := hfr
        clear hkr hown hfr hcons
        go_wp2_with fail
        go_ret2
        refine ⟨?_, HFR.out⟩
        rw [HU.out, HX.out]
        rfl
      | succ g =>
        have h8 : ((xs.length : Int) == 8) = false := by rw [beq_eq_false_iff_ne]; omega
        have p8 : ¬ (xs.length : Int) = 8 := by omega
        have hke := fun W => keyEnd_any T W hpos (by omega)
        rw [hcons] at hkr
        rcases UK.one T[0] (T.data.toList.drop 1) with ⟨hk, hkv⟩ | ⟨k, x, hk, hkl, hk0, hvk, hkv⟩
        · rw [hk] at hke
          have HX : Hid (R = .error 1) := by unfold Hid; rw [hkr, KR.kr_err hkv]
          have HFR : Hid _ := hfr
          clear hkr hown hfr hcons hkv hk
          go_wp2_with (go_at_call 50; refine (hke _).mono ?_)
          rintro _ w1 ⟨rfl, rfl⟩
          go_wp2_with fail
          go_ret2
          refine ⟨?_, HFR.out⟩
          rw [HU.out, HX.out]
          rfl
        · rw [hk] at hke
          rw [← hcons] at hvk
          have htl : (T.data.toList.drop 1).length = T.size - 1 := by rw [List.length_drop, Array.length_toList]; rfl
          have hkT : k ≤ T.size := by omega
          rw [← first_list T k hkT] at hvk
          have hex : (T.extract 0 k).size ≤ 140737488355327 := by rw [ByteArray.size_extract]; omega
          have hvo := fun W => valueOfKey_any (T.extract 0 k) x W hvk hex
          have hkZ : (k : Int) ≤ (T.size : Int) := by omega
          have hkN : (0 : Int) ≤ (k : Int) := by omega
          have hkB : decide ((k : Int) < 0) = false := by rw [decide_eq_false_iff_not]; omega
          obtain ⟨xk, xn, xs'⟩ := x
          unfold VM.Vl.val at hvo
          simp only at hvo hkv
          by_cases h16 : 16 < xs'.size
          · rw [if_pos h16] at hkv
            have HX : Hid (R = .error 2) := by unfold Hid; rw [hkr, KR.kr_err hkv]
            have HFR : Hid _ := hfr
            have h16' : (16 : Int) < (xs'.size : Int) := by omega
            clear hkr hown hfr hcons hkv hk hvk
            go_wp2_with fail
            refine (hke _).mono ?_
            rintro _ w1 ⟨rfl, rfl⟩
            go_wp2_with fail
            refine (hvo _).mono ?_
            rintro _ w2 ⟨rfl, hf2⟩
            have HF2 : Hid (Fr w w2) := Fr.trans HFR.out hf2
            clear hf2 hvo
            go_wp2_with fail
            go_ret2
            refine ⟨?_, Fr.alloc HF2.out _⟩
            rw [HU.out, HX.out]
            rfl
          · rw [if_neg h16, ← hcons] at hkv
            rw [← hcons] at hkr
            have HX : Hid (R = RM.pre (xs ++ [⟨xk, xn, xs'⟩]) (KR.kr g (T.extract k T.size).data.toList)) := by
              unfold Hid
              have hh := KR.kr_ok (n := g) (b := T[0]) (l := T.data.toList.drop 1) (x := ⟨xk, xn, xs'⟩) (t := T.data.toList.drop k) (by rw [← hcons]; exact hkv) xs
              rw [← hcons] at hh
              rw [rest_list T k hkT, hkr, hh]
            have h16' : ¬ (16 : Int) < (xs'.size : Int) := by omega
            have HFR : Hid _ := hfr
            have HO : Hid _ := hown
            have HT2 : Hid ((T.extract k T.size).size ≤ 140737488351232) := by unfold Hid; rw [ByteArray.size_extract]; omega
            clear hkr hown hfr hcons hkv hk hvk
            go_wp2_with fail
            refine (hke _).mono ?_
            rintro _ w1 ⟨rfl, rfl⟩
            go_wp2_with fail
            refine (hvo _).mono ?_
            rintro _ w2 ⟨rfl, hf2⟩
            have HF2 : Hid (Fr w w2) := Fr.trans HFR.out hf2
            have hown2 : Ov w.heap.size (.slice av xs.length cap) xs (w2.alloc (.cells #[.int .i64 xk, .int .i64 xn, .string xs'] 52)) := own_fr HO.out (Fr.trans hf2 ((Fr.refl _).alloc _))
            have hsz2 : w.heap.size ≤ w2.heap.size := Fr.size HF2.out
            clear hf2 hvo HO
            go_wp2_with (at_builtin; refine wpList_append_own _ rfl _ _ 22 rfl w.heap.size 52 i0 (.agg #[.int .i64 0, .int .i64 0, .string ⟨#[]⟩]) 3 32 Try.underlying22 hi0 hz0 hz1 hz2 rfl (by decide) _ _ _ rfl (hown2.alloc _) ⟨w2.heap.size + 1, 0, none⟩ 1 1 [.int .i64 xk, .int .i64 xn, .string xs'] rfl rfl ?c1 ?c2 ?c3 ?c4 ?c5 ?_)
            case c1 =>
              intro j u hj
              match j, hj with
              | 0, hj => simp at hj; subst hj; simp [Addr.add]
              | 1, hj => simp at hj; subst hj; simp [Addr.add]
              | 2, hj => simp at hj; subst hj; simp [Addr.add]
            case c2 => intro u hu; simp at hu; rcases hu with rfl | rfl | rfl <;> rfl
            case c3 => unfold maxLen; omega
            case c4 => omega
            case c5 => simp; omega
            intro v' w5 hown' hgrow _
            have HO5 : Hid (Ov w.heap.size v' (xs ++ [⟨xk, xn, xs'⟩]) w5) := by
              unfold Hid Ov
              rw [rowV_snoc, List.length_append]
              exact hown'
            have HF5 : Hid (Fr w w5) := Below.grown (Fr.alloc (Fr.alloc HF2.out _) _) hgrow (by simp; omega) (fun q hq => (hown2.lt q hq).1)
            clear hown' hgrow hown2
            go_wp2_with fail
            go_roundg g
            case measure => omega
            case rel => exact ⟨T.extract k T.size, xs ++ [⟨xk, xn, xs'⟩], by simp; omega, by first | rfl | simp, HT2.out, HX.out, HO5.out, HF5.out⟩
end Go.Proofs.Ytpalikdnpchdeaa
