/-
  Proved: for every list of entries and every byte LeafBack answers true: what is packed is unpacked as it was, and with a byte more behind it is refused. No condition but the form's own reach.
-/
import Derived.Test.YthpcdhnaibpjnaaLfBh
import Derived.Test.YthpcdhnaibpjnaaOpen
import Derived.Test.YthpcdhnaibpjnaaByteText
namespace Go.Proofs.Ythpcdhnaibpjnaa.LeafBack
open Go.ChangeShapes Go.WideShapes Go.ChangeAt Go.RowKit
open Go.ChangeMaps (open_string shut_string)
set_option linter.unusedVariables false
set_option linter.unusedSimpArgs false
set_option maxRecDepth 100000

set_option maxHeartbeats 1000000 in
theorem core (v0 : Value) (l0 : List LF.En) (u : UInt8) (w : World) (hv : IsEn w v0 l0) (hw : WideE l0) (hl : l0.length * 32 ≤ 140737488351232) :
    Calls Try.prog 4 #[v0, .int .u8 (u.toNat : Int)] w fun e w' => e = .returned (.bool true) ∧ Fr w w' := by
  have hpk := pack_any v0 l0 w hv (by omega) hw
  by_cases hE : LF.pkE l0 = 0
  · have hc : LF.chk l0 = 0 := by
      unfold LF.pkE at hE
      split at hE
      · assumption
      · exact hE
    have h245 : ¬ 245 < (LF.bytes l0).length := fun h => by
      unfold LF.pkE at hE
      rw [if_pos hc, if_pos h] at hE
      cases hE
    have hS : LF.pkS l0 = LF.bytes l0 := if_pos hE
    rw [hE, hS] at hpk
    have hwd : ∀ e ∈ l0, LF.wideE e := fun e he => (hw e he).1
    have h40 := (LF.chk_ok hc).1
    have hrow := LF.chkE_ok (LF.chk_ok hc).2
    have hrl : ∀ e ∈ l0, e.2.length ≤ 9223372036854775806 := fun e he => by have := (WM.chkRow_ok (hrow e he).2).1; omega
    have hb1 := LF.unp_back hc hwd [] (by simp; omega)
    rw [List.append_nil, if_pos rfl] at hb1
    have hsz : (⟨(LF.bytes l0).toArray⟩ : ByteArray).size = (LF.bytes l0).length := mk_size _
    have hd : (⟨(LF.bytes l0).toArray⟩ : ByteArray).data.toList = LF.bytes l0 := by simp
    have hd2 : ((⟨(LF.bytes l0).toArray⟩ : ByteArray) ++ ⟨[u].toArray⟩).data.toList = LF.bytes l0 ++ [u] := by simp
    have hb2 : LF.unp (LF.bytes l0 ++ [u]) = if (LF.bytes l0).length = 245 then .error 2 else .error 1 := by
      by_cases h : (LF.bytes l0).length = 245
      · rw [if_pos h]
        exact LF.unp_long (by rw [List.length_append, h]; simp)
      · rw [if_neg h, LF.unp_back hc hwd [u] (by rw [List.length_append]; simp; omega), if_neg (by simp)]
    have hu1 := fun W => unpack_any ⟨(LF.bytes l0).toArray⟩ W (by rw [hsz]; omega)
    have hu2 := fun W => unpack_any (⟨(LF.bytes l0).toArray⟩ ++ ⟨[u].toArray⟩) W (by rw [ByteArray.size_append, hsz, mk_size]; simp; omega)
    unfold UnpAs at hu1 hu2
    rw [hd, hb1] at hu1
    rw [hd2, hb2] at hu2
    simp only at hu1
    have hs3 : (⟨(LF.bytes l0).toArray⟩ : ByteArray).size ≤ 245 := by omega
    rw [← hsz] at hu2
    clear hb1 hb2 hd hd2 hS hE hc hrow
    have hu1z : (⟨[u].toArray⟩ : ByteArray).size = 1 := rfl
    have hbt := fun W => byteText_any u W
    generalize (⟨[u].toArray⟩ : ByteArray) = U at *
    generalize hS : (⟨(LF.bytes l0).toArray⟩ : ByteArray) = S at *
    have HV := hideP hv
    have HRL := hideP hrl
    obtain ⟨a0, c0, rfl, _⟩ := hv
    clear hrl hw hwd hsz hS h245
    have hs4 : S.size + U.size ≤ 246 := by omega
    have hcode : ∀ W, Calls Try.prog 9 #[.string (S ++ U)] W fun e w' => e = .returned (.tuple #[.slice none 0 0, .int .i64 (if S.size = 245 then 2 else 1)]) ∧ Fr W w' := fun W => by
      have := hu2 W
      by_cases h : S.size = 245
      · simp only [if_pos h] at this ⊢
        exact this
      · simp only [if_neg h] at this ⊢
        exact this
    clear hu2
    go_enter Try.func4, Try.ntmps4
    go_wp2_with fail
    refine hpk.mono ?_
    rintro _ w1 ⟨rfl, f1⟩
    have F1 := hideP f1
    clear hpk f1
    go_wp2_with fail
    refine (begun_any _).mono ?_
    rintro _ w2 ⟨rfl, f2⟩
    have F2 := hideP (Fr.trans F1.out f2)
    clear f2 F1
    go_wp2_with fail
    refine (hu1 _).mono ?_
    rintro _ w3 ⟨⟨v, es, rfl, ho, hm⟩, f3⟩
    have hen := ho.en
    rw [hm] at hen
    have HEN := hideP hen
    have F3 := hideP (Fr.trans F2.out f3)
    obtain ⟨av, cv, rfl, _⟩ := hen
    clear hu1 f3 ho hm F2
    go_wp2_with fail
    refine (hbt _).mono ?_
    rintro _ w4 ⟨rfl, f4⟩
    have F4 := hideP (Fr.trans F3.out f4)
    have HEN4 := hideP (IsEn.fr HEN.out f4)
    clear hbt f4 F3 HEN
    go_wp2_with fail
    refine (hcode _).mono ?_
    rintro _ w5 ⟨rfl, f5⟩
    have F5 := hideP (Fr.trans F4.out f5)
    have hse := sameEntries_eq _ _ l0 w5 (IsEn.fr HEN4.out f5) (IsEn.fr HV.out F5.out) (by omega) HRL.out
    clear hcode f5 F4 HEN4
    by_cases h245e : S.size = 245
    · rw [if_pos h245e]
      have h245I : (S.size : Int) = 245 := by omega
      go_wp2_with fail
      refine hse.mono ?_
      rintro _ w6 ⟨rfl, f6⟩
      have F6 := hideP (Fr.trans F5.out f6)
      clear hse f6 F5
      go_wp2_with fail
      go_ret
      exact ⟨rfl, F6.out⟩
    · rw [if_neg h245e]
      go_wp2_with fail
      refine hse.mono ?_
      rintro _ w6 ⟨rfl, f6⟩
      have F6 := hideP (Fr.trans F5.out f6)
      clear hse f6 F5
      go_wp2_with fail
      go_ret
      exact ⟨rfl, F6.out⟩
  · have hS : LF.pkS l0 = [] := if_neg hE
    rw [hS] at hpk
    generalize LF.pkE l0 = c at *
    have q1 : ((c : Int) != 0) = true := by simp; omega
    have q2 : ¬ ((c : Int) = 0) := by omega
    clear hv hw hS
    go_enter Try.func4, Try.ntmps4
    go_wp2_with fail
    refine hpk.mono ?_
    rintro _ w1 ⟨rfl, f1⟩
    have F1 := hideP f1
    clear hpk f1
    go_wp2_with fail
    refine (begun_any _).mono ?_
    rintro _ w2 ⟨rfl, f2⟩
    have F2 := hideP (Fr.trans F1.out f2)
    clear f2 F1
    go_wp2_with fail
    go_ret
    exact ⟨rfl, F2.out⟩
theorem walk (v0 : Value) (l0 : List LF.En) (b : Int) (w : World) (hv : IsEn w v0 l0) (hw : WideE l0) (hl : l0.length * 32 ≤ 140737488351232) (hb : 0 ≤ b ∧ b ≤ 255) :
    Calls Try.prog 4 #[v0, .int .u8 b] w fun e w' => e = .returned (.bool true) ∧ Fr w w' := by
  obtain ⟨u, rfl⟩ := byte_of hb
  exact core v0 l0 u w hv hw hl

set_option maxRecDepth 100000 in
theorem lifted (os : Go.Os) (started : os.Started) (H : Type) (enc : TypeId × Value → H) :
    ReturnsInHanded {} Try.checked os 4 .any (Rows.leafBackSpec.pre6 enc Try.prog Try.f4 Rows.leafBackRow.domain false) (Rows.leafBackSpec.post enc Try.prog Try.f4 false true false false) := by
  refine returnsInHanded_of_change_sized (C := Try.checked) own started (by kernel_rfl) Try.func4
    (ChangeSpec.witness6 (enc := enc) (C := Try.checked) false ⟨#[], #[.slice none 0 0, .int .u8 0], []⟩ 8 (by kernel_rfl) (by kernel_rfl) (by kernel_rfl) (by kernel_rfl)) ?_
  intro W base args ds gs before hval0 hW hcnd hsz0 _
  have hval : ∀ (j : Nat) t v, Try.f4.params[j]? = some t → args[j]? = some v → Value.okWide Try.prog W .any base t v := hval0
  have hsz : (DataW.weightsEach Try.prog (Try.f4.params.toList ++ Rows.leafBackSpec.plain.varTypes Try.prog) (ds ++ gs)).all (· ≤ reachBytes) = true := hsz0
  have hW' := hW
  obtain ⟨p, q, hA0, hV, rfl, hfz, hnd⟩ := hW
  have hA : DataW.TrodAll enc Try.prog W 0 (fun _ => true) true Try.f4.params.toList args.toList ds p := hA0
  rw [Try.params4] at hA hval hsz
  obtain ⟨v0, vs0, d0, ds0, p0, q0, hargs, rfl, rfl, h0, r0⟩ := trodAll_cons hA
  obtain ⟨v1, vs1, d1, ds1, p1, q1, rfl, rfl, rfl, h1, r1⟩ := trodAll_cons r0
  obtain ⟨rfl, rfl, rfl⟩ := trodAll_nil r1
  obtain rfl : args = #[v0, v1] := by cases args; simp_all
  obtain ⟨rfl, rfl⟩ := trodVars_none hV
  obtain ⟨l0, rw0, wd0, ln0, dd0⟩ := open_ens (hval 0 22 v0 rfl rfl) h0
  obtain ⟨a1, rfl, rfl, rfl, w1⟩ := open_int Try.underlying5 (hval 1 5 v1 rfl rfl) h1
  have b0 : l0.length * 32 ≤ 140737488351232 := by
    rcases dd0 with ⟨_, rfl⟩ | ⟨es, sp, hd, hl⟩
    · simp
    · have h := sized_slice hsz (j := 0) (t := 22) rfl (by rw [hd]; rfl) Try.underlying22
      rw [Try.bytesEn] at h
      unfold reachBytes at h
      omega
  clear hA0 hval0 hsz0
  refine (walk v0 l0 a1 W rw0 wd0 b0 (wf_u8 w1)).mono fun e W' ⟨he, bel⟩ => ?_
  subst he
  exact ⟨_, rfl, _, _, _, [], _, [], hW', trodAll_mk1 (shut_bool Try.underlying4 _), (trodAll_cons_mk (shut_ens h0 bel) (trodAll_cons_mk (shut_int Try.underlying5 w1) trodAll_mk0)), rfl, Below.frame bel _, fun h => by cases h⟩

theorem over : Rows.leafBackRow.holds Try.pinned (OpenSpec.ofChange Rows.leafBackSpec) :=
  OpenClaim.holds_of_wide 4 Try.f4 rfl rfl rfl rfl rfl rfl rfl ⟨rfl, rfl, rfl, rfl, rfl⟩ rfl rfl rfl rfl rfl (by kernel_rfl) Try.func4 (by kernel_rfl)
    (of_decide_eq_true (by kernel_rfl)) (by unfold Func.isWrapper; first | (rw [if_pos (by decide +kernel)]; kernel_rfl) | (rw [if_neg (by decide +kernel)]; exact ⟨rfl, rfl⟩))
    (fun os started H enc _ => lifted os started H enc)

end Go.Proofs.Ythpcdhnaibpjnaa.LeafBack
namespace Go.Proofs.Ythpcdhnaibpjnaa
theorem leafBack_holds : Rows.LeafBackSaid := LeafBack.over
#print axioms leafBack_holds
end Go.Proofs.Ythpcdhnaibpjnaa
