/-
  Proved: for every int64, every number of 64 bits and every text behind SignedBack answers true: Zig and Zag go back and forth, and so do Signed and ReadSigned. No condition but the form's own reach.
-/
import Derived.Test.YtbclbpfkdjagkabBegun
import Derived.Deep.RegionHeld3
namespace Go.Proofs.Ytbclbpfkdjagkab.signedBackProof
open Go.ChangeShapes Go.WideShapes Go.ChangeAt Go.RowKit
open Go.ChangeMaps (open_string shut_string)
set_option linter.unusedVariables false

theorem rdsv_enc (n : Int) (s : ByteArray) (hl : -9223372036854775808 ≤ n) (hu : n ≤ 9223372036854775807) :
    rdsv ((⟨(NM.enc (zigN n).toNat).toArray⟩ : ByteArray) ++ s) = .tuple #[.int .i64 n, .int .i64 (NM.enc (zigN n).toNat).length, .int .i64 0] := by
  have hz := zig_range hl hu
  unfold rdsv
  rw [rd_enc_app (zigN n) s hz.1 hz.2, show (((zigN n).toNat : Nat) : Int) = zigN n by omega, zag_zig]
  rfl

set_option maxRecDepth 100000 in
set_option maxHeartbeats 1000000 in
theorem walk (n u : Int) (s : ByteArray) (w : World) (hn : -9223372036854775808 ≤ n ∧ n ≤ 9223372036854775807) (hu : 0 ≤ u ∧ u ≤ 18446744073709551615) (hs : s.size ≤ 140737488351232) :
    Calls Try.prog 3 #[.int .i64 n, .int .u64 u, .string s] w fun e w' => e = .returned (.bool true) ∧ Fr w w' := by
  have hz := zig_range hn.1 hn.2
  have hg := zag_range hu.1 hu.2
  have e1 := zag_zig n
  have e2 := zig_zag hu.1
  have hr := rdsv_enc n s hn.1 hn.2
  have la : ((NM.enc (zigN n).toNat).length : Int) ≤ 10 := by have := NM.enc_ten (n := (zigN n).toNat) (by omega); omega
  have HS : Hid (((⟨(NM.enc (zigN n).toNat).toArray⟩ : ByteArray) ++ s).size ≤ maxLen) := by
    unfold Hid maxLen
    rw [ByteArray.size_append]
    have : (⟨(NM.enc (zigN n).toNat).toArray⟩ : ByteArray).size = (NM.enc (zigN n).toNat).length := by simp [ByteArray.size]
    omega
  go_enter Try.func3, Try.ntmps3
  go_wp2_with (first
    | (go_at_call 9; refine (readSigned_any _ _ HS.out).mono ?_; rintro e w' ⟨rfl, rfl⟩)
    | (go_at_call 13; refine (zig_any _ _ (by omega) (by omega)).mono ?_; rintro e w' ⟨rfl, rfl⟩)
    | (go_at_call 12; refine (zag_any _ _ (by omega) (by omega)).mono ?_; rintro e w' ⟨rfl, rfl⟩)
    | (go_at_call 10; refine (signed_any _ _ hn.1 hn.2).mono ?_; rintro e w' ⟨rfl, hb⟩)
    | (go_at_call 11; refine (numBegun_any _).mono ?_; rintro e w' ⟨rfl, hb⟩))
  go_ret
  exact ⟨rfl, by repeat (first | exact Fr.refl _ | assumption | refine Fr.trans ?_ (by assumption))⟩

set_option maxRecDepth 100000 in
theorem lifted (os : Os) (started : os.Started) (H : Type) (enc : TypeId × Value → H) :
    ReturnsInHanded {} Try.checked os 3 .any (Rows.signedBackSpec.pre6 enc Try.prog Try.f3 Rows.signedBackRow.domain false) (Rows.signedBackSpec.post enc Try.prog Try.f3 false true false false) := by
  refine returnsInHanded_of_change_sized (C := Try.checked) own started (by kernel_rfl) Try.func3
    (ChangeSpec.witness6 (enc := enc) (C := Try.checked) false ⟨#[], #[.int .i64 0, .int .u64 0, .string ByteArray.empty], []⟩ 8 (by kernel_rfl) (by kernel_rfl) (by kernel_rfl) (by kernel_rfl)) ?_
  intro W base args ds gs before hval0 hW hcnd hsz0 _
  have hval : ∀ (j : Nat) t v, Try.f3.params[j]? = some t → args[j]? = some v → Value.okWide Try.prog W .any base t v := hval0
  have hsz : (DataW.weightsEach Try.prog (Try.f3.params.toList ++ Rows.signedBackSpec.plain.varTypes Try.prog) (ds ++ gs)).all (· ≤ reachBytes) = true := hsz0
  have hW' := hW
  obtain ⟨p, q, hA0, hV, rfl, hfz, hnd⟩ := hW
  have hA : DataW.TrodAll enc Try.prog W 0 (fun _ => true) true Try.f3.params.toList args.toList ds p := hA0
  rw [Try.params3] at hA hval hsz
  obtain ⟨v0, vs0, d0, ds0, p0, q0, hargs, rfl, rfl, h0, r0⟩ := trodAll_cons hA
  obtain ⟨v1, vs1, d1, ds1, p1, q1, rfl, rfl, rfl, h1, r1⟩ := trodAll_cons r0
  obtain ⟨v2, vs2, d2, ds2, p2, q2, rfl, rfl, rfl, h2, r2⟩ := trodAll_cons r1
  obtain ⟨rfl, rfl, rfl⟩ := trodAll_nil r2
  obtain rfl : args = #[v0, v1, v2] := by cases args; simp_all
  obtain ⟨rfl, rfl⟩ := trodVars_none hV
  obtain ⟨a0, rfl, rfl, rfl, w0⟩ := open_int Try.underlying2 (hval 0 2 v0 rfl rfl) h0
  obtain ⟨a1, rfl, rfl, rfl, w1⟩ := open_int Try.underlying22 (hval 1 22 v1 rfl rfl) h1
  obtain ⟨a2, rfl, rfl, rfl, w2⟩ := open_string Try.underlying9 (hval 2 9 v2 rfl rfl) h2
  have b2 : a2.size ≤ 140737488351232 := by
    have h := sized_string hsz (j := 2) (t := 9) rfl rfl
    simpa [reachBytes] using h
  clear hA0 hval0 hsz0
  refine (walk a0 a1 a2 W (wf_i64 w0) (wf_u64 w1) b2).mono fun e W' ⟨he, bel⟩ => ?_
  subst he
  exact ⟨_, rfl, _, _, _, [], _, [], hW', trodAll_mk1 (shut_bool Try.underlying4 _), (trodAll_cons_mk (shut_int Try.underlying2 w0) (trodAll_cons_mk (shut_int Try.underlying22 w1) (trodAll_cons_mk (shut_string Try.underlying9 w2) trodAll_mk0))), rfl, Below.frame bel _, fun h => by cases h⟩

theorem over : Rows.signedBackRow.holds Try.pinned (OpenSpec.ofChange Rows.signedBackSpec) :=
  OpenClaim.holds_of_wide 3 Try.f3 rfl rfl rfl rfl rfl rfl rfl ⟨rfl, rfl, rfl, rfl, rfl⟩ rfl rfl rfl rfl rfl (by kernel_rfl) Try.func3 (by kernel_rfl)
    (of_decide_eq_true (by kernel_rfl)) (by unfold Func.isWrapper; first | (rw [if_pos (by decide +kernel)]; kernel_rfl) | (rw [if_neg (by decide +kernel)]; exact ⟨rfl, rfl⟩))
    (fun os started H enc _ => lifted os started H enc)

end Go.Proofs.Ytbclbpfkdjagkab.signedBackProof
namespace Go.Proofs.Ytbclbpfkdjagkab
theorem signedBack_holds : Rows.SignedBackSaid := signedBackProof.over
#print axioms signedBack_holds
end Go.Proofs.Ytbclbpfkdjagkab
