/-
  Proved: for every row and every text RecordTells answers true: Write and Read answer just what the document says, errors too. No condition but the form's own reach.
-/
import Derived.Test.YtpalikdnpchdeaaRefRowOf
import Derived.Test.YtpalikdnpchdeaaSame
import Derived.Test.YtpalikdnpchdeaaRecRead
namespace Go.Proofs.Ytpalikdnpchdeaa.recordTellsProof
open Go.ChangeShapes Go.WideShapes Go.ChangeAt Go.RowKit
open Go.ChangeMaps (open_string shut_string)
set_option linter.unusedVariables false
set_option linter.unusedSimpArgs false
set_option maxRecDepth 100000

theorem reads (s : ByteArray) (hs : s.size ≤ 9223372036854775807) : ∃ (xs : List VM.Vl) (N F : Int), xs.length ≤ 8 ∧ ∀ e w', ReadsAs s e w' → ∃ v, e = .returned (.tuple #[v, .int .i64 N, .int .i64 F]) ∧ IsRow w' v xs := by
  unfold ReadsAs
  match hr : RM.row s.data.toList with
  | .error c =>
    exact ⟨[], 0, c, by simp, fun e w' h => ⟨.slice none 0 0, h, ⟨none, 0, rfl, Or.inl rfl⟩⟩⟩
  | .ok (xs, t) =>
    refine ⟨xs, (s.size : Int) - (t.length : Int), 0, (WM.chkRow_ok (LM.row_only hr).1).1, fun e w' h => ?_⟩
    exact h

set_option maxHeartbeats 2000000 in
theorem core (A : Option Addr) (len cap : Nat) (s T : ByteArray) (e : Nat) (xs : List VM.Vl) (N F : Int) (w : World) (hx : xs.length ≤ 8)
    (c1 : Calls Try.prog 11 #[.slice A len cap] w fun q w' => q = .returned (.tuple #[.string T, .int .i64 e]) ∧ Fr w w')
    (c2 : ∀ W, Calls Try.prog 12 #[.string s] W fun q w' => (∃ v, q = .returned (.tuple #[v, .int .i64 N, .int .i64 F]) ∧ IsRow w' v xs) ∧ Fr W w')
    (c3 : ∀ W, Fr w W → Calls Try.prog 13 #[.slice A len cap] W fun q w' => q = .returned (.int .i64 e) ∧ Fr W w')
    (c4 : (e = 0 ∧ ∀ W, Fr w W → Calls Try.prog 14 #[.slice A len cap] W fun q w' => q = .returned (.string T) ∧ Fr W w') ∨ (e ≠ 0 ∧ T = ⟨#[]⟩))
    (c5 : ∀ W, Calls Try.prog 15 #[.string s] W fun q w' => (∃ v, q = .returned (.tuple #[v, .int .i64 N, .int .i64 F]) ∧ IsRow w' v xs) ∧ Fr W w') :
    Calls Try.prog 3 #[.slice A len cap, .string s] w fun q w' => q = .returned (.bool true) ∧ Fr w w' := by
  have C3 : Hid _ := c3
  have C4 : Hid _ := c4
  clear c3 c4
  go_enter Try.func3, Try.ntmps3
  go_wp2_with (go_at_call 11; refine c1.mono ?_)
  rintro _ w1 ⟨rfl, hf1⟩
  have F1 : Hid _ := hf1
  clear hf1 c1
  go_wp2_with (go_at_call 12; refine (c2 _).mono ?_)
  rintro _ w2 ⟨⟨v, rfl, hv⟩, hf2⟩
  have F2 : Hid (Fr w w2) := Fr.trans F1.out hf2
  have HV : Hid _ := hv
  have c3 := C3.out w2 F2.out
  clear hf2 c2 F1 C3 hv
  go_wp2_with (go_at_call 13; refine c3.mono ?_)
  rintro _ w3 ⟨rfl, hf3⟩
  have F3 : Hid (Fr w w3) := Fr.trans F2.out hf3
  have HV3 : Hid (IsRow w3 v xs) := IsRow.fr HV.out hf3
  clear hf3 c3 F2 HV
  have c4 := C4.out
  clear C4
  rcases c4 with ⟨rfl, c4⟩ | ⟨he, rfl⟩
  · have c4' := c4 w3 F3.out
    clear c4
    go_wp2_with (go_at_call 14; refine c4'.mono ?_)
    rintro _ w4 ⟨rfl, hf4⟩
    have F4 : Hid (Fr w w4) := Fr.trans F3.out hf4
    have HV4 : Hid (IsRow w4 v xs) := IsRow.fr HV3.out hf4
    clear hf4 c4' F3 HV3
    go_wp2_with (go_at_call 15; refine (c5 _).mono ?_)
    rintro _ w5 ⟨⟨u, rfl, hu⟩, hf5⟩
    have F5 : Hid (Fr w w5) := Fr.trans F4.out hf5
    have HV5 : Hid (IsRow w5 v xs) := IsRow.fr HV4.out hf5
    have HU5 : Hid _ := hu
    clear hf5 c5 F4 HV4 hu
    go_wp2_with (go_at_call 16; refine (begun_any _).mono ?_)
    rintro _ w6 ⟨rfl, hf6⟩
    have F6 : Hid (Fr w w6) := Fr.trans F5.out hf6
    have hsr := sameRow_eq v u xs w6 (IsRow.fr HV5.out hf6) (IsRow.fr HU5.out hf6) (by omega)
    clear hf6 F5 HV5 HU5
    go_wp2_with (go_at_call 17; refine hsr.mono ?_)
    rintro _ w7 ⟨rfl, hf7⟩
    have F7 : Hid (Fr w w7) := Fr.trans F6.out hf7
    clear hf7 hsr F6
    go_wp2_with fail
    go_ret
    exact ⟨rfl, F7.out⟩
  · have q1 : ((e : Int) == 0) = false := by rw [beq_eq_false_iff_ne]; omega
    have q2 : ¬ ((e : Int) = 0) := by omega
    clear he
    go_wp2_with (go_at_call 15; refine (c5 _).mono ?_)
    rintro _ w5 ⟨⟨u, rfl, hu⟩, hf5⟩
    have F5 : Hid (Fr w w5) := Fr.trans F3.out hf5
    have HV5 : Hid (IsRow w5 v xs) := IsRow.fr HV3.out hf5
    have HU5 : Hid _ := hu
    clear hf5 c5 F3 HV3 hu
    go_wp2_with (go_at_call 16; refine (begun_any _).mono ?_)
    rintro _ w6 ⟨rfl, hf6⟩
    have F6 : Hid (Fr w w6) := Fr.trans F5.out hf6
    have hsr := sameRow_eq v u xs w6 (IsRow.fr HV5.out hf6) (IsRow.fr HU5.out hf6) (by omega)
    clear hf6 F5 HV5 HU5
    go_wp2_with (go_at_call 17; refine hsr.mono ?_)
    rintro _ w7 ⟨rfl, hf7⟩
    have F7 : Hid (Fr w w7) := Fr.trans F6.out hf7
    clear hf7 hsr F6
    go_wp2_with fail
    go_ret
    exact ⟨rfl, F7.out⟩

theorem walk (v : Value) (l : List VM.Vl) (s : ByteArray) (w : World) (hv : IsRow w v l) (hw : Wide l) (hl : l.length ≤ 9223372036854775807) (hs : s.size ≤ 140737488351232) :
    Calls Try.prog 3 #[v, .string s] w fun q w' => q = .returned (.bool true) ∧ Fr w w' := by
  obtain ⟨xs, N, F, hx, hrd⟩ := reads s (by omega)
  have c2 : ∀ W, Calls Try.prog 12 #[.string s] W fun q w' => (∃ v, q = .returned (.tuple #[v, .int .i64 N, .int .i64 F]) ∧ IsRow w' v xs) ∧ Fr W w' :=
    fun W => (recRead_any s W (by omega)).mono fun e w' h => ⟨hrd e w' h.1, h.2⟩
  have c5 : ∀ W, Calls Try.prog 15 #[.string s] W fun q w' => (∃ v, q = .returned (.tuple #[v, .int .i64 N, .int .i64 F]) ∧ IsRow w' v xs) ∧ Fr W w' :=
    fun W => (rowOf_any s W (by unfold maxLen; omega)).mono fun e w' h => ⟨hrd e w' h.1, h.2⟩
  have hv' := hv
  obtain ⟨A, cap, rfl, _⟩ := hv
  by_cases hc : VM.chkRow l = 0
  · have k1 := recWrite_ok _ l w hv' hw hc
    have k3 : ∀ W, Fr w W → Calls Try.prog 13 #[.slice A l.length cap] W fun q w' => q = .returned (.int .i64 (0 : Nat)) ∧ Fr W w' := by
      intro W f
      have h := refCheckRow_any _ l W (hv'.fr f) hl
      rw [hc] at h
      exact h
    exact core A l.length cap s _ 0 xs N F w hx k1 c2 k3 (Or.inl ⟨rfl, fun W f => rowBytes_any _ l W (hv'.fr f) hw hc⟩) c5
  · exact core A l.length cap s _ (VM.chkRow l) xs N F w hx (recWrite_bad _ l w hv' hl hc) c2 (fun W f => refCheckRow_any _ l W (hv'.fr f) hl) (Or.inr ⟨hc, rfl⟩) c5

set_option maxRecDepth 100000 in
theorem lifted (os : Os) (started : os.Started) (H : Type) (enc : TypeId × Value → H) :
    ReturnsInHanded {} Try.checked os 3 .any (Rows.recordTellsSpec.pre6 enc Try.prog Try.f3 Rows.recordTellsRow.domain false) (Rows.recordTellsSpec.post enc Try.prog Try.f3 false true false false) := by
  refine returnsInHanded_of_change_sized (C := Try.checked) own started (by kernel_rfl) Try.func3
    (ChangeSpec.witness6 (enc := enc) (C := Try.checked) false ⟨#[], #[.slice none 0 0, .string ByteArray.empty], []⟩ 8 (by kernel_rfl) (by kernel_rfl) (by kernel_rfl) (by kernel_rfl)) ?_
  intro W base args ds gs before hval0 hW hcnd hsz0 _
  have hval : ∀ (j : Nat) t v, Try.f3.params[j]? = some t → args[j]? = some v → Value.okWide Try.prog W .any base t v := hval0
  have hsz : (DataW.weightsEach Try.prog (Try.f3.params.toList ++ Rows.recordTellsSpec.plain.varTypes Try.prog) (ds ++ gs)).all (· ≤ reachBytes) = true := hsz0
  have hW' := hW
  obtain ⟨p, q, hA0, hV, rfl, hfz, hnd⟩ := hW
  have hA : DataW.TrodAll enc Try.prog W 0 (fun _ => true) true Try.f3.params.toList args.toList ds p := hA0
  rw [Try.params3] at hA hval hsz
  obtain ⟨v0, vs0, d0, ds0, p0, q0, hargs, rfl, rfl, h0, r0⟩ := trodAll_cons hA
  obtain ⟨v1, vs1, d1, ds1, p1, q1, rfl, rfl, rfl, h1, r1⟩ := trodAll_cons r0
  obtain ⟨rfl, rfl, rfl⟩ := trodAll_nil r1
  obtain rfl : args = #[v0, v1] := by cases args; simp_all
  obtain ⟨rfl, rfl⟩ := trodVars_none hV
  obtain ⟨l0, rw0, wd0, ln0, sl0, dd0⟩ := open_row (hval 0 22 v0 rfl rfl) h0
  obtain ⟨a1, rfl, rfl, rfl, w1⟩ := open_string Try.underlying9 (hval 1 9 v1 rfl rfl) h1
  have b1 : a1.size ≤ 140737488351232 := by
    have h := sized_string hsz (j := 1) (t := 9) rfl rfl
    simpa [reachBytes] using h
  clear hA0 hval0 hsz0
  refine (walk v0 l0 a1 W rw0 wd0 (by unfold maxLen at ln0; omega) b1).mono fun e W' ⟨he, bel⟩ => ?_
  subst he
  exact ⟨_, rfl, _, _, _, [], _, [], hW', trodAll_mk1 (shut_bool Try.underlying4 _), (trodAll_cons_mk (shut_row h0 bel) (trodAll_cons_mk (shut_string Try.underlying9 w1) trodAll_mk0)), rfl, Below.frame bel _, fun h => by cases h⟩

theorem over : Rows.recordTellsRow.holds Try.pinned (OpenSpec.ofChange Rows.recordTellsSpec) :=
  OpenClaim.holds_of_wide 3 Try.f3 rfl rfl rfl rfl rfl rfl rfl ⟨rfl, rfl, rfl, rfl, rfl⟩ rfl rfl rfl rfl rfl (by kernel_rfl) Try.func3 (by kernel_rfl)
    (of_decide_eq_true (by kernel_rfl)) (by unfold Func.isWrapper; first | (rw [if_pos (by decide +kernel)]; kernel_rfl) | (rw [if_neg (by decide +kernel)]; exact ⟨rfl, rfl⟩))
    (fun os started H enc _ => lifted os started H enc)

end Go.Proofs.Ytpalikdnpchdeaa.recordTellsProof
namespace Go.Proofs.Ytpalikdnpchdeaa
theorem recordTells_holds : Rows.RecordTellsSaid := recordTellsProof.over
#print axioms recordTells_holds
end Go.Proofs.Ytpalikdnpchdeaa
