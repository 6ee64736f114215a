/-
  A key is read as the row it is of; what is read as a key has just that key. For every row and every text.
-/
import Derived.Test.YtpalikdnpchdeaaSame
import Derived.Test.YtpalikdnpchdeaaKLMath
namespace Go.Proofs.Ytpalikdnpchdeaa.KeyBack
open Go.ChangeShapes Go.WideShapes Go.ChangeAt Go.RowKit
open Go.ChangeMaps (open_string shut_string)
set_option linter.unusedVariables false
set_option linter.unusedSimpArgs false

/-- what Unkey tells of a text, in two ways -/
def Un (s : ByteArray) (W : World) (e : Ending) (w' : World) : Prop :=
  ((∃ c : Nat, c ≠ 0 ∧ e = .returned (.tuple #[.slice none 0 0, .int .i64 (c : Nat)])) ∨
    ∃ (xs : List VM.Vl) (v : Value), VM.chkRow xs = 0 ∧ Wide xs ∧ KM.row xs = s.data.toList ∧ e = .returned (.tuple #[v, .int .i64 0]) ∧ IsRow w' v xs) ∧ Fr W w'

theorem un_any (s : ByteArray) (w : World) (hs : s.size ≤ 140737488351232) : Calls Try.prog 20 #[.string s] w (Un s w) := by
  refine (recUnkey_any s w hs).mono ?_
  rintro e w' ⟨he, hf⟩
  refine ⟨?_, hf⟩
  unfold UnkeysAs at he
  match hx : KR.kr 8 s.data.toList with
  | .error c =>
    rw [hx] at he
    exact Or.inl ⟨c, KR.kr_err0 hx, he⟩
  | .ok (xs, t) =>
    rw [hx] at he
    obtain ⟨v, h1, h2⟩ := he
    obtain ⟨a1, a2, a3⟩ := KL.row_only hx
    exact Or.inr ⟨xs, v, a1, a2, a3.symm, h1, h2⟩

theorem key_small {l : List VM.Vl} (h : VM.chkRow l = 0) : (KM.row l).length ≤ 1048576 := by
  obtain ⟨h8, ha⟩ := WM.chkRow_ok h
  have e2 : ∀ m : List VM.Vl, (∀ x ∈ m, (KM.kb x).length ≤ 35) → (m.flatMap KM.kb).length ≤ 35 * m.length := by
    intro m
    induction m with
    | nil => simp
    | cons a t ih =>
      intro hm
      have h1 := hm a (by simp)
      have h2 := ih (fun x hx => hm x (by simp [hx]))
      simp only [List.flatMap_cons, List.length_append, List.length_cons]
      omega
  have e3 := e2 l (fun x hx => KM.kb_len (WM.chk_ok (ha x hx)).2.2.2.2)
  unfold KM.row
  omega

set_option maxRecDepth 100000 in
set_option maxHeartbeats 4000000 in
/-- from the second Unkey on -/
theorem walk (v0 : Value) (l0 : List VM.Vl) (s : ByteArray) (w : World) (hr : IsRow w v0 l0) (hw : Wide l0) (hl : l0.length ≤ 9223372036854775807) (hs : s.size ≤ 140737488351232) :
    Calls Try.prog 9 #[v0, .string s] w fun e w' => e = .returned (.bool true) ∧ Fr w w' := by
  have hun := fun W => un_any s W hs
  by_cases hc : VM.chkRow l0 = 0
  · have hky := recKey_ok v0 l0 w hr hw hc
    have hdl : (⟨(KM.row l0).toArray⟩ : ByteArray).data.toList = KM.row l0 := by simp
    have hsz : (⟨(KM.row l0).toArray⟩ : ByteArray).size = (KM.row l0).length := mk_size _
    have hbig : (KM.row l0).length ≤ 1048576 := key_small hc
    have hu1 : ∀ W, Calls Try.prog 20 #[.string ⟨(KM.row l0).toArray⟩] W fun e w' => (∃ v, e = .returned (.tuple #[v, .int .i64 0]) ∧ IsRow w' v l0) ∧ Fr W w' := by
      intro W
      refine (recUnkey_any _ W (by omega)).mono ?_
      rintro e w' ⟨he, hf⟩
      unfold UnkeysAs at he
      rw [hdl, KL.row_back hc hw] at he
      exact ⟨he, hf⟩
    have h8 := (WM.chkRow_ok hc).1
    generalize (⟨(KM.row l0).toArray⟩ : ByteArray) = k at *
    have HR : Hid _ := hr
    clear hdl hsz hbig hr hw hc
    go_enter Try.func9, Try.ntmps9
    go_wp2_with (first
      | (go_at_call 19; refine hky.mono ?_; rintro e w1 ⟨rfl, hf1⟩)
      | (go_at_call 16; refine (begun_any _).mono ?_; rintro e w2 ⟨rfl, hf2⟩))
    refine (hu1 _).mono ?_
    rintro e w3 ⟨⟨v3, rfl, hrow3⟩, hf3⟩
    have hf : Fr w w3 := Fr.trans (Fr.trans hf1 hf2) hf3
    have hsame := sameRow_eq v0 v3 l0 w3 (IsRow.fr HR.out hf) hrow3 (by omega)
    have F3 : Hid _ := hf
    obtain ⟨a3, cap3, rfl, _⟩ := hrow3
    clear hf1 hf2 hf3 hf hky hu1 HR
    go_wp2_with (go_at_call 17; refine hsame.mono ?_)
    rintro e w4 ⟨rfl, hf4⟩
    have F4 : Hid _ := Fr.trans F3.out hf4
    clear hf4 hsame F3
    go_wp2_with (go_at_call 20; refine (hun _).mono ?_)
    rintro e w5 ⟨⟨c, hc0, rfl⟩ | ⟨xs, v5, hx1, hx2, hx3, rfl, hrow5⟩, hf5⟩
    · have F5 : Hid _ := Fr.trans F4.out hf5
      have q1 : ((c : Int) != 0) = true := by simp; omega
      have q2 : ¬ ((c : Int) = 0) := by omega
      clear hf5
      go_wp2_with fail
      go_ret
      exact ⟨rfl, F5.out⟩
    · have F5 : Hid _ := Fr.trans F4.out hf5
      have hk2 := recKey_ok v5 xs w5 hrow5 hx2 hx1
      rw [hx3, LM.ba_of] at hk2
      obtain ⟨a5, cap5, rfl, _⟩ := hrow5
      clear hf5 hx1 hx2 hx3
      go_wp2_with (go_at_call 19; refine hk2.mono ?_)
      rintro e w6 ⟨rfl, hf6⟩
      have F6 : Hid _ := Fr.trans F5.out hf6
      clear hf6 hk2
      go_wp2_with fail
      go_ret
      exact ⟨rfl, F6.out⟩
  · have hky := recKey_bad v0 l0 w hr hl hc
    generalize VM.chkRow l0 = c0 at *
    have q1 : ((c0 : Int) == 0) = false := by simp; omega
    have q2 : ¬ ((c0 : Int) = 0) := by omega
    clear hr hw
    go_enter Try.func9, Try.ntmps9
    go_wp2_with (first
      | (go_at_call 19; refine hky.mono ?_; rintro e w1 ⟨rfl, hf1⟩)
      | (go_at_call 16; refine (begun_any _).mono ?_; rintro e w2 ⟨rfl, hf2⟩))
    have F4 : Hid _ := Fr.trans hf1 hf2
    clear hf1 hf2 hky
    refine (hun _).mono ?_
    rintro e w5 ⟨⟨c, hc0, rfl⟩ | ⟨xs, v5, hx1, hx2, hx3, rfl, hrow5⟩, hf5⟩
    · have F5 : Hid _ := Fr.trans F4.out hf5
      have q3 : ((c : Int) != 0) = true := by simp; omega
      have q4 : ¬ ((c : Int) = 0) := by omega
      clear hf5
      go_wp2_with fail
      go_ret
      exact ⟨rfl, F5.out⟩
    · have F5 : Hid _ := Fr.trans F4.out hf5
      have hk2 := recKey_ok v5 xs w5 hrow5 hx2 hx1
      rw [hx3, LM.ba_of] at hk2
      obtain ⟨a5, cap5, rfl, _⟩ := hrow5
      clear hf5 hx1 hx2 hx3
      go_wp2_with (go_at_call 19; refine hk2.mono ?_)
      rintro e w6 ⟨rfl, hf6⟩
      have F6 : Hid _ := Fr.trans F5.out hf6
      clear hf6 hk2
      go_wp2_with fail
      go_ret
      exact ⟨rfl, F6.out⟩

set_option maxRecDepth 100000 in
theorem lifted (os : Os) (started : os.Started) (H : Type) (enc : TypeId × Value → H) :
    ReturnsInHanded {} Try.checked os 9 .any (Rows.keyBackSpec.pre6 enc Try.prog Try.f9 Rows.keyBackRow.domain false) (Rows.keyBackSpec.post enc Try.prog Try.f9 false true false false) := by
  refine returnsInHanded_of_change_sized (C := Try.checked) own started (by kernel_rfl) Try.func9
    (ChangeSpec.witness6 (enc := enc) (C := Try.checked) false ⟨#[], #[.slice none 0 0, .string ByteArray.empty], []⟩ 8 (by kernel_rfl) (by kernel_rfl) (by kernel_rfl) (by kernel_rfl)) ?_
  intro W base args ds gs before hval0 hW hcnd hsz0 _
  have hval : ∀ (j : Nat) t v, Try.f9.params[j]? = some t → args[j]? = some v → Value.okWide Try.prog W .any base t v := hval0
  have hsz : (DataW.weightsEach Try.prog (Try.f9.params.toList ++ Rows.keyBackSpec.plain.varTypes Try.prog) (ds ++ gs)).all (· ≤ reachBytes) = true := hsz0
  have hW' := hW
  obtain ⟨p, q, hA0, hV, rfl, hfz, hnd⟩ := hW
  have hA : DataW.TrodAll enc Try.prog W 0 (fun _ => true) true Try.f9.params.toList args.toList ds p := hA0
  rw [Try.params9] at hA hval hsz
  obtain ⟨v0, vs0, d0, ds0, p0, q0, hargs, rfl, rfl, h0, r0⟩ := trodAll_cons hA
  obtain ⟨v1, vs1, d1, ds1, p1, q1, rfl, rfl, rfl, h1, r1⟩ := trodAll_cons r0
  obtain ⟨rfl, rfl, rfl⟩ := trodAll_nil r1
  obtain rfl : args = #[v0, v1] := by cases args; simp_all
  obtain ⟨rfl, rfl⟩ := trodVars_none hV
  obtain ⟨l0, rw0, wd0, ln0, sl0, dd0⟩ := open_row (hval 0 22 v0 rfl rfl) h0
  obtain ⟨a1, rfl, rfl, rfl, w1⟩ := open_string Try.underlying9 (hval 1 9 v1 rfl rfl) h1
  have b1 : a1.size ≤ 140737488351232 := by
    have h := sized_string hsz (j := 1) (t := 9) rfl rfl
    simpa [reachBytes] using h
  clear hA0 hval0 hsz0
  refine (walk v0 l0 a1 W rw0 wd0 (by unfold maxLen at ln0; omega) b1).mono fun e W' ⟨he, bel⟩ => ?_
  subst he
  exact ⟨_, rfl, _, _, _, [], _, [], hW', trodAll_mk1 (shut_bool Try.underlying4 _), (trodAll_cons_mk (shut_row h0 bel) (trodAll_cons_mk (shut_string Try.underlying9 w1) trodAll_mk0)), rfl, Below.frame bel _, fun h => by cases h⟩

theorem over : Rows.keyBackRow.holds Try.pinned (OpenSpec.ofChange Rows.keyBackSpec) :=
  OpenClaim.holds_of_wide 9 Try.f9 rfl rfl rfl rfl rfl rfl rfl ⟨rfl, rfl, rfl, rfl, rfl⟩ rfl rfl rfl rfl rfl (by kernel_rfl) Try.func9 (by kernel_rfl)
    (of_decide_eq_true (by kernel_rfl)) (by unfold Func.isWrapper; first | (rw [if_pos (by decide +kernel)]; kernel_rfl) | (rw [if_neg (by decide +kernel)]; exact ⟨rfl, rfl⟩))
    (fun os started H enc _ => lifted os started H enc)

end Go.Proofs.Ytpalikdnpchdeaa.KeyBack
namespace Go.Proofs.Ytpalikdnpchdeaa
theorem keyBack_holds : Rows.KeyBackSaid := KeyBack.over
end Go.Proofs.Ytpalikdnpchdeaa
