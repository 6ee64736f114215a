/-
  Proved: for every list of entries and every text LeafTells answers true: Check, Pack and Unpack answer just what the document says, errors too. No condition but the form's own reach.
-/
import Derived.Test.YthpcdhnaibpjnaaLfBh
import Derived.Test.YthpcdhnaibpjnaaOpen
import Derived.Test.YthpcdhnaibpjnaaRefEO
namespace Go.Proofs.Ythpcdhnaibpjnaa.LeafTells
open Go.ChangeShapes Go.WideShapes Go.ChangeAt Go.RowKit
open Go.ChangeMaps (open_string shut_string)
set_option linter.unusedVariables false
set_option linter.unusedSimpArgs false
set_option maxRecDepth 100000

/-- what reading a text answers, in plain words -/
theorem read_plain (F : Nat) (s : ByteArray) (w : World) (h : Calls Try.prog F #[.string s] w fun e w' => UnpAs w.heap.size s e w' ∧ Fr w w') (xs : List LF.En) (f : Nat)
    (hx : (∃ c, LF.unp s.data.toList = .error c ∧ f = c ∧ xs = []) ∨ (LF.unp s.data.toList = .ok xs ∧ f = 0)) :
    Calls Try.prog F #[.string s] w fun e w' => (∃ a k, e = .returned (.tuple #[.slice a xs.length k, .int .i64 f]) ∧ IsEn w' (.slice a xs.length k) xs) ∧ Fr w w' := by
  refine h.mono ?_
  rintro e w' ⟨he, hf⟩
  refine ⟨?_, hf⟩
  unfold UnpAs at he
  rcases hx with ⟨c, hx, rfl, rfl⟩ | ⟨hx, rfl⟩
  · rw [hx] at he
    exact ⟨none, 0, he, ⟨none, 0, rfl, Or.inl rfl⟩⟩
  · rw [hx] at he
    obtain ⟨v, es, rfl, ho, hm⟩ := he
    have hen := ho.en
    rw [hm] at hen
    have h2 := hen
    obtain ⟨a, k, rfl, _⟩ := hen
    exact ⟨a, k, rfl, h2⟩

def Ways (w : World) (v : Value) (T : ByteArray) (e c : Nat) : Prop :=
  (c ≠ 0 ∧ e = c ∧ T = ⟨#[]⟩) ∨ (c = 0 ∧ ∃ B : ByteArray, B.size ≤ 10000 ∧ (∀ W, Fr w W → Calls Try.prog 11 #[v] W fun r w' => r = .returned (.string B) ∧ Fr W w') ∧ ((245 < B.size ∧ e = 2 ∧ T = ⟨#[]⟩) ∨ (B.size ≤ 245 ∧ e = 0 ∧ T = B)))

set_option maxHeartbeats 2000000 in
theorem core (a0 : Option Addr) (n0 k0 : Nat) (s T : ByteArray) (e c f : Nat) (xs : List LF.En) (w : World) (hw : Ways w (.slice a0 n0 k0) T e c)
    (hx1 : xs.length ≤ 9223372036854775806) (hx2 : ∀ e ∈ xs, e.2.length ≤ 9223372036854775806)
    (c1 : Calls Try.prog 8 #[.slice a0 n0 k0] w fun r w' => r = .returned (.tuple #[.string T, .int .i64 e]) ∧ Fr w w')
    (c2 : ∀ W, Calls Try.prog 9 #[.string s] W fun r w' => (∃ a k, r = .returned (.tuple #[.slice a xs.length k, .int .i64 f]) ∧ IsEn w' (.slice a xs.length k) xs) ∧ Fr W w')
    (c3 : ∀ W, Fr w W → Calls Try.prog 10 #[.slice a0 n0 k0] W fun r w' => r = .returned (.int .i64 c) ∧ Fr W w')
    (c4 : ∀ W, Calls Try.prog 12 #[.string s] W fun r w' => (∃ a k, r = .returned (.tuple #[.slice a xs.length k, .int .i64 f]) ∧ IsEn w' (.slice a xs.length k) xs) ∧ Fr W w')
    (c5 : ∀ W, Fr w W → Calls Try.prog 14 #[.slice a0 n0 k0] W fun r w' => r = .returned (.int .i64 c) ∧ Fr W w') :
    Calls Try.prog 3 #[.slice a0 n0 k0, .string s] w fun r w' => r = .returned (.bool true) ∧ Fr w w' := by
  have HW := hideP hw
  have HX2 := hideP hx2
  clear hw hx2
  go_enter Try.func3, Try.ntmps3
  go_wp2_with fail
  refine c1.mono ?_
  rintro _ w1 ⟨rfl, f1⟩
  have F1 := hideP f1
  clear c1 f1
  go_wp2_with fail
  refine (c2 _).mono ?_
  rintro _ w2 ⟨⟨a2, k2, rfl, h2⟩, f2⟩
  have F2 := hideP (Fr.trans F1.out f2)
  have H2 := hideP h2
  have c3' := c3 w2 (Fr.trans F1.out f2)
  clear c2 c3 f2 h2 F1
  go_wp2_with fail
  refine c3'.mono ?_
  rintro _ w3 ⟨rfl, f3⟩
  have F3 := hideP (Fr.trans F2.out f3)
  have H3 := hideP (IsEn.fr H2.out f3)
  clear c3' f3 F2 H2
  have hw := HW.out
  unfold Ways at hw
  clear HW
  rcases hw with ⟨h1, rfl, rfl⟩ | ⟨rfl, B, hB, cB, ⟨h1, rfl, rfl⟩ | ⟨h1, rfl, rfl⟩⟩
  · have q1 : ((e : Int) != 0) = true := by simp; omega
    have q2 : ¬ ((e : Int) = 0) := by omega
    have q3 : ((e : Int) == 0) = false := by simp; omega
    go_wp2_with fail
    refine (c4 _).mono ?_
    rintro _ w5 ⟨⟨a5, k5, rfl, h5⟩, f5⟩
    have F5 := hideP (Fr.trans F3.out f5)
    have H5 := hideP h5
    have H5m := hideP (IsEn.fr H3.out f5)
    clear c4 f5 h5
    go_wp2_with fail
    refine (begun_any _).mono ?_
    rintro _ w6 ⟨rfl, f6⟩
    have F6 := hideP (Fr.trans F5.out f6)
    have c5' := c5 w6 F6.out
    have H6 := hideP (IsEn.fr H5.out f6)
    have H6m := hideP (IsEn.fr H5m.out f6)
    clear f6 c5 H5 H5m F5
    go_wp2_with fail
    refine c5'.mono ?_
    rintro _ w7 ⟨rfl, f7⟩
    have F7 := hideP (Fr.trans F6.out f7)
    have hse := sameEntries_eq _ _ xs w7 (IsEn.fr H6m.out f7) (IsEn.fr H6.out f7) hx1 HX2.out
    clear f7 c5' H6 H6m F6
    go_wp2_with fail
    refine hse.mono ?_
    rintro _ w8 ⟨rfl, f8⟩
    have F8 := hideP (Fr.trans F7.out f8)
    clear hse f8 F7
    go_wp2_with fail
    go_ret
    exact ⟨rfl, F8.out⟩
  · have hb1 : (245 : Int) < (B.size : Int) := by omega
    have cB' := cB w3 F3.out
    clear cB
    go_wp2_with fail
    refine cB'.mono ?_
    rintro _ w4 ⟨rfl, f4⟩
    have F4 := hideP (Fr.trans F3.out f4)
    have H4 := hideP (IsEn.fr H3.out f4)
    clear cB' f4 F3 H3
    go_wp2_with fail
    refine (c4 _).mono ?_
    rintro _ w5 ⟨⟨a5, k5, rfl, h5⟩, f5⟩
    have F5 := hideP (Fr.trans F4.out f5)
    have H5 := hideP h5
    have H5m := hideP (IsEn.fr H4.out f5)
    clear c4 f5 h5
    go_wp2_with fail
    refine (begun_any _).mono ?_
    rintro _ w6 ⟨rfl, f6⟩
    have F6 := hideP (Fr.trans F5.out f6)
    have c5' := c5 w6 F6.out
    have H6 := hideP (IsEn.fr H5.out f6)
    have H6m := hideP (IsEn.fr H5m.out f6)
    clear f6 c5 H5 H5m F5
    go_wp2_with fail
    refine c5'.mono ?_
    rintro _ w7 ⟨rfl, f7⟩
    have F7 := hideP (Fr.trans F6.out f7)
    have hse := sameEntries_eq _ _ xs w7 (IsEn.fr H6m.out f7) (IsEn.fr H6.out f7) hx1 HX2.out
    clear f7 c5' H6 H6m F6
    go_wp2_with fail
    refine hse.mono ?_
    rintro _ w8 ⟨rfl, f8⟩
    have F8 := hideP (Fr.trans F7.out f8)
    clear hse f8 F7
    go_wp2_with fail
    go_ret
    exact ⟨rfl, F8.out⟩
  · have hb1 : (T.size : Int) ≤ 245 := by omega
    have cB' := cB w3 F3.out
    clear cB
    go_wp2_with fail
    refine cB'.mono ?_
    rintro _ w4 ⟨rfl, f4⟩
    have F4 := hideP (Fr.trans F3.out f4)
    have H4 := hideP (IsEn.fr H3.out f4)
    clear cB' f4 F3 H3
    go_wp2_with fail
    refine (c4 _).mono ?_
    rintro _ w5 ⟨⟨a5, k5, rfl, h5⟩, f5⟩
    have F5 := hideP (Fr.trans F4.out f5)
    have H5 := hideP h5
    have H5m := hideP (IsEn.fr H4.out f5)
    clear c4 f5 h5
    go_wp2_with fail
    refine (begun_any _).mono ?_
    rintro _ w6 ⟨rfl, f6⟩
    have F6 := hideP (Fr.trans F5.out f6)
    have c5' := c5 w6 F6.out
    have H6 := hideP (IsEn.fr H5.out f6)
    have H6m := hideP (IsEn.fr H5m.out f6)
    clear f6 c5 H5 H5m F5
    go_wp2_with fail
    refine c5'.mono ?_
    rintro _ w7 ⟨rfl, f7⟩
    have F7 := hideP (Fr.trans F6.out f7)
    have hse := sameEntries_eq _ _ xs w7 (IsEn.fr H6m.out f7) (IsEn.fr H6.out f7) hx1 HX2.out
    clear f7 c5' H6 H6m F6
    go_wp2_with fail
    refine hse.mono ?_
    rintro _ w8 ⟨rfl, f8⟩
    have F8 := hideP (Fr.trans F7.out f8)
    clear hse f8 F7
    go_wp2_with fail
    go_ret
    exact ⟨rfl, F8.out⟩
theorem walk (v0 : Value) (l0 : List LF.En) (s : ByteArray) (w : World) (hv : IsEn w v0 l0) (hw : WideE l0) (hl : l0.length * 32 ≤ 140737488351232) (hs : s.size ≤ 140737488351232) :
    Calls Try.prog 3 #[v0, .string s] w fun e w' => e = .returned (.bool true) ∧ Fr w w' := by
  have h2 := hv
  obtain ⟨a0, k0, rfl, _⟩ := hv
  obtain ⟨xs, f, hx⟩ : ∃ (xs : List LF.En) (f : Nat), (∃ c, LF.unp s.data.toList = .error c ∧ f = c ∧ xs = []) ∨ (LF.unp s.data.toList = .ok xs ∧ f = 0) := by
    cases h : LF.unp s.data.toList with
    | error c => exact ⟨[], c, Or.inl ⟨c, rfl, rfl, rfl⟩⟩
    | ok xs => exact ⟨xs, 0, Or.inr ⟨rfl, rfl⟩⟩
  have hxs : xs.length ≤ 9223372036854775806 ∧ ∀ e ∈ xs, e.2.length ≤ 9223372036854775806 := by
    rcases hx with ⟨c, _, _, rfl⟩ | ⟨hx, _⟩
    · exact ⟨by simp, fun e he => by simp at he⟩
    · obtain ⟨h1, _⟩ := LF.unp_only hx
      have h40 := (LF.chk_ok h1).1
      have hrow := LF.chkE_ok (LF.chk_ok h1).2
      exact ⟨by omega, fun e he => by have := (WM.chkRow_ok (hrow e he).2).1; omega⟩
  have hways : Ways w (.slice a0 l0.length k0) ⟨(LF.pkS l0).toArray⟩ (LF.pkE l0) (LF.chk l0) := by
    by_cases hc : LF.chk l0 = 0
    · right
      refine ⟨hc, ⟨(LF.bytes l0).toArray⟩, ?_, fun W fW => entriesBytes_any _ l0 W (h2.fr fW) (LF.chk_ok hc).1 (fun e he => ⟨(LF.chkE_ok (LF.chk_ok hc).2 e he).2, (hw e he).1⟩), ?_⟩
      · rw [mk_size]
        have h40 := (LF.chk_ok hc).1
        have h1 := LF.flat_len (LF.chk_ok hc).2 (fun e he => (hw e he).1)
        have h2 : (NM.enc l0.length).length ≤ 10 := NM.enc_ten (by omega)
        unfold LF.bytes
        rw [List.length_append]
        omega
      · rw [mk_size]
        by_cases h245 : 245 < (LF.bytes l0).length
        · left
          have eE : LF.pkE l0 = 2 := by unfold LF.pkE; rw [if_pos hc, if_pos h245]
          refine ⟨h245, eE, ?_⟩
          unfold LF.pkS
          rw [if_neg (by omega)]
        · right
          have eE : LF.pkE l0 = 0 := by unfold LF.pkE; rw [if_pos hc, if_neg h245]
          refine ⟨by omega, eE, ?_⟩
          unfold LF.pkS
          rw [if_pos eE]
    · left
      have eE : LF.pkE l0 = LF.chk l0 := by unfold LF.pkE; rw [if_neg hc]
      refine ⟨hc, eE, ?_⟩
      unfold LF.pkS
      rw [if_neg (by omega)]
  exact core a0 l0.length k0 s _ _ _ f xs w hways hxs.1 hxs.2 (pack_any _ l0 w h2 (by omega) hw) (fun W => read_plain _ s W (unpack_any s W (by omega)) xs f hx) (fun W fW => entriesCheck_any _ l0 W (h2.fr fW) (by omega) hw)
    (fun W => read_plain _ s W (entriesOf_any s W (by omega)) xs f hx) (fun W fW => lcheck_any _ l0 W (h2.fr fW) (by omega) hw)

set_option maxRecDepth 100000 in
theorem lifted (os : Go.Os) (started : os.Started) (H : Type) (enc : TypeId × Value → H) :
    ReturnsInHanded {} Try.checked os 3 .any (Rows.leafTellsSpec.pre6 enc Try.prog Try.f3 Rows.leafTellsRow.domain false) (Rows.leafTellsSpec.post enc Try.prog Try.f3 false true false false) := by
  refine returnsInHanded_of_change_sized (C := Try.checked) own started (by kernel_rfl) Try.func3
    (ChangeSpec.witness6 (enc := enc) (C := Try.checked) false ⟨#[], #[.slice none 0 0, .string ByteArray.empty], []⟩ 8 (by kernel_rfl) (by kernel_rfl) (by kernel_rfl) (by kernel_rfl)) ?_
  intro W base args ds gs before hval0 hW hcnd hsz0 _
  have hval : ∀ (j : Nat) t v, Try.f3.params[j]? = some t → args[j]? = some v → Value.okWide Try.prog W .any base t v := hval0
  have hsz : (DataW.weightsEach Try.prog (Try.f3.params.toList ++ Rows.leafTellsSpec.plain.varTypes Try.prog) (ds ++ gs)).all (· ≤ reachBytes) = true := hsz0
  have hW' := hW
  obtain ⟨p, q, hA0, hV, rfl, hfz, hnd⟩ := hW
  have hA : DataW.TrodAll enc Try.prog W 0 (fun _ => true) true Try.f3.params.toList args.toList ds p := hA0
  rw [Try.params3] at hA hval hsz
  obtain ⟨v0, vs0, d0, ds0, p0, q0, hargs, rfl, rfl, h0, r0⟩ := trodAll_cons hA
  obtain ⟨v1, vs1, d1, ds1, p1, q1, rfl, rfl, rfl, h1, r1⟩ := trodAll_cons r0
  obtain ⟨rfl, rfl, rfl⟩ := trodAll_nil r1
  obtain rfl : args = #[v0, v1] := by cases args; simp_all
  obtain ⟨rfl, rfl⟩ := trodVars_none hV
  obtain ⟨l0, rw0, wd0, ln0, dd0⟩ := open_ens (hval 0 22 v0 rfl rfl) h0
  obtain ⟨a1, rfl, rfl, rfl, w1⟩ := open_string Try.underlying9 (hval 1 9 v1 rfl rfl) h1
  have b1 : a1.size ≤ 140737488351232 := by
    have h := sized_string hsz (j := 1) (t := 9) rfl rfl
    simpa [reachBytes] using h
  have b0 : l0.length * 32 ≤ 140737488351232 := by
    rcases dd0 with ⟨_, rfl⟩ | ⟨es, sp, hd, hl⟩
    · simp
    · have h := sized_slice hsz (j := 0) (t := 22) rfl (by rw [hd]; rfl) Try.underlying22
      rw [Try.bytesEn] at h
      unfold reachBytes at h
      omega
  clear hA0 hval0 hsz0
  refine (walk v0 l0 a1 W rw0 wd0 b0 b1).mono fun e W' ⟨he, bel⟩ => ?_
  subst he
  exact ⟨_, rfl, _, _, _, [], _, [], hW', trodAll_mk1 (shut_bool Try.underlying4 _), (trodAll_cons_mk (shut_ens h0 bel) (trodAll_cons_mk (shut_string Try.underlying9 w1) trodAll_mk0)), rfl, Below.frame bel _, fun h => by cases h⟩

theorem over : Rows.leafTellsRow.holds Try.pinned (OpenSpec.ofChange Rows.leafTellsSpec) :=
  OpenClaim.holds_of_wide 3 Try.f3 rfl rfl rfl rfl rfl rfl rfl ⟨rfl, rfl, rfl, rfl, rfl⟩ rfl rfl rfl rfl rfl (by kernel_rfl) Try.func3 (by kernel_rfl)
    (of_decide_eq_true (by kernel_rfl)) (by unfold Func.isWrapper; first | (rw [if_pos (by decide +kernel)]; kernel_rfl) | (rw [if_neg (by decide +kernel)]; exact ⟨rfl, rfl⟩))
    (fun os started H enc _ => lifted os started H enc)

end Go.Proofs.Ythpcdhnaibpjnaa.LeafTells
namespace Go.Proofs.Ythpcdhnaibpjnaa
theorem leafTells_holds : Rows.LeafTellsSaid := LeafTells.over
#print axioms leafTells_holds
end Go.Proofs.Ythpcdhnaibpjnaa
