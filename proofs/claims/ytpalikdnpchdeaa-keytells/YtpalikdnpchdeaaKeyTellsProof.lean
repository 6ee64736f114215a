/-
  Proved: for every two rows and every text KeyTells answers true: Compare, Key and Unkey answer just what the document says, errors too. No condition but the form's own reach.
-/
import Derived.Test.YtpalikdnpchdeaaRowLs
import Derived.Test.YtpalikdnpchdeaaUnkOf
import Derived.Test.YtpalikdnpchdeaaRefKeyOf
import Derived.Test.YtpalikdnpchdeaaRecCmp
import Derived.Test.YtpalikdnpchdeaaRBegun
import Derived.Test.YtpalikdnpchdeaaRecKey
import Derived.Test.YtpalikdnpchdeaaOpen
namespace Go.Proofs.Ytpalikdnpchdeaa.keyTellsProof
open Go.ChangeShapes Go.WideShapes Go.ChangeAt Go.RowKit
open Go.ChangeMaps (open_string shut_string)
set_option linter.unusedVariables false
set_option linter.unusedSimpArgs false
set_option maxRecDepth 100000

/-- a slice's length is within its room -/
def CapOk (v : Value) : Prop := ∃ a n c, v = .slice a n c ∧ n ≤ c
theorem open_cap {H : Type} {enc : TypeId × Value → H} {W : World} {base : Nat} {r : Reach} {v : Value} {d : DataW H} {p : List MemPlace} (hval : Value.okWide Try.prog W r base 22 v)
    (h : DataW.Trod enc Try.prog W 0 (fun _ => true) true 22 v d p) : CapOk v := by
  obtain ⟨a0, len0, cap0, rfl⟩ := okWide_slice Try.underlying22 hval
  obtain ⟨fuel, hf⟩ := h
  rcases Deep.open_slice Try.underlying22 hf with ⟨hcs, hx⟩ | ⟨a, len, cap, m, n, D, Pl, hcs, _, hl, _⟩
  · simp only [Value.cells] at hcs
    simp at hcs
    obtain ⟨rfl, rfl, rfl⟩ := hcs
    exact ⟨_, _, _, rfl, Nat.le_refl _⟩
  · simp only [Value.cells] at hcs
    simp at hcs
    obtain ⟨rfl, rfl, rfl⟩ := hcs
    exact ⟨_, _, _, rfl, hl⟩
theorem capRow {w : World} {v : Value} {l : List VM.Vl} (h : IsRow w v l) (hc : CapOk v) : RowC w v l := by
  obtain ⟨a, cap, rfl, h⟩ := h
  obtain ⟨a', n, c, e, hn⟩ := hc
  simp only [Value.slice.injEq] at e
  obtain ⟨rfl, rfl, rfl⟩ := e
  exact ⟨a, cap, rfl, hn, h⟩
theorem reads (s : ByteArray) (hs : s.size ≤ 140737488351232) : ∃ (xs : List VM.Vl) (F : Int), xs.length ≤ 8 ∧ ∀ e w', UnkeysAs s e w' → ∃ v, e = .returned (.tuple #[v, .int .i64 F]) ∧ IsRow w' v xs := by
  unfold UnkeysAs
  match hr : KR.kr 8 s.data.toList with
  | .error c =>
    exact ⟨[], c, by simp, fun e w' h => ⟨.slice none 0 0, h, ⟨none, 0, rfl, Or.inl rfl⟩⟩⟩
  | .ok (xs, t) =>
    have key : ∀ (n : Nat) (l t : List UInt8) (xs : List VM.Vl), KR.kr n l = .ok (xs, t) → xs.length ≤ n := by
      intro n
      induction n with
      | zero =>
        intro l t xs h
        cases l with
        | nil => cases h; simp
        | cons b l => cases h
      | succ n ih =>
        intro l t xs h
        cases l with
        | nil => cases h; simp
        | cons b l =>
          rw [KR.kr] at h
          split at h
          · cases h
          · split at h
            · cases h
            · rename_i hh
              cases h
              have := ih _ _ _ hh
              simp; omega
    exact ⟨xs, 0, key 8 _ _ _ hr, fun e w' h => h⟩

set_option maxHeartbeats 4000000 in
theorem core (v u : Value) (s K : ByteArray) (n : Int) (ea eb e : Nat) (xs : List VM.Vl) (g : Int) (w : World) (hx : xs.length ≤ 8)
    (c1 : Calls Try.prog 18 #[v, u] w fun q w' => q = .returned (.tuple #[.int .i64 n, .int .i64 e]) ∧ Fr w w')
    (c2 : ∀ W, Fr w W → Calls Try.prog 19 #[v] W fun q w' => q = .returned (.tuple #[.string K, .int .i64 ea]) ∧ Fr W w')
    (c3 : ∀ W, Calls Try.prog 20 #[.string s] W fun q w' => (∃ r, q = .returned (.tuple #[r, .int .i64 g]) ∧ IsRow w' r xs) ∧ Fr W w')
    (c4 : ∀ W, Fr w W → Calls Try.prog 13 #[v] W fun q w' => q = .returned (.int .i64 ea) ∧ Fr W w')
    (hc : (ea ≠ 0 ∧ K = ⟨#[]⟩ ∧ n = 0 ∧ e = ea) ∨ (ea = 0 ∧ (∀ W, Fr w W → Calls Try.prog 21 #[v] W fun q w' => q = .returned (.string K) ∧ Fr W w') ∧ (∀ W, Fr w W → Calls Try.prog 13 #[u] W fun q w' => q = .returned (.int .i64 eb) ∧ Fr W w') ∧
      ((eb ≠ 0 ∧ n = 0 ∧ e = eb) ∨ (eb = 0 ∧ e = 0 ∧ ∀ W, Fr w W → Calls Try.prog 22 #[v, u] W fun q w' => q = .returned (.int .i64 n) ∧ Fr W w'))))
    (c9 : ∀ W, Calls Try.prog 23 #[.string s] W fun q w' => (∃ r, q = .returned (.tuple #[r, .int .i64 g]) ∧ IsRow w' r xs) ∧ Fr W w') :
    Calls Try.prog 7 #[v, u, .string s] w fun q w' => q = .returned (.bool true) ∧ Fr w w' := by
  have C2 : Hid _ := c2
  have C4 : Hid _ := c4
  have HC : Hid _ := hc
  clear c2 c4 hc
  go_enter Try.func7, Try.ntmps7
  go_wp2_with fail
  refine c1.mono ?_
  rintro _ w1 ⟨rfl, f1⟩
  have F1 : Hid _ := f1
  have c2 := C2.out w1 f1
  clear f1 c1 C2
  go_wp2_with fail
  refine c2.mono ?_
  rintro _ w2 ⟨rfl, f2⟩
  have F2 : Hid (Fr w w2) := Fr.trans F1.out f2
  clear f2 c2 F1
  go_wp2_with fail
  refine (c3 _).mono ?_
  rintro _ w3 ⟨⟨r, rfl, hr⟩, f3⟩
  have F3 : Hid (Fr w w3) := Fr.trans F2.out f3
  have HV3 : Hid _ := hr
  have c4 := C4.out w3 F3.out
  clear f3 c3 F2 C4 hr
  go_wp2_with fail
  refine c4.mono ?_
  rintro _ w4 ⟨rfl, f4⟩
  have F4 : Hid (Fr w w4) := Fr.trans F3.out f4
  have HV4 : Hid (IsRow w4 r xs) := IsRow.fr HV3.out f4
  clear f4 c4 F3 HV3
  have hc := HC.out
  clear HC
  rcases hc with ⟨he, rfl, rfl, rfl⟩ | ⟨rfl, c5, c6, hc⟩
  · have q1 : ((e : Int) == 0) = false := by rw [beq_eq_false_iff_ne]; omega
    have q2 : ¬ ((e : Int) = 0) := by omega
    clear he
    go_wp2_with fail
    refine (c9 _).mono ?_
    rintro _ wa ⟨⟨r2, rfl, hr2⟩, fa⟩
    have Fa : Hid (Fr w wa) := Fr.trans F4.out fa
    have HVa : Hid (IsRow wa r xs) := IsRow.fr HV4.out fa
    have HUa : Hid _ := hr2
    clear fa c9 F4 HV4 hr2
    go_wp2_with fail
    refine (begun_any _).mono ?_
    rintro _ wb ⟨rfl, fb⟩
    have Fb : Hid (Fr w wb) := Fr.trans Fa.out fb
    have hsr := sameRow_eq r r2 xs wb (IsRow.fr HVa.out fb) (IsRow.fr HUa.out fb) (by omega)
    clear fb Fa HVa HUa
    go_wp2_with fail
    refine hsr.mono ?_
    rintro _ wc ⟨rfl, fc⟩
    have Fc : Hid (Fr w wc) := Fr.trans Fb.out fc
    clear fc hsr Fb
    go_wp2_with fail
    go_ret
    exact ⟨rfl, Fc.out⟩
  · have c5' := c5 w4 F4.out
    have C6 : Hid _ := c6
    have HC : Hid _ := hc
    clear c5 c6 hc
    go_wp2_with fail
    refine c5'.mono ?_
    rintro _ w5 ⟨rfl, f5⟩
    have F5 : Hid (Fr w w5) := Fr.trans F4.out f5
    have HV5 : Hid (IsRow w5 r xs) := IsRow.fr HV4.out f5
    have c6 := C6.out w5 F5.out
    clear f5 c5' F4 HV4 C6
    go_wp2_with fail
    refine c6.mono ?_
    rintro _ w6 ⟨rfl, f6⟩
    have F6 : Hid (Fr w w6) := Fr.trans F5.out f6
    have HV6 : Hid (IsRow w6 r xs) := IsRow.fr HV5.out f6
    clear f6 c6 F5 HV5
    have hc := HC.out
    clear HC
    rcases hc with ⟨he, rfl, rfl⟩ | ⟨rfl, rfl, c7⟩
    · have q1 : ((e : Int) == 0) = false := by rw [beq_eq_false_iff_ne]; omega
      have q2 : ¬ ((e : Int) = 0) := by omega
      clear he
      go_wp2_with fail
      refine (c9 _).mono ?_
      rintro _ wa ⟨⟨r2, rfl, hr2⟩, fa⟩
      have Fa : Hid (Fr w wa) := Fr.trans F6.out fa
      have HVa : Hid (IsRow wa r xs) := IsRow.fr HV6.out fa
      have HUa : Hid _ := hr2
      clear fa c9 F6 HV6 hr2
      go_wp2_with fail
      refine (begun_any _).mono ?_
      rintro _ wb ⟨rfl, fb⟩
      have Fb : Hid (Fr w wb) := Fr.trans Fa.out fb
      have hsr := sameRow_eq r r2 xs wb (IsRow.fr HVa.out fb) (IsRow.fr HUa.out fb) (by omega)
      clear fb Fa HVa HUa
      go_wp2_with fail
      refine hsr.mono ?_
      rintro _ wc ⟨rfl, fc⟩
      have Fc : Hid (Fr w wc) := Fr.trans Fb.out fc
      clear fc hsr Fb
      go_wp2_with fail
      go_ret
      exact ⟨rfl, Fc.out⟩
    · have c7' := c7 w6 F6.out
      clear c7
      go_wp2_with fail
      refine c7'.mono ?_
      rintro _ w7 ⟨rfl, f7⟩
      have F7 : Hid (Fr w w7) := Fr.trans F6.out f7
      have HV7 : Hid (IsRow w7 r xs) := IsRow.fr HV6.out f7
      clear f7 c7' F6 HV6
      go_wp2_with fail
      refine (c9 _).mono ?_
      rintro _ wa ⟨⟨r2, rfl, hr2⟩, fa⟩
      have Fa : Hid (Fr w wa) := Fr.trans F7.out fa
      have HVa : Hid (IsRow wa r xs) := IsRow.fr HV7.out fa
      have HUa : Hid _ := hr2
      clear fa c9 F7 HV7 hr2
      go_wp2_with fail
      refine (begun_any _).mono ?_
      rintro _ wb ⟨rfl, fb⟩
      have Fb : Hid (Fr w wb) := Fr.trans Fa.out fb
      have hsr := sameRow_eq r r2 xs wb (IsRow.fr HVa.out fb) (IsRow.fr HUa.out fb) (by omega)
      clear fb Fa HVa HUa
      go_wp2_with fail
      refine hsr.mono ?_
      rintro _ wc ⟨rfl, fc⟩
      have Fc : Hid (Fr w wc) := Fr.trans Fb.out fc
      clear fc hsr Fb
      go_wp2_with fail
      go_ret
      exact ⟨rfl, Fc.out⟩

theorem sz_ok {l : List VM.Vl} (h : ∀ x ∈ l, VM.chk x = 0) : ∀ x ∈ l, x.s.size ≤ maxLen := by
  intro x hx
  have := (WM.chk_ok (h x hx)).2.2.2.2
  unfold maxLen
  omega
theorem walk (v : Value) (l : List VM.Vl) (u : Value) (m : List VM.Vl) (s : ByteArray) (w : World) (hv : IsRow w v l) (hw : Wide l) (hl : l.length ≤ 9223372036854775807) (hcv : CapOk v) (hu : IsRow w u m) (hw2 : Wide m) (hm : m.length ≤ 9223372036854775807) (hcu : CapOk u) (hs : s.size ≤ 140737488351232) :
    Calls Try.prog 7 #[v, u, .string s] w fun q w' => q = .returned (.bool true) ∧ Fr w w' := by
  obtain ⟨xs, g, hx, hrd⟩ := reads s hs
  have c3 : ∀ W, Calls Try.prog 20 #[.string s] W fun q w' => (∃ v, q = .returned (.tuple #[v, .int .i64 g]) ∧ IsRow w' v xs) ∧ Fr W w' :=
    fun W => (recUnkey_any s W hs).mono fun e w' h => ⟨hrd e w' h.1, h.2⟩
  have c9 : ∀ W, Calls Try.prog 23 #[.string s] W fun q w' => (∃ v, q = .returned (.tuple #[v, .int .i64 g]) ∧ IsRow w' v xs) ∧ Fr W w' :=
    fun W => (unkeyOf_any s W hs).mono fun e w' h => ⟨hrd e w' h.1, h.2⟩
  have c1 := recCompare_any v u l m w hv hu hl hm
  by_cases ha : VM.chkRow l = 0
  · have c4 : ∀ W, Fr w W → Calls Try.prog 13 #[v] W fun q w' => q = .returned (.int .i64 (0 : Nat)) ∧ Fr W w' := by
      intro W f
      have h := refCheckRow_any v l W (hv.fr f) hl
      rw [ha] at h
      exact h
    rw [if_pos ha] at c1
    by_cases hb : VM.chkRow m = 0
    · rw [if_pos ⟨ha, hb⟩, hb] at c1
      have c6 : ∀ W, Fr w W → Calls Try.prog 13 #[u] W fun q w' => q = .returned (.int .i64 (0 : Nat)) ∧ Fr W w' := by
        intro W f
        have h := refCheckRow_any u m W (hu.fr f) hm
        rw [hb] at h
        exact h
      have a1 := (WM.chkRow_ok ha).2
      have a2 := (WM.chkRow_ok hb).2
      exact core v u s _ _ 0 0 0 xs g w hx c1 (fun W f => recKey_ok v l W (hv.fr f) hw ha) c3 c4 (Or.inr ⟨rfl, fun W f => rowKeyOf_any v l W (hv.fr f) hw ha, c6, Or.inr ⟨rfl, rfl, fun W f => rowOrder_any l m v u W ((capRow hv hcv).fr f) ((capRow hu hcu).fr f) a1 a2 (sz_ok a1) (sz_ok a2)⟩⟩) c9
    · rw [if_neg (fun h => hb h.2)] at c1
      exact core v u s _ _ 0 (VM.chkRow m) _ xs g w hx c1 (fun W f => recKey_ok v l W (hv.fr f) hw ha) c3 c4 (Or.inr ⟨rfl, fun W f => rowKeyOf_any v l W (hv.fr f) hw ha, fun W f => refCheckRow_any u m W (hu.fr f) hm, Or.inl ⟨hb, rfl, rfl⟩⟩) c9
  · rw [if_neg ha, if_neg (fun h => ha h.1)] at c1
    exact core v u s _ _ (VM.chkRow l) 0 _ xs g w hx c1 (fun W f => recKey_bad v l W (hv.fr f) hl ha) c3 (fun W f => refCheckRow_any v l W (hv.fr f) hl) (Or.inl ⟨ha, rfl, rfl, rfl⟩) c9

set_option maxRecDepth 100000 in
theorem lifted (os : Os) (started : os.Started) (H : Type) (enc : TypeId × Value → H) :
    ReturnsInHanded {} Try.checked os 7 .any (Rows.keyTellsSpec.pre6 enc Try.prog Try.f7 Rows.keyTellsRow.domain false) (Rows.keyTellsSpec.post enc Try.prog Try.f7 false true false false) := by
  refine returnsInHanded_of_change_sized (C := Try.checked) own started (by kernel_rfl) Try.func7
    (ChangeSpec.witness6 (enc := enc) (C := Try.checked) false ⟨#[], #[.slice none 0 0, .slice none 0 0, .string ByteArray.empty], []⟩ 8 (by kernel_rfl) (by kernel_rfl) (by kernel_rfl) (by kernel_rfl)) ?_
  intro W base args ds gs before hval0 hW hcnd hsz0 _
  have hval : ∀ (j : Nat) t v, Try.f7.params[j]? = some t → args[j]? = some v → Value.okWide Try.prog W .any base t v := hval0
  have hsz : (DataW.weightsEach Try.prog (Try.f7.params.toList ++ Rows.keyTellsSpec.plain.varTypes Try.prog) (ds ++ gs)).all (· ≤ reachBytes) = true := hsz0
  have hW' := hW
  obtain ⟨p, q, hA0, hV, rfl, hfz, hnd⟩ := hW
  have hA : DataW.TrodAll enc Try.prog W 0 (fun _ => true) true Try.f7.params.toList args.toList ds p := hA0
  rw [Try.params7] at hA hval hsz
  obtain ⟨v0, vs0, d0, ds0, p0, q0, hargs, rfl, rfl, h0, r0⟩ := trodAll_cons hA
  obtain ⟨v1, vs1, d1, ds1, p1, q1, rfl, rfl, rfl, h1, r1⟩ := trodAll_cons r0
  obtain ⟨v2, vs2, d2, ds2, p2, q2, rfl, rfl, rfl, h2, r2⟩ := trodAll_cons r1
  obtain ⟨rfl, rfl, rfl⟩ := trodAll_nil r2
  obtain rfl : args = #[v0, v1, v2] := by cases args; simp_all
  obtain ⟨rfl, rfl⟩ := trodVars_none hV
  obtain ⟨l0, rw0, wd0, ln0, sl0, dd0⟩ := open_row (hval 0 22 v0 rfl rfl) h0
  obtain ⟨l1, rw1, wd1, ln1, sl1, dd1⟩ := open_row (hval 1 22 v1 rfl rfl) h1
  obtain ⟨a2, rfl, rfl, rfl, w2⟩ := open_string Try.underlying9 (hval 2 9 v2 rfl rfl) h2
  have b2 : a2.size ≤ 140737488351232 := by
    have h := sized_string hsz (j := 2) (t := 9) rfl rfl
    simpa [reachBytes] using h
  clear hA0 hval0 hsz0
  refine (walk v0 l0 v1 l1 a2 W rw0 wd0 (by unfold maxLen at ln0; omega) (open_cap (hval 0 22 v0 rfl rfl) h0) rw1 wd1 (by unfold maxLen at ln1; omega) (open_cap (hval 1 22 v1 rfl rfl) h1) b2).mono fun e W' ⟨he, bel⟩ => ?_
  subst he
  exact ⟨_, rfl, _, _, _, [], _, [], hW', trodAll_mk1 (shut_bool Try.underlying4 _), (trodAll_cons_mk (shut_row h0 bel) (trodAll_cons_mk (shut_row h1 bel) (trodAll_cons_mk (shut_string Try.underlying9 w2) trodAll_mk0))), rfl, Below.frame bel _, fun h => by cases h⟩

theorem over : Rows.keyTellsRow.holds Try.pinned (OpenSpec.ofChange Rows.keyTellsSpec) :=
  OpenClaim.holds_of_wide 7 Try.f7 rfl rfl rfl rfl rfl rfl rfl ⟨rfl, rfl, rfl, rfl, rfl⟩ rfl rfl rfl rfl rfl (by kernel_rfl) Try.func7 (by kernel_rfl)
    (of_decide_eq_true (by kernel_rfl)) (by unfold Func.isWrapper; first | (rw [if_pos (by decide +kernel)]; kernel_rfl) | (rw [if_neg (by decide +kernel)]; exact ⟨rfl, rfl⟩))
    (fun os started H enc _ => lifted os started H enc)

end Go.Proofs.Ytpalikdnpchdeaa.keyTellsProof
namespace Go.Proofs.Ytpalikdnpchdeaa
theorem keyTells_holds : Rows.KeyTellsSaid := keyTellsProof.over
#print axioms keyTells_holds
end Go.Proofs.Ytpalikdnpchdeaa
