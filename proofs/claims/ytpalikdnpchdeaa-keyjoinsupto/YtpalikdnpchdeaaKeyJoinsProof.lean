/-
  Proved: for every two rows (of at most 1048576 values and letters together) KeyJoins answers true: the key of two rows put together is their keys put together. The condition is the second form's own.
-/
import Derived.Test.YtpalikdnpchdeaaAppRow
import Derived.Test.YtpalikdnpchdeaaRBegun
import Derived.Test.YtpalikdnpchdeaaLMath
namespace Go.Proofs.Ytpalikdnpchdeaa.keyJoinsProof
open Go.ChangeShapes Go.WideShapes Go.ChangeAt Go.RowKit
set_option linter.unusedVariables false
set_option linter.unusedSimpArgs false
set_option maxRecDepth 100000

def Fits (s t u : ByteArray) (e f g : Nat) : Prop := (e ≠ 0 ∧ g ≠ 0) ∨ (e = 0 ∧ ((f ≠ 0 ∧ g ≠ 0) ∨ (f = 0 ∧ (g ≠ 0 ∨ (g = 0 ∧ u = s ++ t ∧ s.size ≤ 1000 ∧ t.size ≤ 1000)))))

set_option maxHeartbeats 2000000 in
theorem core (va vb : Value) (a b : List VM.Vl) (s t u : ByteArray) (e f g : Nat) (w : World) (hfit : Fits s t u e f g) (ha : IsRow w va a) (hb : IsRow w vb b) (na : NilOrRow va) (nb : NilOrRow vb) (la : a.length ≤ 1048576) (lb : b.length ≤ 1048576)
    (k1 : Calls Try.prog 19 #[va] w fun q w' => q = .returned (.tuple #[.string s, .int .i64 e]) ∧ Fr w w')
    (k2 : ∀ W, Fr w W → Calls Try.prog 19 #[vb] W fun q w' => q = .returned (.tuple #[.string t, .int .i64 f]) ∧ Fr W w')
    (k3 : ∀ W r, IsRow W r (a ++ b) → Calls Try.prog 19 #[r] W fun q w' => q = .returned (.tuple #[.string u, .int .i64 g]) ∧ Fr W w') :
    Calls Try.prog 10 #[va, vb] w fun q w' => q = .returned (.bool true) ∧ Fr w w' := by
  have HA : Hid _ := ha
  have HB : Hid _ := hb
  have NA : Hid _ := na
  have NB : Hid _ := nb
  have K2 : Hid _ := k2
  have K3 : Hid _ := k3
  have HFIT : Hid _ := hfit
  clear ha hb na nb k2 k3 hfit
  go_enter Try.func10, Try.ntmps10
  go_wp2_with (go_at_call 19; refine k1.mono ?_)
  rintro _ w1 ⟨rfl, hf1⟩
  have k2 := K2.out w1 hf1
  have F1 : Hid _ := hf1
  clear hf1 k1 K2
  go_wp2_with (go_at_call 19; refine k2.mono ?_)
  rintro _ w2 ⟨rfl, hf2⟩
  have F2 : Hid (Fr w w2) := Fr.trans F1.out hf2
  clear hf2 k2 F1
  go_wp2_with (at_builtin; refine wpList_append_row rfl _ _ rfl w2.heap.size _ 0 [] rfl (World.ownsRow_lit _ #[] 0 (Nat.le_refl _) (by decide) rfl) _ a rfl (IsRow.fr HA.out (Fr.alloc F2.out _)) NA.out (by omega) (by simp) ?_)
  intro v1 w3 own1 gr1
  have f3 : Fr w2 w3 := Below.grown ((Fr.refl w2).alloc _) gr1 (by simp) (fun k hk => by simp [Value.ownBlock] at hk; omega)
  clear gr1
  go_wp2_with (at_builtin; refine wpList_append_row rfl _ _ rfl w2.heap.size _ _ a rfl own1 _ b rfl (IsRow.fr HB.out (Fr.trans F2.out f3)) NB.out (by omega) f3.size ?_)
  intro v2 w4 own2 gr2
  have f4 : Fr w2 w4 := Below.grown f3 gr2 f3.size (fun k hk => (own1.lt k hk).1)
  have k3 := K3.out _ _ (row_of_own own2)
  have F4 : Hid (Fr w w4) := Fr.trans F2.out f4
  clear own1 gr2 own2 f3 f4 F2 K3 HA HB NA NB
  go_wp2_with (go_at_call 19; refine k3.mono ?_)
  rintro _ w5 ⟨rfl, hf5⟩
  have F5 : Hid (Fr w w5) := Fr.trans F4.out hf5
  clear hf5 k3 F4
  go_wp2_with (go_at_call 16; refine (begun_any _).mono ?_)
  rintro _ w6 ⟨rfl, hf6⟩
  have F6 : Hid (Fr w w6) := Fr.trans F5.out hf6
  clear hf6 F5
  have hfit := HFIT.out
  clear HFIT
  rcases hfit with ⟨he, hg⟩ | ⟨rfl, ⟨he, hg⟩ | ⟨rfl, hg | ⟨rfl, rfl, s1, t1⟩⟩⟩
  · have q : ((e : Int) != 0) = true := by simp; omega
    have q' : ¬ ((e : Int) = 0) := by omega
    have r : ((g : Int) != 0) = true := by simp; omega
    have r' : ¬ ((g : Int) = 0) := by omega
    clear he hg
    go_wp2_with fail
    go_ret
    exact ⟨rfl, F6.out⟩
  · have q : ((f : Int) != 0) = true := by simp; omega
    have q' : ¬ ((f : Int) = 0) := by omega
    have r : ((g : Int) != 0) = true := by simp; omega
    have r' : ¬ ((g : Int) = 0) := by omega
    clear he hg
    go_wp2_with fail
    go_ret
    exact ⟨rfl, F6.out⟩
  · have r : ((g : Int) != 0) = true := by simp; omega
    have r' : ¬ ((g : Int) = 0) := by omega
    clear hg
    go_wp2_with fail
    go_ret
    exact ⟨rfl, F6.out⟩
  · have hsz : (s ++ t).size ≤ 9223372036854775807 := by rw [ByteArray.size_append]; omega
    have hsz2 : s.size + t.size ≤ 9223372036854775807 := by omega
    go_wp2_with fail
    go_ret
    exact ⟨by first | rfl | (refine ret_bool ?_; simp), F6.out⟩

theorem open_nilrow {H : Type} {enc : TypeId × Value → H} {W : World} {base : Nat} {r : Reach} {v : Value} {d : DataW H} {p : List MemPlace} (hval : Value.okWide Try.prog W r base 22 v)
    (h : DataW.Trod enc Try.prog W 0 (fun _ => true) true 22 v d p) : NilOrRow v := by
  obtain ⟨a0, len0, cap0, rfl⟩ := okWide_slice Try.underlying22 hval
  obtain ⟨fuel, hf⟩ := h
  rcases Deep.open_slice Try.underlying22 hf with ⟨hcs, hx⟩ | ⟨a, len, cap, m, n, D, Pl, hcs, _⟩
  · simp only [Value.cells] at hcs
    simp at hcs
    obtain ⟨rfl, rfl, rfl⟩ := hcs
    exact Or.inl rfl
  · simp only [Value.cells] at hcs
    simp at hcs
    obtain ⟨rfl, rfl, rfl⟩ := hcs
    exact Or.inr ⟨a, _, _, rfl⟩


theorem key_any (v : Value) (l : List VM.Vl) (W : World) (hr : IsRow W v l) (hw : Wide l) (hl : l.length ≤ 9223372036854775807) :
    Calls Try.prog 19 #[v] W fun q w' => q = .returned (.tuple #[.string (if VM.chkRow l = 0 then ⟨(KM.row l).toArray⟩ else ⟨#[]⟩), .int .i64 (VM.chkRow l)]) ∧ Fr W w' := by
  by_cases h : VM.chkRow l = 0
  · rw [if_pos h, h]
    exact recKey_ok v l W hr hw h
  · rw [if_neg h]
    exact recKey_bad v l W hr hl h
theorem chk_of {l : List VM.Vl} (h8 : l.length ≤ 8) (h : ∀ x ∈ l, VM.chk x = 0) : VM.chkRow l = 0 := by
  unfold VM.chkRow
  rw [if_neg (by omega)]
  exact LM.chkAll_mk h
theorem key_small {l : List VM.Vl} (h : VM.chkRow l = 0) : (⟨(KM.row l).toArray⟩ : ByteArray).size ≤ 1000 := by
  obtain ⟨h8, ha⟩ := WM.chkRow_ok h
  have e2 : ∀ m : List VM.Vl, (∀ x ∈ m, (KM.kb x).length ≤ 35) → (m.flatMap KM.kb).length ≤ 35 * m.length := by
    intro m
    induction m with
    | nil => simp
    | cons a t ih =>
      intro hm
      have h1 := hm a (by simp)
      have h2 := ih (fun x hx => hm x (by simp [hx]))
      simp only [List.flatMap_cons, List.length_append, List.length_cons]
      omega
  have e3 := e2 l (fun x hx => KM.kb_len (WM.chk_ok (ha x hx)).2.2.2.2)
  rw [mk_size]
  unfold KM.row
  omega
theorem fits (a b : List VM.Vl) : Fits (if VM.chkRow a = 0 then ⟨(KM.row a).toArray⟩ else ⟨#[]⟩) (if VM.chkRow b = 0 then ⟨(KM.row b).toArray⟩ else ⟨#[]⟩) (if VM.chkRow (a ++ b) = 0 then ⟨(KM.row (a ++ b)).toArray⟩ else ⟨#[]⟩) (VM.chkRow a) (VM.chkRow b) (VM.chkRow (a ++ b)) := by
  unfold Fits
  by_cases hg : VM.chkRow (a ++ b) = 0
  · obtain ⟨h8, hall⟩ := WM.chkRow_ok hg
    have ha : VM.chkRow a = 0 := chk_of (by rw [List.length_append] at h8; omega) (fun x hx => hall x (by simp [hx]))
    have hb : VM.chkRow b = 0 := chk_of (by rw [List.length_append] at h8; omega) (fun x hx => hall x (by simp [hx]))
    refine Or.inr ⟨ha, Or.inr ⟨hb, Or.inr ⟨hg, ?_⟩⟩⟩
    rw [if_pos hg, if_pos ha, if_pos hb]
    have : KM.row (a ++ b) = KM.row a ++ KM.row b := by simp [KM.row]
    rw [this]
    refine ⟨?_, key_small ha, key_small hb⟩
    apply ByteArray.ext
    simp
  · by_cases ha : VM.chkRow a = 0
    · by_cases hb : VM.chkRow b = 0
      · exact Or.inr ⟨ha, Or.inr ⟨hb, Or.inl hg⟩⟩
      · exact Or.inr ⟨ha, Or.inl ⟨hb, hg⟩⟩
    · exact Or.inl ⟨ha, hg⟩
theorem walk (va : Value) (a : List VM.Vl) (vb : Value) (b : List VM.Vl) (w : World) (ha : IsRow w va a) (wa : Wide a) (la : a.length ≤ 1048576) (na : NilOrRow va) (hb : IsRow w vb b) (wb : Wide b) (lb : b.length ≤ 1048576) (nb : NilOrRow vb) :
    Calls Try.prog 10 #[va, vb] w fun q w' => q = .returned (.bool true) ∧ Fr w w' :=
  core va vb a b _ _ _ _ _ _ w (fits a b) ha hb na nb la lb (key_any va a w ha wa (by omega)) (fun W f => key_any vb b W (hb.fr f) wb (by omega))
    (fun W r hr => key_any r (a ++ b) W hr (fun x hx => by rcases List.mem_append.1 hx with h | h; exact wa x h; exact wb x h) (by simp; omega))

theorem contract (H : Type) (enc : TypeId × Value → H) (W : World) (base : Nat) (args : Array Value) (ds gs : List (DataW H)) (before : List MemPlace)
    (hval : ∀ (j : Nat) t v, Try.f10.params[j]? = some t → args[j]? = some v → Value.okWide Try.prog W .any base t v)
    (hW : DataW.Whole enc Try.prog Try.f10.params.toList Rows.keyJoinsSpec.vars false W args.toList ds gs before) (hk : Rows.uptoSmall H (ds ++ gs) = true) :
    Calls Try.prog 10 args W fun e W' => ∃ v, e = .returned v ∧ Rows.keyJoinsSpec.post enc Try.prog Try.f10 false true false false W args v W' := by
  have hW' := hW
  obtain ⟨p, q, hA0, hV, rfl, hfz, hnd⟩ := hW
  have hA : DataW.TrodAll enc Try.prog W 0 (fun _ => true) true Try.f10.params.toList args.toList ds p := hA0
  rw [Try.params10] at hA hval
  obtain ⟨v0, vs0, d0, ds0, p0, q0, hargs, rfl, rfl, h0, r0⟩ := trodAll_cons hA
  obtain ⟨v1, vs1, d1, ds1, p1, q1, rfl, rfl, rfl, h1, r1⟩ := trodAll_cons r0
  obtain ⟨rfl, rfl, rfl⟩ := trodAll_nil r1
  obtain rfl : args = #[v0, v1] := by cases args; simp_all
  obtain ⟨rfl, rfl⟩ := trodVars_none hV
  obtain ⟨l0, rw0, wd0, ln0, sl0, dd0⟩ := open_row (hval 0 22 v0 rfl rfl) h0
  obtain ⟨l1, rw1, wd1, ln1, sl1, dd1⟩ := open_row (hval 1 22 v1 rfl rfl) h1
  have hbulk : Rows.uptoBulkAll (H := H) [d0, d1] ≤ 1048576 := of_decide_eq_true hk
  simp only [Rows.uptoBulkAll, Rows.uptoBulk] at hbulk
  have b0 : l0.length ≤ 1048576 := by
    have := row_bulk dd0
    omega
  have b1 : l1.length ≤ 1048576 := by
    have := row_bulk dd1
    omega
  clear hA0
  simp only [List.append_nil] at hW'
  refine (walk v0 l0 v1 l1 W rw0 wd0 b0 (open_nilrow (hval 0 22 v0 rfl rfl) h0) rw1 wd1 b1 (open_nilrow (hval 1 22 v1 rfl rfl) h1)).mono fun e W' ⟨he, bel⟩ => ?_
  subst he
  exact ⟨_, rfl, _, _, _, [], _, [], hW', trodAll_mk1 (shut_bool Try.underlying4 _), (trodAll_cons_mk (shut_row h0 bel) (trodAll_cons_mk (shut_row h1 bel) trodAll_mk0)), rfl, Below.frame bel _, fun h => by cases h⟩

set_option maxRecDepth 100000 in
theorem lifted (os : Os) (started : os.Started) (H : Type) (enc : TypeId × Value → H) (F : Stop.Interp) :
    ReturnsInHanded {} Try.checked os 10 .any ((Rows.OpenSpec.upto Rows.keyJoinsSpec).pre6 enc Try.prog Try.f10 Rows.keyJoinsUptoRow.domain false) (((Rows.OpenSpec.upto Rows.keyJoinsSpec).at F).post enc Try.prog Try.f10 false true false false) := by
  refine returnsInHanded_of_cond (C := Try.checked) (s := Rows.OpenSpec.upto Rows.keyJoinsSpec) (k := Rows.uptoSmall) rfl own started (by kernel_rfl) Try.func10
    (OpenSpec.witness (enc := enc) (C := Try.checked) (s := Rows.OpenSpec.upto Rows.keyJoinsSpec) (k := Rows.uptoSmall) rfl false ⟨#[], #[.slice none 0 0, .slice none 0 0], []⟩ 8 (by kernel_rfl) (by kernel_rfl) (by kernel_rfl)
      (x := ([.nil, .nil], [], [])) (by kernel_rfl) rfl (by kernel_rfl)) ?_
  intro W base args ds gs before hval hW _ hk _
  exact contract H enc W base args ds gs before hval hW hk

theorem over : Rows.keyJoinsUptoRow.holds Try.pinned (Rows.OpenSpec.upto Rows.keyJoinsSpec) :=
  OpenClaim.holds_of_cond 10 Try.f10 rfl rfl rfl rfl rfl rfl rfl ⟨rfl, rfl, rfl, rfl, rfl⟩ rfl rfl rfl rfl rfl (by kernel_rfl) Try.func10 (by kernel_rfl)
    (of_decide_eq_true (by kernel_rfl)) (by unfold Func.isWrapper; first | (rw [if_pos (by decide +kernel)]; kernel_rfl) | (rw [if_neg (by decide +kernel)]; exact ⟨rfl, rfl⟩))
    (fun os started H enc _ F => lifted os started H enc F)

end Go.Proofs.Ytpalikdnpchdeaa.keyJoinsProof
namespace Go.Proofs.Ytpalikdnpchdeaa
theorem keyJoinsUpto_holds : Rows.KeyJoinsUptoSaid := keyJoinsProof.over
#print axioms keyJoinsUpto_holds
end Go.Proofs.Ytpalikdnpchdeaa
