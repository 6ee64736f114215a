/-
  Proved: for every list of entries FillTells answers true: Fill answers just what the document says, errors too. No condition but the form's own reach.
-/
import Derived.Test.YthpcdhnaibpjnaaLfBh
import Derived.Test.YthpcdhnaibpjnaaOpen
import Derived.Test.YthpcdhnaibpjnaaRefFO
namespace Go.Proofs.Ythpcdhnaibpjnaa.FillTells
open Go.ChangeShapes Go.WideShapes Go.ChangeAt Go.RowKit
open Go.ChangeMaps (open_string shut_string)
set_option linter.unusedVariables false
set_option linter.unusedSimpArgs false
set_option maxRecDepth 100000

theorem open_capE {H : Type} {enc : TypeId × Value → H} {W : World} {base : Nat} {r : Reach} {v : Value} {d : DataW H} {p : List MemPlace} (hval : Value.okWide Try.prog W r base 22 v)
    (h : DataW.Trod enc Try.prog W 0 (fun _ => true) true 22 v d p) : ∀ a n c, v = .slice a n c → n ≤ c := by
  obtain ⟨a0, len0, cap0, rfl⟩ := okWide_slice Try.underlying22 hval
  obtain ⟨fuel, hf⟩ := h
  intro a n c e
  simp only [Value.slice.injEq] at e
  obtain ⟨rfl, rfl, rfl⟩ := e
  rcases Deep.open_slice Try.underlying22 hf with ⟨hcs, hx⟩ | ⟨a, len, cap, m, n, D, Pl, hcs, hb, hl, _⟩
  · simp only [Value.cells] at hcs
    simp at hcs
    omega
  · simp only [Value.cells] at hcs
    simp at hcs
    omega
theorem fill_mem : ∀ (l : List LF.En), ∀ p ∈ LF.fill l, ∀ e ∈ p, e ∈ l := by
  have key : ∀ N (l : List LF.En), l.length ≤ N → ∀ p ∈ LF.fill l, ∀ e ∈ p, e ∈ l := by
    intro N
    induction N with
    | zero =>
      intro l hl p hp
      obtain rfl := List.eq_nil_of_length_eq_zero (Nat.le_zero.1 hl)
      simp [LF.fill, LF.fl] at hp
    | succ N ih =>
      intro l hl p hp e he
      by_cases h : l = []
      · subst h; simp [LF.fill, LF.fl] at hp
      · rw [LF.fill_nx h] at hp
        rcases List.mem_cons.1 hp with rfl | hp
        · exact List.mem_of_mem_take he
        · have h1 := LF.nx_pos h
          have := ih (l.drop (LF.nx l)) (by rw [List.length_drop]; omega) p hp e he
          exact List.mem_of_mem_drop this
  exact fun l => key l.length l (Nat.le_refl _)
theorem fill_part_len : ∀ (l : List LF.En), ∀ p ∈ LF.fill l, p.length ≤ l.length := by
  have key : ∀ N (l : List LF.En), l.length ≤ N → ∀ p ∈ LF.fill l, p.length ≤ l.length := by
    intro N
    induction N with
    | zero =>
      intro l hl p hp
      obtain rfl := List.eq_nil_of_length_eq_zero (Nat.le_zero.1 hl)
      simp [LF.fill, LF.fl] at hp
    | succ N ih =>
      intro l hl p hp
      by_cases h : l = []
      · subst h; simp [LF.fill, LF.fl] at hp
      · rw [LF.fill_nx h] at hp
        rcases List.mem_cons.1 hp with rfl | hp
        · rw [List.length_take]; omega
        · have h1 := LF.nx_pos h
          have := ih (l.drop (LF.nx l)) (by rw [List.length_drop]; omega) p hp
          rw [List.length_drop] at this
          omega
  exact fun l => key l.length l (Nat.le_refl _)

theorem s2_fr {W W' : World} {p q : Addr} {a b : Value} (hp : p.block < W.heap.size) (hq : q.block < W.heap.size) (f : Fr W W') (h : W.cell? p = some a ∧ W.cell? q = some b) : W'.cell? p = some a ∧ W'.cell? q = some b := by
  obtain ⟨h1, h2⟩ := h
  exact ⟨(World.cell?_of_block (f.block _ hp)).trans h1, (World.cell?_of_block (f.block _ hq)).trans h2⟩

set_option maxHeartbeats 2000000 in
theorem walk (v0 : Value) (l0 : List LF.En) (w : World) (hv : IsEn w v0 l0) (hw : WideE l0) (hl : l0.length * 32 ≤ 140737488351232) (hcap : ∀ a n c, v0 = .slice a n c → n ≤ c) :
    Calls Try.prog 6 #[v0] w fun e w' => e = .returned (.bool true) ∧ Fr w w' := by
  have hfi := fill_any v0 l0 w hv (by omega) hw
  have hec := fun W (f : Fr w W) => entriesCheck_any v0 l0 W (hv.fr f) (by omega) hw
  by_cases hc : LF.chk l0 = 0
  · simp only [FillAs, if_pos hc] at hfi
    rw [hc] at hec
    obtain ⟨h40, hce⟩ := LF.chk_ok hc
    have hright : Right l0 := fun e he => ⟨(LF.chkE_ok hce e he).2, (hw e he).1⟩
    have hfo := fun W (f : Fr w W) => fillOf_any l0.length v0 l0 w W (Nat.le_refl _) f hv hcap h40 hright
    have hLl := fill_len l0
    have hLr : ∀ p ∈ LF.fill l0, p.length ≤ 9223372036854775806 ∧ ∀ e ∈ p, e.2.length ≤ 9223372036854775806 := fun p hp => by
      refine ⟨?_, fun e he => ?_⟩
      · have := fill_part_len l0 p hp
        omega
      · have h1 := fill_mem l0 p hp e he
        have := (WM.chkRow_ok (hright e h1).1).1
        omega
    generalize LF.fill l0 = L at *
    have HLR := hideP hLr
    have hL40 : L.length ≤ 40 := by omega
    obtain ⟨a0, c0, rfl, _⟩ := hv
    clear hw hcap hright hLr hce hc hLl
    go_enter Try.func6, Try.ntmps6
    go_wp2_with fail
    refine hfi.mono ?_
    rintro _ w1 ⟨⟨u, ps, rfl, ho2, hmp⟩, f1⟩
    have hls := ho2.ls
    rw [hmp] at hls
    have HLS := hideP hls
    have F1 := hideP f1
    have hec1 := hec w1 f1
    obtain ⟨aL, cL, rfl, _⟩ := hls
    clear hfi f1 ho2 hmp hec
    go_wp2_with fail
    refine hec1.mono ?_
    rintro _ w2 ⟨rfl, f2⟩
    have F2 := hideP (Fr.trans F1.out f2)
    have HL2 := hideP (IsLs.fr HLS.out f2)
    clear hec1 f2 F1 HLS
    go_wp2_with fail
    refine (begun_any _).mono ?_
    rintro _ w3 ⟨rfl, f3⟩
    have F3 := hideP (Fr.trans F2.out f3)
    have HL3 := hideP (IsLs.fr HL2.out f3)
    have hfo3 := hfo w3 F3.out
    clear f3 F2 HL2 hfo
    go_wp2_with fail
    refine hfo3.mono ?_
    rintro _ w4 ⟨⟨a4, k4, vals, rfl, hvl, hve, hcell⟩, f4⟩
    have F4 := hideP (Fr.trans F3.out f4)
    have HL4 := hideP (IsLs.fr HL3.out f4)
    have HVE := hideP hve
    have HCE := hideP hcell
    have HVL := hideP hvl
    clear hfo3 f4 F3 HL3 hve hcell hvl
    go_wp2_with fail
    go_loopw [7] (fun iv wr => ∃ i : Nat, iv = .int .i64 i ∧ i ≤ L.length ∧ Fr w4 wr) (fun iv _ => L.length - (intOf iv).toNat)
    case atStart => exact ⟨0, rfl, Nat.zero_le _, Fr.refl _⟩
    case round =>
      obtain ⟨i, rfl, hi, hfr⟩ := hrel
      by_cases hlt : i < L.length
      · obtain ⟨a9, c9, e9, hb9⟩ := HL4.out
        simp only [Value.slice.injEq, true_and] at e9
        obtain ⟨rfl, rfl⟩ := e9
        obtain ⟨bL, oL, rfl, hbL, hcL⟩ : ∃ b o, aL = some ⟨b, o, none⟩ ∧ b < w4.heap.size ∧ ∀ i (h : i < L.length), ∃ v, w4.cell? ⟨b, o + i, none⟩ = some v ∧ IsEn w4 v L[i] := by
          rcases hb9 with h | h
          · subst h; simp at hlt
          · exact h
        obtain ⟨bF, oF, rfl, hbF, hcF⟩ : ∃ b o, a4 = some ⟨b, o, none⟩ ∧ b < w4.heap.size ∧ ∀ j u, vals[j]? = some u → w4.cell? ⟨b, o + j, none⟩ = some u := by
          rcases HCE.out with ⟨h, _⟩ | ⟨_, h⟩
          · subst h; simp at hlt
          · exact h
        obtain ⟨v1, k1, e1⟩ := hcL i hlt
        have hiv : i < vals.length := by rw [HVL.out]; exact hlt
        have k2 := hcF i vals[i] (List.getElem?_eq_getElem hiv)
        have e2 := IsEn.fr (HVE.out i hlt hiv) F4.out
        obtain ⟨hp1, hp2⟩ := HLR.out L[i] (List.getElem_mem hlt)
        generalize vals[i] = v2 at *
        have hse := fun W (f : Fr w4 W) => sameEntries_eq v1 v2 L[i] W (IsEn.fr e1 f) (IsEn.fr e2 f) hp1 hp2
        generalize L[i] = p at *
        obtain ⟨a1, q1, rfl, _⟩ := e1
        obtain ⟨a2, q2, rfl, _⟩ := e2
        have HS := hideP (s2_fr hbL hbF hfr ⟨k1, k2⟩)
        have HFR := hideP hfr
        have hbLr : bL < wr.heap.size := Nat.lt_of_lt_of_le hbL hfr.size
        have hbFr : bF < wr.heap.size := Nat.lt_of_lt_of_le hbF hfr.size
        have hlt' : (i : Int) < (L.length : Int) := by omega
        clear hcL hcF k1 k2 hfr hb9
        go_wp2_with fail
        go_region_held3 (fun W => W.cell? ⟨bL, oL + i, none⟩ = some (.slice a1 p.length q1) ∧ W.cell? ⟨bF, oF + i, none⟩ = some (.slice a2 p.length q2)) (first | exact HS.out | assumption) (first | (go_at_call 15; refine (hse _ (by first | exact HFR.out | exact Fr.drew HFR.out)).mono ?_; rintro _ w5 ⟨rfl, f5⟩; have F5 : Hid (Fr wr w5) := (by first | exact f5 | exact Fr.trans (Fr.drew (Fr.refl _)) f5); have hS5 := s2_fr hbLr hbFr F5.out HS.out; clear f5))
        all_goals
          go_wp2_with fail
          go_roundw
          case rel => exact ⟨i + 1, by go_num, by omega, Fr.trans HFR.out F5.out⟩
          case measure => simp [intOf]; omega
      · obtain rfl : i = L.length := by omega
        go_wp2_with fail
        go_ret
        exact ⟨rfl, Fr.trans F4.out hfr⟩
  · simp only [FillAs, if_neg hc] at hfi
    generalize LF.chk l0 = c at *
    have q1 : ((c : Int) != 0) = true := by simp; omega
    have q2 : ¬ ((c : Int) = 0) := by omega
    clear hv hw hcap
    go_enter Try.func6, Try.ntmps6
    go_wp2_with fail
    refine hfi.mono ?_
    rintro _ w1 ⟨rfl, f1⟩
    have F1 := hideP f1
    have hec1 := hec w1 f1
    clear hfi f1 hec
    go_wp2_with fail
    refine hec1.mono ?_
    rintro _ w2 ⟨rfl, f2⟩
    have F2 := hideP (Fr.trans F1.out f2)
    clear hec1 f2 F1
    go_wp2_with fail
    refine (begun_any _).mono ?_
    rintro _ w3 ⟨rfl, f3⟩
    have F3 := hideP (Fr.trans F2.out f3)
    clear f3 F2
    go_wp2_with fail
    go_ret
    exact ⟨rfl, F3.out⟩

set_option maxRecDepth 100000 in
theorem lifted (os : Go.Os) (started : os.Started) (H : Type) (enc : TypeId × Value → H) :
    ReturnsInHanded {} Try.checked os 6 .any (Rows.fillTellsSpec.pre6 enc Try.prog Try.f6 Rows.fillTellsRow.domain false) (Rows.fillTellsSpec.post enc Try.prog Try.f6 false true false false) := by
  refine returnsInHanded_of_change_sized (C := Try.checked) own started (by kernel_rfl) Try.func6
    (ChangeSpec.witness6 (enc := enc) (C := Try.checked) false ⟨#[], #[.slice none 0 0], []⟩ 8 (by kernel_rfl) (by kernel_rfl) (by kernel_rfl) (by kernel_rfl)) ?_
  intro W base args ds gs before hval0 hW hcnd hsz0 _
  have hval : ∀ (j : Nat) t v, Try.f6.params[j]? = some t → args[j]? = some v → Value.okWide Try.prog W .any base t v := hval0
  have hsz : (DataW.weightsEach Try.prog (Try.f6.params.toList ++ Rows.fillTellsSpec.plain.varTypes Try.prog) (ds ++ gs)).all (· ≤ reachBytes) = true := hsz0
  have hW' := hW
  obtain ⟨p, q, hA0, hV, rfl, hfz, hnd⟩ := hW
  have hA : DataW.TrodAll enc Try.prog W 0 (fun _ => true) true Try.f6.params.toList args.toList ds p := hA0
  rw [Try.params6] at hA hval hsz
  obtain ⟨v0, vs0, d0, ds0, p0, q0, hargs, rfl, rfl, h0, r0⟩ := trodAll_cons hA
  obtain ⟨rfl, rfl, rfl⟩ := trodAll_nil r0
  obtain rfl : args = #[v0] := by cases args; simp_all
  obtain ⟨rfl, rfl⟩ := trodVars_none hV
  obtain ⟨l0, rw0, wd0, ln0, dd0⟩ := open_ens (hval 0 22 v0 rfl rfl) h0
  have b0 : l0.length * 32 ≤ 140737488351232 := by
    rcases dd0 with ⟨_, rfl⟩ | ⟨es, sp, hd, hl⟩
    · simp
    · have h := sized_slice hsz (j := 0) (t := 22) rfl (by rw [hd]; rfl) Try.underlying22
      rw [Try.bytesEn] at h
      unfold reachBytes at h
      omega
  clear hA0 hval0 hsz0
  refine (walk v0 l0 W rw0 wd0 b0 (open_capE (hval 0 22 v0 rfl rfl) h0)).mono fun e W' ⟨he, bel⟩ => ?_
  subst he
  exact ⟨_, rfl, _, _, _, [], _, [], hW', trodAll_mk1 (shut_bool Try.underlying4 _), (trodAll_cons_mk (shut_ens h0 bel) trodAll_mk0), rfl, Below.frame bel _, fun h => by cases h⟩

theorem over : Rows.fillTellsRow.holds Try.pinned (OpenSpec.ofChange Rows.fillTellsSpec) :=
  OpenClaim.holds_of_wide 6 Try.f6 rfl rfl rfl rfl rfl rfl rfl ⟨rfl, rfl, rfl, rfl, rfl⟩ rfl rfl rfl rfl rfl (by kernel_rfl) Try.func6 (by kernel_rfl)
    (of_decide_eq_true (by kernel_rfl)) (by unfold Func.isWrapper; first | (rw [if_pos (by decide +kernel)]; kernel_rfl) | (rw [if_neg (by decide +kernel)]; exact ⟨rfl, rfl⟩))
    (fun os started H enc _ => lifted os started H enc)

end Go.Proofs.Ythpcdhnaibpjnaa.FillTells
namespace Go.Proofs.Ythpcdhnaibpjnaa
theorem fillTells_holds : Rows.FillTellsSaid := FillTells.over
#print axioms fillTells_holds
end Go.Proofs.Ythpcdhnaibpjnaa
