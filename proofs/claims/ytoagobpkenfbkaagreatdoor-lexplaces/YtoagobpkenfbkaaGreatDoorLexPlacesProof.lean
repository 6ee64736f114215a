/-
  Proved: for every text and place LexPlaces answers true: tokens stand one behind the other, each begins where nothing but blanks and remarks was left out since the one before, and what is ahead of it, by itself, has just those before. No condition but the form's own reach.
-/
import Derived.Test.YtoagobpkenfbkaaGreatDoorLzC
import Derived.Test.YtoagobpkenfbkaaGreatDoorLxI
namespace Go.Proofs.YtoagobpkenfbkaaGreatDoor.lexPlacesProof
open Go.ChangeShapes Go.WideShapes Go.ChangeAt Go.RowKit
open Go.ChangeMaps (open_string shut_string)
set_option linter.unusedVariables false
set_option linter.unusedSimpArgs false
set_option maxRecDepth 100000

theorem tk_take {w : World} {b o : Nat} {l : List (Int × LX.Tk)} (h : TokAt w b o l) (hb : b < w.heap.size) (k cap : Nat) (hk : k ≤ l.length) : IsTk w (.slice (some ⟨b, o, none⟩) k cap) (l.take k) := by
  refine ⟨_, cap, by rw [List.length_take, Nat.min_eq_left hk], Or.inr ⟨b, o, rfl, hb, ?_⟩⟩
  intro i hi
  have hi2 : i < l.length := by rw [List.length_take] at hi; omega
  rw [List.getElem_take]
  exact h i hi2
theorem tk_drop {w : World} {b o : Nat} {l : List (Int × LX.Tk)} (h : TokAt w b o l) (hb : b < w.heap.size) (k cap n : Nat) (hk : l.length - k = n) : IsTk w (.slice (some ⟨b, o + k * 4, none⟩) n cap) (l.drop k) := by
  refine ⟨_, cap, by rw [List.length_drop, hk], Or.inr ⟨b, _, rfl, hb, ?_⟩⟩
  intro i hi
  have hi2 : k + i < l.length := by rw [List.length_drop] at hi; omega
  rw [List.getElem_drop]
  have := h (k + i) hi2
  rw [show o + (k + i) * 4 = o + k * 4 + i * 4 by omega] at this
  exact this

theorem lex_ok (s : ByteArray) (w : World) (hs : s.size ≤ 140737488355327) (hT : Tb w) (qs : List (Nat × LX.Tk)) (h : LX.lex s.data.toList = .ok qs) :
    Calls Tryz.prog 9 #[.string s] w fun e w' => ∃ (a : Option Addr) (cap : Nat), e = .returned (.tuple #[.slice a qs.length cap, .int .i64 0, .int .i64 0]) ∧ Fr w w' ∧ Ot w.heap.size (.slice a qs.length cap) qs w' := by
  refine (lex_out s w hs hT).mono ?_
  rintro e w' ⟨a, cap, k, c, rs, rfl, hf, ho, h4⟩
  rcases h4 with ⟨rfl, rfl, h5⟩ | ⟨_, _, h5⟩
  · rw [h] at h5
    obtain rfl : qs = rs := by injection h5
    exact ⟨a, cap, rfl, hf, ho⟩
  · exact absurd h (h5 qs)

set_option maxHeartbeats 4000000 in
theorem walk (s : ByteArray) (kk : Int) (w : World) (hT : Tb w) (hs : s.size ≤ 140737488351232) (hkk : -9223372036854775808 ≤ kk ∧ kk ≤ 9223372036854775807) :
    Calls Tryz.prog 7 #[.string s, .int .i64 kk] w fun e w' => e = .returned (.bool true) ∧ Fr w w' := by
  have c1 := lex_out s w (by omega) hT
  have hlen := ba_len s
  go_enter Tryz.func7, Tryz.ntmps7
  go_wp2_with fail
  refine c1.mono ?_
  rintro _ w1 ⟨a1, cap, i1, e1, ps, rfl, f1, o1, h1⟩
  clear c1
  go_wp2_with fail
  refine (begun_any _ (hT.fr f1)).mono ?_
  rintro _ w2 ⟨rfl, f2⟩
  have F2 : Hid (Fr w w2) := f1.trans f2
  have O2 : Hid (Ot w.heap.size (.slice a1 ps.length cap) ps w2) := Ot.fr o1 f2
  clear f1 f2 o1
  rcases h1 with ⟨rfl, rfl, hl1⟩ | ⟨hne, rfl, _⟩
  · by_cases k0 : kk < 0
    · clear hl1
      go_wp2_with fail
      go_ret
      exact ⟨rfl, F2.out⟩
    · have k0' : 0 ≤ kk := by omega
      by_cases k1 : (ps.length : Int) ≤ kk
      · clear hl1 k0
        go_wp2_with fail
        go_ret
        exact ⟨rfl, F2.out⟩
      · obtain ⟨K, rfl⟩ := Int.eq_ofNat_of_zero_le k0'
        have hK : K < ps.length := by omega
        have hKZ : (K : Int) < (ps.length : Int) := by omega
        obtain ⟨p1, p2, p3, ⟨qs, q1, q2⟩, ⟨rs, r1, r2⟩⟩ := LX.lex_places hl1 K hK
        obtain ⟨g, rfl, hgw, hcapn, hta⟩ : ∃ g, a1 = some ⟨g, 0, none⟩ ∧ g < w2.heap.size ∧ ps.length ≤ cap ∧ TokAt w2 g 0 (tz ps) := by
          obtain ⟨a', cap2, he, h0 | ⟨b, o, hA, hb, hc⟩⟩ := Ot.tk O2.out
          · exfalso
            have := congrArg List.length h0
            rw [tz_len, List.length_nil] at this
            omega
          · rcases (show w2.ownsRow w.heap.size 29 4 (.slice a1 ps.length cap) ps.length (toksV ps) from O2.out).2 with ⟨_, h0⟩ | ⟨g, cap3, cur, he2, h2, h3, h4, h5, h6, h7⟩
            · omega
            · simp only [Value.slice.injEq] at he he2
              obtain ⟨rfl, _, rfl⟩ := he
              subst hA
              obtain ⟨h8, _, rfl⟩ := he2
              simp only [Option.some.injEq, Addr.mk.injEq, and_true] at h8
              obtain ⟨rfl, rfl⟩ := h8
              exact ⟨_, rfl, hb, by omega, hc⟩
        have hcapZ : (ps.length : Int) ≤ (cap : Int) := by omega
        obtain ⟨p, hp⟩ : ∃ p, ps[K].1 = p := ⟨_, rfl⟩
        have hcell : w2.cell? ⟨g, K * 4 + 1, none⟩ = some (.int .i64 (p : Int)) := by
          have := (hta K (by rw [tz_len]; exact hK)).2.1
          rw [Nat.zero_add] at this
          rw [this]
          simp [tz, hp]
        rw [hp] at p1 p3 q1 r1
        have hpZ : (p : Int) < (s.size : Int) := by omega
        have cq := fun (W : World) (f : Fr w W) => lex_ok (s.extract 0 p) W (by rw [ByteArray.size_extract]; omega) (hT.fr f) qs (by rw [ext_take]; exact q1)
        have cr := fun (W : World) (f : Fr w W) => lex_ok (s.extract p s.size) W (by rw [ByteArray.size_extract]; omega) (hT.fr f) rs (by rw [restL s p (by omega)]; exact r1)
        have HTA : Hid (TokAt w2 g 0 (tz ps)) := hta
        have HQ2 : Hid _ := q2
        have HLQ : Hid (qs.length ≤ 9223372036854775806) := by
          have := congrArg List.length q2
          have := (LX.go_ok _ _ _ _ _ (LX.lex_len hl1).2).2
          simp only [List.length_map, List.length_take] at *
          unfold Hid
          omega
        have HLR : Hid (rs.length ≤ 9223372036854775806) := by
          have := congrArg List.length r2
          have := (LX.go_ok _ _ _ _ _ (LX.lex_len hl1).2).2
          simp only [List.length_map, List.length_drop] at *
          unfold Hid
          omega
        have HR2 : Hid _ := r2
        clear q1 r1 q2 r2 hta k0 k1 hl1 O2
        by_cases hK0 : K = 0
        · subst hK0
          have hsk := fun W => skipped_any s W (by omega)
          rw [← p3 rfl] at hsk
          have hZ0 : (0 : Int) < (ps.length : Int) := by omega
          have hZ1 : ¬ ((ps.length : Int) ≤ 0) := by omega
          simp only [Nat.zero_mul, Nat.zero_add] at hcell
          have hpZ2 : ¬ ((s.size : Int) ≤ (p : Int)) := by omega
          have hpZ3 : ¬ ((p : Int) < 0) := by omega
          have hnil : (ps = []) = False := by
            simp only [eq_iff_iff, iff_false]
            rintro rfl
            simp at hK
          clear p2 p3 hKZ hkk
          go_wp2_with fail
          refine (hsk _).mono ?_
          rintro _ w3 ⟨rfl, rfl⟩
          clear hsk
          go_wp2_with fail
          refine (cq _ F2.out).mono ?_
          rintro _ w4 ⟨a4, k4, rfl, f4, o4⟩
          have F4 : Hid (Fr w w4) := F2.out.trans f4
          have TA4 : Hid (TokAt w4 g 0 (tz ps)) := HTA.out.fr hgw f4
          have hg4 := Nat.lt_of_lt_of_le hgw f4.size
          have O4 : Hid (Ot w3.heap.size (.slice a4 qs.length k4) qs w4) := o4
          clear o4 f4 cq HTA hgw
          go_wp2_with fail
          refine (cr _ F4.out).mono ?_
          rintro _ w5 ⟨a5, k5, rfl, f5, o5⟩
          have F5 : Hid (Fr w w5) := F4.out.trans f5
          have TA5 : Hid (TokAt w5 g 0 (tz ps)) := TA4.out.fr hg4 f5
          have hg5 := Nat.lt_of_lt_of_le hg4 f5.size
          have O4' : Hid (Ot w3.heap.size (.slice a4 qs.length k4) qs w5) := Ot.fr O4.out f5
          have O5 : Hid (Ot w4.heap.size (.slice a5 rs.length k5) rs w5) := o5
          clear o5 f5 cr TA4 hg4 O4 F4
          go_wp2_with fail
          refine (sameToks_eq _ _ (tz qs) ((tz ps).take 0) w5 (Ot.tk O4'.out) (tk_take TA5.out hg5 0 cap (by rw [tz_len]; omega)) (by rw [tz_snd, List.map_take, tz_snd, ← List.map_take]; exact HQ2.out) (by rw [tz_len]; exact HLQ.out)).mono ?_
          rintro _ w6 ⟨rfl, f6⟩
          have F6 : Hid (Fr w w6) := F5.out.trans f6
          have TA6 : Hid (TokAt w6 g 0 (tz ps)) := TA5.out.fr hg5 f6
          have hg6 := Nat.lt_of_lt_of_le hg5 f6.size
          have O6 : Hid (Ot w4.heap.size (.slice a5 rs.length k5) rs w6) := Ot.fr O5.out f6
          clear f6 O5 O4' TA5 hg5 F5
          go_wp2_with fail
          refine (sameToks_eq _ _ (tz rs) ((tz ps).drop 0) w6 (Ot.tk O6.out) (by rw [List.drop_zero]; exact ⟨_, cap, by rw [tz_len], Or.inr ⟨g, 0, rfl, hg6, TA6.out⟩⟩) (by rw [tz_snd, List.map_drop, tz_snd, ← List.map_drop]; exact HR2.out) (by rw [tz_len]; exact HLR.out)).mono ?_
          rintro _ w7 ⟨rfl, f7⟩
          have F7 : Hid (Fr w w7) := F6.out.trans f7
          clear f7 O6 TA6 hg6 F6
          go_wp2_with fail
          go_ret
          exact ⟨rfl, F7.out⟩
        · have hJ := p2 (by omega)
          obtain ⟨J, hJK⟩ : ∃ J, K = J + 1 := ⟨K - 1, by omega⟩
          obtain ⟨pj, hpj⟩ : ∃ pj, (ps[J]'(by omega)).1 = pj := ⟨_, rfl⟩
          have hcell2 : w2.cell? ⟨g, (wrap64 ((K : Int) - 1)).toNat * 4 + 1, none⟩ = some (.int .i64 (pj : Int)) := by
            rw [show (wrap64 ((K : Int) - 1)).toNat = J from by unfold wrap64; omega]
            have := (HTA.out J (by rw [tz_len]; omega)).2.1
            rw [Nat.zero_add] at this
            rw [this]
            simp [tz, hpj]
          have hJ2 : (pj : Int) < (p : Int) := by
            have e1 : (ps[K - 1]'(by omega)).1 = pj := by
              have e2 : K - 1 = J := by omega
              simp only [e2]
              exact hpj
            rw [e1, hp] at hJ
            omega
          have hJ3 : ¬ ((p : Int) ≤ (pj : Int)) := by omega
          have hKZ2 : (0 : Int) < (K : Int) := by omega
          have hKZ3 : ¬ ((ps.length : Int) ≤ (K : Int)) := by omega
          have hJL : (J : Int) < (ps.length : Int) := by omega
          have hcJ : ¬ (cap = K) := by omega
          have hcJ2 : (K : Int) ≤ (cap : Int) := by omega
          have hcJ3 : (K : Int) ≤ (ps.length : Int) := by omega
          have hpZ2 : ¬ ((s.size : Int) ≤ (p : Int)) := by omega
          have hpZ3 : ¬ ((p : Int) < 0) := by omega
          have hK1 : ¬ ((K : Int) < 0) := by omega
          have hB1 : 0 ≤ wrap64 ((K : Int) - 1) := by unfold wrap64; omega
          have hB2 : wrap64 ((K : Int) - 1) < (ps.length : Int) := by unfold wrap64; omega
          have hK2 : ¬ ((K : Int) = 0) := by omega
          clear p2 p3 hkk hJ hpj hJK hK0
          go_wp2_with fail
          refine (cq _ F2.out).mono ?_
          rintro _ w4 ⟨a4, k4, rfl, f4, o4⟩
          have F4 : Hid (Fr w w4) := F2.out.trans f4
          have TA4 : Hid (TokAt w4 g 0 (tz ps)) := HTA.out.fr hgw f4
          have hg4 := Nat.lt_of_lt_of_le hgw f4.size
          have O4 : Hid (Ot w2.heap.size (.slice a4 qs.length k4) qs w4) := o4
          clear o4 f4 cq HTA hgw
          go_wp2_with fail
          refine (cr _ F4.out).mono ?_
          rintro _ w5 ⟨a5, k5, rfl, f5, o5⟩
          have F5 : Hid (Fr w w5) := F4.out.trans f5
          have TA5 : Hid (TokAt w5 g 0 (tz ps)) := TA4.out.fr hg4 f5
          have hg5 := Nat.lt_of_lt_of_le hg4 f5.size
          have O4' : Hid (Ot w2.heap.size (.slice a4 qs.length k4) qs w5) := Ot.fr O4.out f5
          have O5 : Hid (Ot w4.heap.size (.slice a5 rs.length k5) rs w5) := o5
          clear o5 f5 cr TA4 hg4 O4 F4
          go_wp2_with fail
          refine (sameToks_eq _ _ (tz qs) ((tz ps).take K) w5 (Ot.tk O4'.out) (tk_take TA5.out hg5 K cap (by rw [tz_len]; omega)) (by rw [tz_snd, List.map_take, tz_snd, ← List.map_take]; exact HQ2.out) (by rw [tz_len]; exact HLQ.out)).mono ?_
          rintro _ w6 ⟨rfl, f6⟩
          have F6 : Hid (Fr w w6) := F5.out.trans f6
          have TA6 : Hid (TokAt w6 g 0 (tz ps)) := TA5.out.fr hg5 f6
          have hg6 := Nat.lt_of_lt_of_le hg5 f6.size
          have O6 : Hid (Ot w4.heap.size (.slice a5 rs.length k5) rs w6) := Ot.fr O5.out f6
          clear f6 O5 O4' TA5 hg5 F5
          go_wp2_with fail
          refine (sameToks_eq _ _ (tz rs) ((tz ps).drop K) w6 (Ot.tk O6.out) (by have := tk_drop TA6.out hg6 K (cap - K) (ps.length - K) (by rw [tz_len]); rw [Nat.zero_add] at this; exact this) (by rw [tz_snd, List.map_drop, tz_snd, ← List.map_drop]; exact HR2.out) (by rw [tz_len]; exact HLR.out)).mono ?_
          rintro _ w7 ⟨rfl, f7⟩
          have F7 : Hid (Fr w w7) := F6.out.trans f7
          clear f7 O6 TA6 hg6 F6
          go_wp2_with fail
          go_ret
          exact ⟨rfl, F7.out⟩
  · have n1 : ((e1 : Int) != 0) = true := by simp; omega
    have n2 : ¬ ((e1 : Int) = 0) := by omega
    clear hne
    go_wp2_with fail
    go_ret
    exact ⟨rfl, F2.out⟩

set_option maxRecDepth 100000 in
theorem lifted (os : Os) (started : os.Started) (H : Type) (enc : TypeId × Value → H) :
    ReturnsInHanded {} Tryz.checked os 7 .any (fun w args => (Rows.lexPlacesSpec.pre enc Tryz.prog Tryz.f7 [] false w args ∧ laidMetH Tryz.prog Rows.lexPlacesRow.laid w) ∧ sizedMet enc Tryz.prog Tryz.f7 (OpenSpec.ofChange Rows.lexPlacesSpec) false w args)
      (Rows.lexPlacesSpec.post enc Tryz.prog Tryz.f7 false true false false) := by
  refine returnsInHanded_of_change_and (C := Tryz.checked) (X := fun w _ => laidMetH Tryz.prog Rows.lexPlacesRow.laid w) (fun _ _ _ hh h => h.of_heap hh) own started (by kernel_rfl) Tryz.func7
    (ChangeSpec.witness_shaped (enc := enc) (C := Tryz.checked) (os := os) (X := fun w _ => laidMetH Tryz.prog Rows.lexPlacesRow.laid w) false (World.laidAll Tryz.prog os Rows.lexPlacesRow.laid) #[.string ByteArray.empty, .int .i64 0] 8 (World.laidAll_os _ _ _)
      (World.shaped_of_ZipB (by kernel_rfl) (by kernel_rfl)) (by kernel_rfl) (by kernel_rfl) (by kernel_rfl)
      (by rw [MakeChecks.laidMetH_plain _ _ _ (by kernel_rfl)]; exact laidMet_laidAll _ (by kernel_rfl) (by kernel_rfl))) ?_
  intro W base args ds gs before hval0 hW hcnd hsz0 hL _
  have hT : Tb W := tabs_of_laid hL
  have hval : ∀ (j : Nat) t v, Tryz.f7.params[j]? = some t → args[j]? = some v → Value.okWide Tryz.prog W .any base t v := hval0
  have hsz : (DataW.weightsEach Tryz.prog (Tryz.f7.params.toList ++ Rows.lexPlacesSpec.plain.varTypes Tryz.prog) (ds ++ gs)).all (· ≤ reachBytes) = true := hsz0
  have hW' := hW
  obtain ⟨p, q, hA0, hV, rfl, hfz, hnd⟩ := hW
  have hA : DataW.TrodAll enc Tryz.prog W 0 (fun _ => true) true Tryz.f7.params.toList args.toList ds p := hA0
  rw [Tryz.params7] at hA hval hsz
  obtain ⟨v0, vs0, d0, ds0, p0, q0, hargs, rfl, rfl, h0, r0⟩ := trodAll_cons hA
  obtain ⟨v1, vs1, d1, ds1, p1, q1, rfl, rfl, rfl, h1, r1⟩ := trodAll_cons r0
  obtain ⟨rfl, rfl, rfl⟩ := trodAll_nil r1
  obtain rfl : args = #[v0, v1] := by cases args; simp_all
  obtain ⟨rfl, rfl⟩ := trodVars_none hV
  obtain ⟨a0, rfl, rfl, rfl, w0⟩ := open_string Tryz.underlying9 (hval 0 9 v0 rfl rfl) h0
  obtain ⟨a1, rfl, rfl, rfl, w1⟩ := open_int Tryz.underlying3 (hval 1 3 v1 rfl rfl) h1
  have b0 : a0.size ≤ 140737488351232 := by
    have h := sized_string hsz (j := 0) (t := 9) rfl rfl
    simpa [reachBytes] using h
  clear hA0 hval0 hsz0
  refine (walk a0 a1 W hT b0 (wf_i64 w1)).mono fun e W' ⟨he, bel⟩ => ?_
  subst he
  exact ⟨_, rfl, _, _, _, [], _, [], hW', trodAll_mk1 (shut_bool Tryz.underlying4 _), (trodAll_cons_mk (shut_string Tryz.underlying9 w0) (trodAll_cons_mk (shut_int Tryz.underlying3 w1) trodAll_mk0)), rfl, Below.frame bel _, fun h => by cases h⟩

theorem over : Rows.lexPlacesRow.holds Tryz.pinned (OpenSpec.ofChange Rows.lexPlacesSpec) :=
  OpenClaim.holds_of_wide 7 Tryz.f7 rfl rfl rfl rfl rfl rfl rfl ⟨rfl, rfl, rfl, rfl, rfl⟩ rfl rfl rfl rfl rfl (by kernel_rfl) Tryz.func7 (by kernel_rfl)
    (of_decide_eq_true (by kernel_rfl)) (by unfold Func.isWrapper; first | (rw [if_pos (by decide +kernel)]; kernel_rfl) | (rw [if_neg (by decide +kernel)]; exact ⟨rfl, rfl⟩))
    (fun os started H enc _ => lifted os started H enc)

theorem card : Rows.LexPlacesCardSaid :=
  Claim7.holds_tied_plain_at .later [] [.data, .data, .data, .data, .sentinel, .sentinel, .data, .pinned, .pinned] true (true, "62c4b41291f1d41b5f601ce3e7ea6ddf8f9ef4a9837f15d44a81d122d6571cc0") true
    over (fun _ h => by cases h) (by kernel_rfl) (fun _ h => by cases h) lexPlaces_row_tie rfl ⟨rfl, rfl⟩ (by kernel_rfl) rfl
    (fun f fn hf hfn => by
      obtain rfl : f = 7 := Option.some.inj ((show Tryz.prog.funcNamed "starling/starlinglaw.LexPlaces" = some 7 by kernel_rfl).symm.trans hf) |>.symm
      obtain rfl : fn = Tryz.f7 := (Option.some.inj (Tryz.func7.symm.trans hfn)).symm
      exact ⟨by kernel_rfl, fun j t ht => by
        rw [Tryz.params7] at ht
        have hm : t ∈ [9, 3] := by simpa using Array.mem_of_getElem? ht
        have hall : ([9, 3].all fun u => !Tryz.prog.wantsStandIn u) = true := by kernel_rfl
        exact (show Tryz.prog.wantsStandIn t = false by simpa using List.all_eq_true.1 hall t hm)⟩)
    (by kernel_rfl)

end Go.Proofs.YtoagobpkenfbkaaGreatDoor.lexPlacesProof
namespace Go.Proofs.YtoagobpkenfbkaaGreatDoor
theorem lexPlaces_holds : Rows.LexPlacesCardSaid := lexPlacesProof.card
#print axioms lexPlaces_holds
end Go.Proofs.YtoagobpkenfbkaaGreatDoor
