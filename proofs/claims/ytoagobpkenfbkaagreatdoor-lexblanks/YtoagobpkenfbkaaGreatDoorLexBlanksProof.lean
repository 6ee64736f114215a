/-
  Proved: for every two texts LexBlanks answers true: blanks and remarks at both ends are no matter, and two texts with a line's end between have the tokens of both. No condition but the form's own reach.
-/
import Derived.Test.YtoagobpkenfbkaaGreatDoorLzB
namespace Go.Proofs.YtoagobpkenfbkaaGreatDoor.lexBlanksProof
open Go.ChangeShapes Go.WideShapes Go.ChangeAt Go.RowKit
open Go.ChangeMaps (open_string shut_string)
set_option linter.unusedVariables false
set_option linter.unusedSimpArgs false
set_option maxRecDepth 100000

theorem cat_list (s t : ByteArray) : ((((⟨#[32, 9, 45, 45, 39, 120, 10]⟩ : ByteArray) ++ s) ++ ⟨#[10]⟩ ++ t) ++ ⟨#[32, 45, 45, 32, 110, 111, 32, 109, 111, 114, 101]⟩).data.toList = LX.ahead ++ s.data.toList ++ [10] ++ t.data.toList ++ LX.behind := by
  simp only [ByteArray.data_append, Array.toList_append]
  rfl

set_option maxHeartbeats 4000000 in
theorem walk (s t : ByteArray) (w : World) (hT : Tb w) (hs : s.size ≤ 140737488351232) (ht : t.size ≤ 140737488351232) :
    Calls Tryz.prog 8 #[.string s, .string t] w fun e w' => e = .returned (.bool true) ∧ Fr w w' := by
  have c1 := lex_out s w (by omega) hT
  have c2 := fun (W : World) (f : Fr w W) => lex_out t W (by omega) (hT.fr f)
  have c4 := fun (W : World) (f : Fr w W) (u : ByteArray) (hu : u.size ≤ 400) => lex_out u W (by omega) (hT.fr f)
  have HC4 : Hid _ := c4
  clear c4
  go_enter Tryz.func8, Tryz.ntmps8
  go_wp2_with fail
  refine c1.mono ?_
  rintro _ w1 ⟨a1, k1, i1, e1, ps, rfl, f1, o1, h1⟩
  clear c1
  go_wp2_with fail
  refine (c2 _ f1).mono ?_
  rintro _ w2 ⟨a2, k2, i2, e2, qs, rfl, f2, o2, h2⟩
  have F2 : Fr w w2 := f1.trans f2
  have o1' := Ot.fr o1 f2
  clear c2 o1 f1 f2
  go_wp2_with fail
  refine (begun_any _ (hT.fr F2)).mono ?_
  rintro _ w3 ⟨rfl, f3⟩
  have F3 : Hid (Fr w w3) := F2.trans f3
  have O1 : Hid (Ot w.heap.size (.slice a1 ps.length k1) ps w3) := Ot.fr o1' f3
  have O2 : Hid (Ot w1.heap.size (.slice a2 qs.length k2) qs w3) := Ot.fr o2 f3
  clear F2 f3 o1' o2
  rcases h1 with ⟨rfl, rfl, hl1⟩ | ⟨hne, rfl, _⟩
  · rcases h2 with ⟨rfl, rfl, hl2⟩ | ⟨hne, rfl, _⟩
    · by_cases b1 : 140 < s.size
      · have b1' : (140 : Int) < (s.size : Int) := by omega
        clear hl1 hl2
        go_wp2_with fail
        go_ret
        exact ⟨rfl, F3.out⟩
      · by_cases b2 : 140 < t.size
        · have b2' : (140 : Int) < (t.size : Int) := by omega
          have b1' : (s.size : Int) ≤ 140 := by omega
          clear hl1 hl2
          go_wp2_with fail
          go_ret
          exact ⟨rfl, F3.out⟩
        · by_cases b3 : 60 < ps.length
          · have b3' : (60 : Int) < (ps.length : Int) := by omega
            have b2' : (t.size : Int) ≤ 140 := by omega
            have b1' : (s.size : Int) ≤ 140 := by omega
            clear hl1 hl2
            go_wp2_with fail
            go_ret
            exact ⟨rfl, F3.out⟩
          · by_cases b4 : 60 < qs.length
            · have b4' : (60 : Int) < (qs.length : Int) := by omega
              have b3' : (ps.length : Int) ≤ 60 := by omega
              have b2' : (t.size : Int) ≤ 140 := by omega
              have b1' : (s.size : Int) ≤ 140 := by omega
              clear hl1 hl2
              go_wp2_with fail
              go_ret
              exact ⟨rfl, F3.out⟩
            · have b4' : (qs.length : Int) ≤ 60 := by omega
              have b3' : (ps.length : Int) ≤ 60 := by omega
              have b2' : (t.size : Int) ≤ 140 := by omega
              have b1' : (s.size : Int) ≤ 140 := by omega
              obtain ⟨rs, hr1, hr2⟩ := LX.lex_blanks s.data.toList t.data.toList ps qs hl1 hl2 (by rw [ba_len]; omega) (by rw [ba_len]; omega) (by omega) (by omega)
              have c5 := HC4.out w3 F3.out ((((⟨#[32, 9, 45, 45, 39, 120, 10]⟩ : ByteArray) ++ s) ++ ⟨#[10]⟩ ++ t) ++ ⟨#[32, 45, 45, 32, 110, 111, 32, 109, 111, 114, 101]⟩) (by
                simp only [ByteArray.size_append]
                show 7 + s.size + 1 + t.size + 11 ≤ 400
                omega)
              rw [cat_list, hr1] at c5
              have HR : Hid _ := hr2
              have HRL : Hid ((tz rs).length ≤ 9223372036854775806) := by
                have := congrArg List.length hr2
                simp only [List.length_map, List.length_append] at this
                unfold Hid
                rw [tz_len]
                omega
              clear hl1 hl2 hr1 hr2 b1 b2 b3 b4
              go_wp2_with fail
              refine c5.mono ?_
              rintro _ w4 ⟨a3, k3, i3, e3, rs', rfl, f4, o4, h4⟩
              rcases h4 with ⟨rfl, rfl, h5⟩ | ⟨_, _, h5⟩
              · obtain rfl : rs = rs' := by injection h5
                have F4 : Hid (Fr w w4) := F3.out.trans f4
                have own0 : Ot w4.heap.size (.slice (some ⟨w4.heap.size, 0, none⟩) 0 0) [] (w4.alloc (.cells #[] 29)) := World.ownsRow_lit w4 #[] 0 (Nat.le_refl _) (by decide) rfl
                have t1 := (Ot.tk (Ot.fr O1.out f4)).fr ((Fr.refl w4).alloc (.cells #[] 29))
                have n1 := Ot.nilor O1.out
                have t2 := Ot.tk (Ot.fr O2.out f4)
                have n2 := Ot.nilor O2.out
                have OW0 : Hid (Ot w4.heap.size (.slice (some ⟨w4.heap.size, 0, none⟩) 0 0) [] (w4.alloc (.cells #[] 29))) := own0
                have T1 : Hid _ := t1
                have T2 : Hid _ := t2
                have N1 : Hid _ := n1
                have N2 : Hid _ := n2
                have O4 : Hid _ := o4
                clear own0 t1 n1 t2 n2 o4 f4 c5 O1 O2 F3 h5 HC4
                go_wp2_with (at_builtin; refine wpList_append_tok rfl _ _ rfl w4.heap.size _ [] rfl OW0.out _ ps rfl T1.out N1.out (by simp; omega) (by simp) ?_)
                intro v5 w5 own5 g5
                have B5 : Hid (Fr w4 w5) := Below.grown (Below.alloc (Below.refl _ w4) (Nat.le_refl _) _) g5 (by simp) (fun k hk => (World.ownsRow.lt OW0.out k hk).1)
                have OW5 : Hid (Ot w4.heap.size v5 ([] ++ ps) w5) := own5
                have T2' : Hid (IsTk w5 (.slice a2 qs.length k2) (tz qs)) := IsTk.fr T2.out B5.out
                have hb5 := Fr.size B5.out
                have B5' : Hid (Below w4.heap.size w4 w5) := B5.out
                clear own5 g5 T2 T1 OW0 N1 B5
                have OW5' : Hid (Ot w4.heap.size v5 ps w5) := OW5.out
                clear OW5
                go_wp2_with (at_builtin; refine wpList_append_tok rfl _ _ rfl w4.heap.size _ ps rfl OW5'.out _ qs rfl T2'.out N2.out (by omega) hb5 ?_)
                intro v6 w6 own6 g6
                have B6 : Hid (Fr w4 w6) := Below.grown B5'.out g6 hb5 (fun k hk => (World.ownsRow.lt OW5'.out k hk).1)
                have c7 := sameToks_eq _ v6 (tz rs) (tz (ps ++ qs)) w6 (IsTk.fr (Ot.tk O4.out) B6.out) (Ot.tk own6) (by rw [tz_snd, tz_snd, List.map_append]; exact HR.out) HRL.out
                clear own6 g6 OW5' T2' N2 hb5 B5'
                go_wp2_with fail
                refine c7.mono ?_
                rintro _ w7 ⟨rfl, f7⟩
                have F7 : Hid (Fr w w7) := Fr.trans F4.out (Fr.trans B6.out f7)
                clear c7 f7
                go_wp2_with fail
                go_ret
                exact ⟨rfl, F7.out⟩
              · exact absurd rfl (h5 rs)
    · have n1 : ((e2 : Int) != 0) = true := by simp; omega
      have n2 : ¬ ((e2 : Int) = 0) := by omega
      clear hl1
      go_wp2_with fail
      go_ret
      exact ⟨rfl, F3.out⟩
  · have n1 : ((e1 : Int) != 0) = true := by simp; omega
    have n2 : ¬ ((e1 : Int) = 0) := by omega
    clear h2
    go_wp2_with fail
    go_ret
    exact ⟨rfl, F3.out⟩

set_option maxRecDepth 100000 in
theorem lifted (os : Os) (started : os.Started) (H : Type) (enc : TypeId × Value → H) :
    ReturnsInHanded {} Tryz.checked os 8 .any (fun w args => (Rows.lexBlanksSpec.pre enc Tryz.prog Tryz.f8 [] false w args ∧ laidMetH Tryz.prog Rows.lexBlanksRow.laid w) ∧ sizedMet enc Tryz.prog Tryz.f8 (OpenSpec.ofChange Rows.lexBlanksSpec) false w args)
      (Rows.lexBlanksSpec.post enc Tryz.prog Tryz.f8 false true false false) := by
  refine returnsInHanded_of_change_and (C := Tryz.checked) (X := fun w _ => laidMetH Tryz.prog Rows.lexBlanksRow.laid w) (fun _ _ _ hh h => h.of_heap hh) own started (by kernel_rfl) Tryz.func8
    (ChangeSpec.witness_shaped (enc := enc) (C := Tryz.checked) (os := os) (X := fun w _ => laidMetH Tryz.prog Rows.lexBlanksRow.laid w) false (World.laidAll Tryz.prog os Rows.lexBlanksRow.laid) #[.string ByteArray.empty, .string ByteArray.empty] 8 (World.laidAll_os _ _ _)
      (World.shaped_of_ZipB (by kernel_rfl) (by kernel_rfl)) (by kernel_rfl) (by kernel_rfl) (by kernel_rfl)
      (by rw [MakeChecks.laidMetH_plain _ _ _ (by kernel_rfl)]; exact laidMet_laidAll _ (by kernel_rfl) (by kernel_rfl))) ?_
  intro W base args ds gs before hval0 hW hcnd hsz0 hL _
  have hT : Tb W := tabs_of_laid hL
  have hval : ∀ (j : Nat) t v, Tryz.f8.params[j]? = some t → args[j]? = some v → Value.okWide Tryz.prog W .any base t v := hval0
  have hsz : (DataW.weightsEach Tryz.prog (Tryz.f8.params.toList ++ Rows.lexBlanksSpec.plain.varTypes Tryz.prog) (ds ++ gs)).all (· ≤ reachBytes) = true := hsz0
  have hW' := hW
  obtain ⟨p, q, hA0, hV, rfl, hfz, hnd⟩ := hW
  have hA : DataW.TrodAll enc Tryz.prog W 0 (fun _ => true) true Tryz.f8.params.toList args.toList ds p := hA0
  rw [Tryz.params8] at hA hval hsz
  obtain ⟨v0, vs0, d0, ds0, p0, q0, hargs, rfl, rfl, h0, r0⟩ := trodAll_cons hA
  obtain ⟨v1, vs1, d1, ds1, p1, q1, rfl, rfl, rfl, h1, r1⟩ := trodAll_cons r0
  obtain ⟨rfl, rfl, rfl⟩ := trodAll_nil r1
  obtain rfl : args = #[v0, v1] := by cases args; simp_all
  obtain ⟨rfl, rfl⟩ := trodVars_none hV
  obtain ⟨a0, rfl, rfl, rfl, w0⟩ := open_string Tryz.underlying9 (hval 0 9 v0 rfl rfl) h0
  obtain ⟨a1, rfl, rfl, rfl, w1⟩ := open_string Tryz.underlying9 (hval 1 9 v1 rfl rfl) h1
  have b0 : a0.size ≤ 140737488351232 := by
    have h := sized_string hsz (j := 0) (t := 9) rfl rfl
    simpa [reachBytes] using h
  have b1 : a1.size ≤ 140737488351232 := by
    have h := sized_string hsz (j := 1) (t := 9) rfl rfl
    simpa [reachBytes] using h
  clear hA0 hval0 hsz0
  refine (walk a0 a1 W hT b0 b1).mono fun e W' ⟨he, bel⟩ => ?_
  subst he
  exact ⟨_, rfl, _, _, _, [], _, [], hW', trodAll_mk1 (shut_bool Tryz.underlying4 _), (trodAll_cons_mk (shut_string Tryz.underlying9 w0) (trodAll_cons_mk (shut_string Tryz.underlying9 w1) trodAll_mk0)), rfl, Below.frame bel _, fun h => by cases h⟩

theorem over : Rows.lexBlanksRow.holds Tryz.pinned (OpenSpec.ofChange Rows.lexBlanksSpec) :=
  OpenClaim.holds_of_wide 8 Tryz.f8 rfl rfl rfl rfl rfl rfl rfl ⟨rfl, rfl, rfl, rfl, rfl⟩ rfl rfl rfl rfl rfl (by kernel_rfl) Tryz.func8 (by kernel_rfl)
    (of_decide_eq_true (by kernel_rfl)) (by unfold Func.isWrapper; first | (rw [if_pos (by decide +kernel)]; kernel_rfl) | (rw [if_neg (by decide +kernel)]; exact ⟨rfl, rfl⟩))
    (fun os started H enc _ => lifted os started H enc)

theorem card : Rows.LexBlanksCardSaid :=
  Claim7.holds_tied_plain_at .later [] [.data, .data, .data, .data, .sentinel, .sentinel, .data, .pinned, .pinned] true (true, "62c4b41291f1d41b5f601ce3e7ea6ddf8f9ef4a9837f15d44a81d122d6571cc0") true
    over (fun _ h => by cases h) (by kernel_rfl) (fun _ h => by cases h) lexBlanks_row_tie rfl ⟨rfl, rfl⟩ (by kernel_rfl) rfl
    (fun f fn hf hfn => by
      obtain rfl : f = 8 := Option.some.inj ((show Tryz.prog.funcNamed "starling/starlinglaw.LexBlanks" = some 8 by kernel_rfl).symm.trans hf) |>.symm
      obtain rfl : fn = Tryz.f8 := (Option.some.inj (Tryz.func8.symm.trans hfn)).symm
      exact ⟨by kernel_rfl, fun j t ht => by
        rw [Tryz.params8] at ht
        have hm : t ∈ [9, 9] := by simpa using Array.mem_of_getElem? ht
        have hall : ([9, 9].all fun u => !Tryz.prog.wantsStandIn u) = true := by kernel_rfl
        exact (show Tryz.prog.wantsStandIn t = false by simpa using List.all_eq_true.1 hall t hm)⟩)
    (by kernel_rfl)

end Go.Proofs.YtoagobpkenfbkaaGreatDoor.lexBlanksProof
namespace Go.Proofs.YtoagobpkenfbkaaGreatDoor
theorem lexBlanks_holds : Rows.LexBlanksCardSaid := lexBlanksProof.card
#print axioms lexBlanks_holds
end Go.Proofs.YtoagobpkenfbkaaGreatDoor
