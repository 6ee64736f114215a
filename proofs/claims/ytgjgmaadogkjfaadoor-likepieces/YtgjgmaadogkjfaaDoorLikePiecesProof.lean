/-
  Proved: for all texts and all numbers, pieces put together are the text, each one has one to four bytes and is its only piece, and as many signs for one piece stand for the text, and no others. (LikePieces; the two tables of Go's decoder are as its text lays them.)
-/
import Derived.Test.YtgjgmaadogkjfaaDoorTabs
import Derived.Test.YtgjgmaadogkjfaaDoorLkOnes
namespace Go.Proofs.YtgjgmaadogkjfaaDoor
namespace likePiecesProof
open Go.ChangeShapes Go.WideShapes Go.ChangeAt Go.RowKit
open Go.ChangeMaps (open_string shut_string)
set_option linter.unusedVariables false

theorem mk_list (s : ByteArray) : (⟨s.data.toList.toArray⟩ : ByteArray) = s := by cases s; simp
theorem app_mk (x y : LK.Bs) : (⟨x.toArray⟩ : ByteArray) ++ (⟨y.toArray⟩ : ByteArray) = ⟨(x ++ y).toArray⟩ := by
  apply tl_inj
  rw [Lib.toList_data, Lib.toList_data, ByteArray.data_append]
  simp
theorem flat_snoc (l : List LK.Bs) (i : Nat) (x : LK.Bs) (h : l[i]? = some x) : (l.take (i + 1)).flatten = (l.take i).flatten ++ x := by
  rw [List.take_add_one, h]; simp

set_option maxRecDepth 100000 in
set_option maxHeartbeats 2000000 in
theorem walk (a0 : ByteArray) (a1 : Int) (W : World) (hT : Tb W) (b0 : a0.size ≤ 140737488351232) (b1 : -9223372036854775808 ≤ a1 ∧ a1 ≤ 9223372036854775807) :
    Calls Tryd.prog 5 #[.string a0, .int .i64 a1] W fun r W' => r = .returned (.bool true) ∧ Fr W W' := by
  have hp := likePieces_any a0 W (by omega) hT
  by_cases h16 : 16 < a0.size
  · rw [if_pos h16, if_pos h16] at hp
    go_enter Tryd.func5, Tryd.ntmps5
    go_wp2_with fail
    refine hp.mono ?_
    rintro _ w1 ⟨v, l, rfl, rfl, ⟨ad, cap, rfl, _, _⟩, f1⟩
    have c2 := begun_any w1 (hT.fr f1)
    clear hp
    go_wp2_with fail
    refine c2.mono ?_
    rintro _ w2 ⟨rfl, f2⟩
    clear c2
    go_wp2
    go_ret
    exact ⟨rfl, f1.trans f2⟩
  · rw [if_neg h16, if_neg h16] at hp
    have hlen : (LK.pc a0.data.toList).length ≤ 16 := by
      have h1 := LK.pc_len a0.data.toList
      have h2 : a0.data.toList.length = a0.size := by rw [Array.length_toList]; rfl
      omega
    have hone : ∀ x ∈ LK.pc a0.data.toList, LK.pc x = [x] ∧ 1 ≤ x.length ∧ x.length ≤ 4 := fun x hx => ⟨(LK.pc_one hx).1, (LK.pc_one hx).2, LK.pc_four _ x hx⟩
    have hflat := LK.pc_flat a0.data.toList
    obtain ⟨P, hP⟩ : ∃ P, LK.pc a0.data.toList = P := ⟨_, rfl⟩
    rw [hP] at hp hlen hone hflat
    have HP : Hid _ := hP
    have HO : Hid _ := hone
    have HFl : Hid _ := hflat
    clear hP hone hflat
    by_cases hn : a1 < 0 ∨ 32 < a1
    · go_enter Tryd.func5, Tryd.ntmps5
      go_wp2_with fail
      refine hp.mono ?_
      rintro _ w1 ⟨v, l, rfl, rfl, ⟨ad, cap, rfl, _, _⟩, f1⟩
      have c2 := begun_any w1 (hT.fr f1)
      clear hp
      go_wp2_with fail
      refine c2.mono ?_
      rintro _ w2 ⟨rfl, f2⟩
      clear c2
      have ff := f1.trans f2
      rcases hn with h | h
      · have q : decide (a1 < 0) = true := by simp [h]
        go_wp2
        go_ret
        exact ⟨rfl, ff⟩
      · have q1 : ¬ a1 < 0 := by omega
        go_wp2
        go_ret
        exact ⟨rfl, ff⟩
    · obtain ⟨n, rfl⟩ : ∃ n : Nat, a1 = n := ⟨a1.toNat, by omega⟩
      have hn32 : n ≤ 32 := by omega
      have q1 : ¬ ((n : Int) < 0) := by omega
      have q2 : ¬ ((32 : Int) < (n : Int)) := by omega
      clear hn b1
      go_enter Tryd.func5, Tryd.ntmps5
      go_wp2_with fail
      refine hp.mono ?_
      rintro _ w1 ⟨v, l, rfl, rfl, htx, f1⟩
      have c2 := begun_any w1 (hT.fr f1)
      have HTX : Hid _ := htx
      obtain ⟨ad, cap, rfl, hcap, hcs⟩ := htx
      have HC : Hid _ := hcs
      clear hp hcs
      go_wp2_with fail
      refine c2.mono ?_
      rintro _ w2 ⟨rfl, f2⟩
      clear c2
      have ff := f1.trans f2
      go_wp2
      go_loopw [7, 9] (fun av iv wr => ∃ (i : Nat) (acc : ByteArray), iv = .int .i64 i ∧ i ≤ l.length ∧ av = .string acc ∧ acc = ⟨((l.take i).flatten).toArray⟩ ∧ acc.size ≤ 4 * i ∧ Fr w2 wr) (fun _ iv _ => l.length - (intOf iv).toNat)
      case atStart => exact ⟨0, ⟨#[]⟩, rfl, Nat.zero_le _, rfl, by simp, by decide, Fr.refl _⟩
      case round =>
        obtain ⟨i, acc, rfl, hi, rfl, hacc, has, hfr⟩ := hrel
        have HA : Hid _ := hacc
        clear hacc
        by_cases hlt : i < l.length
        · have hltZ : (i : Int) < (l.length : Int) := by omega
          obtain ⟨x, hx⟩ : ∃ x, l[i]? = some x := ⟨l[i], List.getElem?_eq_getElem hlt⟩
          obtain ⟨b, rfl, hb, hc⟩ : ∃ b, ad = some ⟨b, 0, none⟩ ∧ b < w1.heap.size ∧ ∀ i x, l[i]? = some x → w1.cell? ⟨b, i, none⟩ = some (sv x) := by
            rcases HC.out with h | h
            · rw [h] at hlt; simp at hlt
            · exact h
          have fr1 := Fr.trans f2 hfr
          have c0 := (Below.cell fr1 (p := ⟨b, i, none⟩) hb).trans (hc i x hx)
          obtain ⟨o1, o2, o3⟩ := HO.out x (List.mem_of_getElem? hx)
          have hpx := likePieces_any ⟨x.toArray⟩ wr (by show x.toArray.size ≤ _; rw [List.size_toArray]; omega) ((hT.fr ff).fr hfr)
          have hsx : ¬ 16 < (⟨x.toArray⟩ : ByteArray).size := by show ¬ 16 < x.toArray.size; rw [List.size_toArray]; omega
          rw [if_neg hsx, if_neg hsx, show (⟨x.toArray⟩ : ByteArray).data.toList = x from rfl, o1] at hpx
          have HFS : Hid ((l.take (i + 1)).flatten = (l.take i).flatten ++ x) := flat_snoc l i x hx
          have hs1 : 1 ≤ (⟨x.toArray⟩ : ByteArray).size := by show 1 ≤ x.toArray.size; rw [List.size_toArray]; omega
          have hs4 : (⟨x.toArray⟩ : ByteArray).size ≤ 4 := by show x.toArray.size ≤ 4; rw [List.size_toArray]; omega
          have HAS : Hid (acc ++ (⟨x.toArray⟩ : ByteArray) = ⟨((l.take (i + 1)).flatten).toArray⟩) := by
            unfold Hid
            rw [HA.out, app_mk, HFS.out]
          unfold sv at c0
          obtain ⟨sx, hsxe⟩ : ∃ sx : ByteArray, sx = ⟨x.toArray⟩ := ⟨_, rfl⟩
          rw [← hsxe] at c0 hpx hs1 hs4 HAS
          have z1 : ¬ ((sx.size : Int) < 1) := by omega
          have z2 : ¬ ((4 : Int) < (sx.size : Int)) := by omega
          have z3 : acc.size + sx.size ≤ 9223372036854775807 := by omega
          have z4 : (acc ++ sx).size ≤ 4 * (i + 1) := by rw [ByteArray.size_append]; omega
          have Z4 : Hid _ := z4
          clear hc hx o1 o2 o3 hsx HA hsxe HFS z4
          go_wp2_with fail
          refine hpx.mono ?_
          rintro _ w3 ⟨v', l', rfl, rfl, ⟨a', cap', rfl, _, _⟩, f3⟩
          have c1 := (Below.cell f3 (p := ⟨b, i, none⟩) (Nat.lt_of_lt_of_le hb fr1.size)).trans c0
          clear hpx c0
          go_wp2
          go_roundw
          case rel => exact ⟨i + 1, acc ++ sx, by simp, hlt, rfl, HAS.out, Z4.out, hfr.trans f3⟩
          case measure => simp [intOf]; omega
        · have hltZ : ¬ (i : Int) < (l.length : Int) := by omega
          obtain rfl : i = l.length := by omega
          obtain rfl : acc = a0 := by
            rw [HA.out, List.take_length, HFl.out, mk_list]
          clear HA
          go_wp2
          go_loopw [8, 12] (fun ov kv wr' => ∃ (k : Nat) (ones : ByteArray), kv = .int .i64 k ∧ k ≤ n ∧ ov = .string ones ∧ ones = ⟨(List.replicate k 95).toArray⟩ ∧ ones.size = k ∧ Fr w2 wr') (fun _ kv _ => n - (intOf kv).toNat)
          case atStart => exact ⟨0, ⟨#[]⟩, rfl, Nat.zero_le _, rfl, rfl, rfl, hfr⟩
          case round =>
            obtain ⟨k, ones, rfl, hk, rfl, hones, hsz, hfr2⟩ := hrel
            have HN : Hid _ := hones
            clear hones
            by_cases hkn : k < n
            · have hknZ : (k : Int) < (n : Int) := by omega
              have z3 : ones.size + (⟨#[95]⟩ : ByteArray).size ≤ 9223372036854775807 := by show ones.size + 1 ≤ _; omega
              have HA2 : Hid (ones ++ (⟨#[95]⟩ : ByteArray) = ⟨(List.replicate (k + 1) 95).toArray⟩) := by
                unfold Hid
                rw [HN.out, show (⟨#[95]⟩ : ByteArray) = ⟨([95] : LK.Bs).toArray⟩ from rfl, app_mk, List.replicate_succ']
              have HZ2 : Hid ((ones ++ (⟨#[95]⟩ : ByteArray)).size = k + 1) := by unfold Hid; rw [ByteArray.size_append, hsz]; rfl
              clear HN
              go_wp2
              go_roundw
              case rel => exact ⟨k + 1, _, by simp, hkn, rfl, HA2.out, HZ2.out, hfr2⟩
              case measure => simp [intOf]; omega
            · have hknZ : ¬ (k : Int) < (n : Int) := by omega
              obtain rfl : k = n := by omega
              have hol : ones.data.toList = List.replicate k 95 := by rw [HN.out]
              have hrun : LK.run (LK.pc ones.data.toList) = (false, List.replicate k ((95 : Int), [95])) := by rw [hol, LK.pc_ones, LK.run_eq, LK.prs_ones]
              have hpe : perr ones = 0 := by unfold perr; rw [if_neg (by omega), if_neg (by rw [hrun]; exact Bool.false_ne_true)]
              have hme : merr ones acc = 0 := by unfold merr; rw [if_neg (by rw [hpe]; decide), if_neg h16]
              have hmt : mtc ones acc = decide (k = l.length) := by
                unfold mtc prts
                rw [hrun, HP.out]
                exact LK.mt_ones k l
              have hma2 := fun W1 (f : Fr w2 W1) => match_any ones acc W1 (by omega) (by omega) ((hT.fr ff).fr f)
              have hm3 := hma2 _ hfr2
              rw [hme, hmt] at hm3
              clear hma2 hol hrun hpe hme hmt HN
              by_cases hkl : k = l.length
              · have e1 : (decide (0 = 0) && decide (k = l.length)) = true := by simp [hkl]
                rw [e1] at hm3
                have e2 : ((k : Int) == (l.length : Int)) = true := by simp [hkl]
                clear e1
                have HK : Hid _ := hkl
                clear hkl
                go_wp2_with fail
                refine hm3.mono ?_
                rintro _ w4 ⟨rfl, f4⟩
                clear hm3
                go_wp2
                go_ret
                exact ⟨rfl, ff.trans (hfr2.trans f4)⟩
              · have e1 : (decide (0 = 0) && decide (k = l.length)) = false := by simp [hkl]
                rw [e1] at hm3
                have e2 : ((k : Int) == (l.length : Int)) = false := by simp; omega
                clear e1
                have HK : Hid _ := hkl
                clear hkl
                go_wp2_with fail
                refine hm3.mono ?_
                rintro _ w4 ⟨rfl, f4⟩
                clear hm3
                go_wp2
                go_ret
                exact ⟨rfl, ff.trans (hfr2.trans f4)⟩

set_option maxRecDepth 100000 in
theorem lifted (os : Os) (started : os.Started) (H : Type) (enc : TypeId × Value → H) :
    ReturnsInHanded {} Tryd.checked os 5 .any (fun w args => (Rows.likePiecesSpec.pre enc Tryd.prog Tryd.f5 [] false w args ∧ laidMetH Tryd.prog Rows.likePiecesRow.laid w) ∧ sizedMet enc Tryd.prog Tryd.f5 (OpenSpec.ofChange Rows.likePiecesSpec) false w args)
      (Rows.likePiecesSpec.post enc Tryd.prog Tryd.f5 false true false false) := by
  refine returnsInHanded_of_change_and (C := Tryd.checked) (X := fun w _ => laidMetH Tryd.prog Rows.likePiecesRow.laid w) (fun _ _ _ hh h => h.of_heap hh) own started (by kernel_rfl) Tryd.func5
    (ChangeSpec.witness_shaped (enc := enc) (C := Tryd.checked) (os := os) (X := fun w _ => laidMetH Tryd.prog Rows.likePiecesRow.laid w) false (World.laidAll Tryd.prog os Rows.likePiecesRow.laid) #[.string ByteArray.empty, .int .i64 0] 8 (World.laidAll_os _ _ _)
      (World.shaped_of_ZipB (by kernel_rfl) (by kernel_rfl)) (by kernel_rfl) (by kernel_rfl) (by kernel_rfl)
      (by rw [MakeChecks.laidMetH_plain _ _ _ (by kernel_rfl)]; exact laidMet_laidAll _ (by kernel_rfl) (by kernel_rfl))) ?_
  intro W base args ds gs before hval0 hW hcnd hsz0 hL _
  have hT : Tb W := tabs_of_laid hL
  have hval : ∀ (j : Nat) t v, Tryd.f5.params[j]? = some t → args[j]? = some v → Value.okWide Tryd.prog W .any base t v := hval0
  have hsz : (DataW.weightsEach Tryd.prog (Tryd.f5.params.toList ++ Rows.likePiecesSpec.plain.varTypes Tryd.prog) (ds ++ gs)).all (· ≤ reachBytes) = true := hsz0
  have hW' := hW
  obtain ⟨p, q, hA0, hV, rfl, hfz, hnd⟩ := hW
  have hA : DataW.TrodAll enc Tryd.prog W 0 (fun _ => true) true Tryd.f5.params.toList args.toList ds p := hA0
  rw [Tryd.params5] at hA hval hsz
  obtain ⟨v0, vs0, d0, ds0, p0, q0, hargs, rfl, rfl, h0, r0⟩ := trodAll_cons hA
  obtain ⟨v1, vs1, d1, ds1, p1, q1, rfl, rfl, rfl, h1, r1⟩ := trodAll_cons r0
  obtain ⟨rfl, rfl, rfl⟩ := trodAll_nil r1
  obtain rfl : args = #[v0, v1] := by cases args; simp_all
  obtain ⟨rfl, rfl⟩ := trodVars_none hV
  obtain ⟨a0, rfl, rfl, rfl, w0⟩ := open_string Tryd.underlying9 (hval 0 9 v0 rfl rfl) h0
  obtain ⟨a1, rfl, rfl, rfl, w1⟩ := open_int Tryd.underlying3 (hval 1 3 v1 rfl rfl) h1
  have b0 : a0.size ≤ 140737488351232 := by
    have h := sized_string hsz (j := 0) (t := 9) rfl rfl
    simpa [reachBytes] using h
  clear hA0 hval0 hsz0
  refine (walk a0 a1 W hT b0 (wf_i64 w1)).mono fun e W' ⟨he, bel⟩ => ?_
  subst he
  exact ⟨_, rfl, _, _, _, [], _, [], hW', trodAll_mk1 (shut_bool Tryd.underlying4 _), (trodAll_cons_mk (shut_string Tryd.underlying9 w0) (trodAll_cons_mk (shut_int Tryd.underlying3 w1) trodAll_mk0)), rfl, Below.frame bel _, fun h => by cases h⟩

theorem over : Rows.likePiecesRow.holds Tryd.pinned (OpenSpec.ofChange Rows.likePiecesSpec) :=
  OpenClaim.holds_of_wide 5 Tryd.f5 rfl rfl rfl rfl rfl rfl rfl ⟨rfl, rfl, rfl, rfl, rfl⟩ rfl rfl rfl rfl rfl (by kernel_rfl) Tryd.func5 (by kernel_rfl)
    (of_decide_eq_true (by kernel_rfl)) (by unfold Func.isWrapper; first | (rw [if_pos (by decide +kernel)]; kernel_rfl) | (rw [if_neg (by decide +kernel)]; exact ⟨rfl, rfl⟩))
    (fun os started H enc _ => lifted os started H enc)

theorem card : Rows.LikePiecesCardSaid :=
  Claim7.holds_tied_plain_at .later [] [.data, .pinned] true (true, "16a35cc793bfe44f891744ca83cbcb2362c0f7c3e5d28fcb30ada395105c9e56") false
    over (fun _ h => by cases h) (by kernel_rfl) (fun _ h => by cases h) likePieces_row_tie rfl ⟨rfl, rfl⟩ (by kernel_rfl) rfl
    (fun f fn hf hfn => by
      obtain rfl : f = 5 := Option.some.inj ((show Tryd.prog.funcNamed "starling/starlinglaw.LikePieces" = some 5 by kernel_rfl).symm.trans hf) |>.symm
      obtain rfl : fn = Tryd.f5 := (Option.some.inj (Tryd.func5.symm.trans hfn)).symm
      exact ⟨by kernel_rfl, fun j t ht => by
        rw [Tryd.params5] at ht
        have hm : t ∈ [9, 3] := by simpa using Array.mem_of_getElem? ht
        have hall : ([9, 3].all fun u => !Tryd.prog.wantsStandIn u) = true := by kernel_rfl
        exact (show Tryd.prog.wantsStandIn t = false by simpa using List.all_eq_true.1 hall t hm)⟩)
    (by kernel_rfl)

end likePiecesProof
theorem likePieces_holds : Rows.LikePiecesCardSaid := likePiecesProof.card
#print axioms likePieces_holds
end Go.Proofs.YtgjgmaadogkjfaaDoor
