/-
  Proved: for every list and every value SortMoves answers true: a sorted list has each value as often as it was, and rises. No condition but the form's own reach.
-/
import Derived.Test.YtjadmefiilkgmaaGreatDoorSrtE
import Derived.Test.YtjadmefiilkgmaaGreatDoorMany
namespace Go.Proofs.YtjadmefiilkgmaaGreatDoor.sortMovesProof
open Go.ChangeShapes Go.WideShapes Go.ChangeAt Go.RowKit
set_option linter.unusedVariables false
set_option linter.unusedSimpArgs false
set_option maxRecDepth 100000

theorem Tryz.bytesVal : Tryz.prog.bytesOf 23 = 32 := by kernel_rfl
theorem open_nilrow {H : Type} {enc : TypeId × Value → H} {W : World} {base : Nat} {r : Reach} {v : Value} {d : DataW H} {p : List MemPlace} (hval : Value.okWide Tryz.prog W r base 28 v)
    (h : DataW.Trod enc Tryz.prog W 0 (fun _ => true) true 28 v d p) : NilOrRow v := by
  obtain ⟨a0, len0, cap0, rfl⟩ := okWide_slice Tryz.underlying28 hval
  obtain ⟨fuel, hf⟩ := h
  rcases Deep.open_slice Tryz.underlying28 hf with ⟨hcs, hx⟩ | ⟨a, len, cap, m, n, D, Pl, hcs, _⟩
  · simp only [Value.cells] at hcs
    simp at hcs
    obtain ⟨rfl, rfl, rfl⟩ := hcs
    exact Or.inl rfl
  · simp only [Value.cells] at hcs
    simp at hcs
    obtain ⟨rfl, rfl, rfl⟩ := hcs
    exact Or.inr ⟨a, _, _, rfl⟩

theorem all_ok : ∀ {l : List VM.Vl}, VM.chkAll l = 0 → ∀ x ∈ l, VM.chk x = 0
  | [], _, x, hx => by simp at hx
  | y :: l, h, x, hx => by
    unfold VM.chkAll at h
    split at h
    · rename_i hy
      rcases List.mem_cons.1 hx with rfl | hx
      · exact hy
      · exact all_ok h x hx
    · rename_i hy; exact absurd h hy
theorem srt_ok {l : List VM.Vl} (h : sErr l = 0) : ∀ x ∈ SM.srt l, VM.chk x = 0 := by
  unfold sErr at h
  split at h
  · cases h
  · intro x hx
    exact all_ok h x ((SM.srt_perm l).mem_iff.1 hx)
theorem srt_next {l : List VM.Vl} (j : Nat) (h : j + 1 < (SM.srt l).length) : CM.ord (SM.srt l)[j] (SM.srt l)[j + 1] ≤ 0 := by
  have := List.pairwise_iff_getElem.1 (SM.srt_sorted l) j (j + 1) (by omega) h (by omega)
  unfold SM.le at this
  simpa using this

theorem s6_after {w w' : World} {a b c a2 b2 c2 : Addr} {u v z u2 v2 z2 : Value} (f : Fr w w') (h : w.cell? a = some u ∧ w.cell? b = some v ∧ w.cell? c = some z ∧ w.cell? a2 = some u2 ∧ w.cell? b2 = some v2 ∧ w.cell? c2 = some z2) : w'.cell? a = some u ∧ w'.cell? b = some v ∧ w'.cell? c = some z ∧ w'.cell? a2 = some u2 ∧ w'.cell? b2 = some v2 ∧ w'.cell? c2 = some z2 := ⟨cell_fr h.1 f, cell_fr h.2.1 f, cell_fr h.2.2.1 f, cell_fr h.2.2.2.1 f, cell_fr h.2.2.2.2.1 f, cell_fr h.2.2.2.2.2 f⟩
set_option maxHeartbeats 8000000 in
theorem core (v : Value) (l m : List VM.Vl) (e : Nat) (x : VM.Vl) (w : World) (hT : Tb w) (hr : IsRow w v l) (hl : l.length ≤ 9223372036854775806)
    (c1 : ∀ W, Fr w W → Calls Tryz.prog 22 #[v] W fun r w' => ∃ v', r = .returned (.tuple #[v', .int .i64 e]) ∧ Fr W w' ∧ IsRow w' v' m)
    (h0 : e ≠ 0 → m = []) (h1 : e = 0 → m.length = l.length ∧ mny x m = mny x l)
    (h2 : e = 0 → ∀ j (h : j + 1 < m.length), CM.cmp m[j] m[j + 1] ≤ 0 ∧ VM.chkAll [m[j], m[j + 1]] = 0) :
    Calls Tryz.prog 9 #[v, x.val] w fun r w' => r = .returned (.bool true) ∧ Fr w w' := by
  have cm := fun u p W (hu : IsRow W u p) hp => many_any u p x W hu hp
  obtain ⟨xk, xn, xs⟩ := x
  unfold VM.Vl.val at *
  simp only at *
  obtain ⟨W0, hW0⟩ : ∃ W0, w.alloc (.cells #[.int .i64 xk, .int .i64 xn, .string xs] 23) = W0 := ⟨_, rfl⟩
  have f0 : Fr w W0 := by rw [← hW0]; exact (Fr.refl w).alloc _
  have b0 : Bx W0 w.heap.size xk xn xs := by rw [← hW0]; exact Bx.new _ _ _ _
  have HW : Hid _ := hW0
  have HR : Hid _ := hr
  have HCM : Hid _ := cm
  obtain ⟨a, cap, rfl, _⟩ := hr
  clear hW0 cm
  go_enter Tryz.func9, Tryz.ntmps9
  go_wp2_with fail
  rw [HW.out]
  refine (c1 _ f0).mono ?_
  rintro _ w1 ⟨v', rfl, f1, hm⟩
  have F1 := f0.trans f1
  have B1 := b0.fr f1
  clear f1 f0 b0 HW c1
  go_wp2_with fail
  refine (begun_any _ (hT.fr F1)).mono ?_
  rintro _ w2 ⟨rfl, f2⟩
  have F2 : Fr w w2 := F1.trans f2
  have B2 := B1.fr f2
  have hm2 := hm.fr f2
  clear f2 F1 B1 hm
  have HM : Hid _ := hm2
  obtain ⟨a2, cap2, rfl, hcs2⟩ := hm2
  by_cases he : e = 0
  · subst he
    obtain ⟨hlen, hmn⟩ := h1 rfl
    have HN : Hid _ := h2 rfl
    have HMN : Hid _ := hmn
    have HC : Hid _ := hcs2
    have HF2 : Hid _ := F2
    have HB2 : Hid _ := B2
    have HMl : Hid (IsRow w2 (.slice a2 l.length cap2) m) := by unfold Hid; rw [← hlen]; exact HM.out
    rw [hlen]
    clear h0 h1 h2 hmn hcs2 F2 B2 HM
    go_wp2_with fail
    go_loopw [7] (fun iv wr => ∃ j : Nat, iv = .int .i64 ((j : Int) + 1) ∧ j ≤ l.length ∧ Fr w2 wr) (fun iv _ => l.length - (intOf iv).toNat + 1)
    case atStart => exact ⟨0, rfl, Nat.zero_le _, Fr.refl _⟩
    case round =>
      obtain ⟨j, rfl, hj, hfr⟩ := hrel
      by_cases hlt : j + 1 < m.length
      · have hltZ : (j : Int) + 1 < (l.length : Int) := by omega
        have hltZ2 : (j : Int) < (l.length : Int) := by omega
        obtain ⟨b, o, rfl, hb, hc⟩ : ∃ b o, a2 = some ⟨b, o, none⟩ ∧ b < w2.heap.size ∧ CellsAt w2 b o m := by
          rcases HC.out with h | h
          · subst h; simp at hlt
          · exact h
        obtain ⟨c0, c1, c2⟩ := (hc.fr hb hfr) j (by omega)
        obtain ⟨d0, d1, d2⟩ := (hc.fr hb hfr) (j + 1) hlt
        obtain ⟨n1, n2⟩ := HN.out j hlt
        have hcp := fun W => valCompare_any m[j] m[j + 1] W
        rw [n2] at hcp
        generalize CM.cmp m[j] m[j + 1] = z at *
        generalize m[j] = y at *
        generalize m[j + 1] = y2 at *
        obtain ⟨yk, yn, ys⟩ := y
        obtain ⟨zk, zn, zs⟩ := y2
        unfold VM.Vl.val at hcp
        simp only at c0 c1 c2 d0 d1 d2 hcp
        have HF : Hid _ := hfr
        have nz : ¬ 0 < z := by omega
        have wj : IntKind.i64.wrap (j : Int) = (j : Int) := by simp only [IntKind.wrap]; simp [IntKind.min, IntKind.max, IntKind.signed, IntKind.bits]; omega
        have pj : (0 : Int) ≤ (j : Int) := by omega
        have wjm : IntKind.i64.wrap ((j : Int) + 1 - 1) = (j : Int) := by rw [show (j : Int) + 1 - 1 = (j : Int) by omega]; exact wj
        have pj1 : (0 : Int) ≤ (j : Int) + 1 := by omega
        have wj1 : IntKind.i64.wrap ((j : Int) + 1) = (j : Int) + 1 := by simp only [IntKind.wrap]; simp [IntKind.min, IntKind.max, IntKind.signed, IntKind.bits]; omega
        clear hc hfr n2
        go_wp2_with fail
        go_region_held3 (fun W' => W'.cell? ⟨b, o + j * 3, none⟩ = some (.int .i64 yk) ∧ W'.cell? ⟨b, o + j * 3 + 1, none⟩ = some (.int .i64 yn) ∧ W'.cell? ⟨b, o + j * 3 + 2, none⟩ = some (.string ys) ∧ W'.cell? ⟨b, o + (j + 1) * 3, none⟩ = some (.int .i64 zk) ∧ W'.cell? ⟨b, o + (j + 1) * 3 + 1, none⟩ = some (.int .i64 zn) ∧ W'.cell? ⟨b, o + (j + 1) * 3 + 2, none⟩ = some (.string zs)) (first | exact ⟨c0, c1, c2, d0, d1, d2⟩ | assumption | exact s6_after (by assumption) (by assumption)) (first | (go_at_call 12; refine (hcp _).mono ?_; rintro e w4 ⟨rfl, hfx⟩))
        all_goals
          have HX : Hid (Fr w2 w4) := Fr.trans (Fr.drew (show Fr w2 wr from HF.out)) hfx
          clear hfx hcp
          go_wp2_with fail
          go_roundw
          case rel => exact ⟨j + 1, by simp, by omega, HX.out⟩
          case measure => simp [intOf]; omega
      · have hltZ : ¬ (j : Int) + 1 < (l.length : Int) := by omega
        have B3 := (show Bx w2 w.heap.size xk xn xs from HB2.out).fr hfr
        have k0 := B3.c0
        have k1 := B3.c1
        have k2 := B3.c2
        have HMm : Hid (IsRow wr (.slice a2 l.length cap2) m) := (show IsRow w2 (.slice a2 l.length cap2) m from HMl.out).fr hfr
        have HF3 : Hid (Fr w wr) := Fr.trans (show Fr w w2 from HF2.out) hfr
        have d1 := fun W (f : Fr wr W) => HCM.out (.slice a2 l.length cap2) m W (HMm.out.fr f) (by omega)
        have d2 := fun W (f : Fr wr W) => HCM.out (.slice a l.length cap) l W ((show IsRow w (.slice a l.length cap) l from HR.out).fr (Fr.trans HF3.out f)) hl
        rw [HMN.out] at d1
        clear hfr B3 HB2 HC HN HR HCM HMN HMl
        generalize mny _ l = q at *
        have d3 : ∀ u W, (u = Value.slice a2 l.length cap2 ∨ u = Value.slice a l.length cap) → Fr wr W → Calls Tryz.prog 25 #[u, .agg #[.int .i64 xk, .int .i64 xn, .string xs]] W fun e w' => e = .returned (.int .i64 q) ∧ Fr W w' := by
          rintro u W (rfl | rfl) f
          · exact d1 W f
          · exact d2 W f
        clear hlen d1 d2
        go_wp2_with fail
        go_region_held3 (fun W' => W'.cell? ⟨w.heap.size, 0, none⟩ = some (.int .i64 xk) ∧ W'.cell? ⟨w.heap.size, 1, none⟩ = some (.int .i64 xn) ∧ W'.cell? ⟨w.heap.size, 2, none⟩ = some (.string xs)) (first | exact ⟨k0, k1, k2⟩ | assumption | exact s3_after (by assumption) (by assumption)) (first
          | (go_at_call 25; refine (d3 _ _ (by first | exact Or.inl rfl | exact Or.inr rfl) (by first | exact Fr.drew (Fr.refl _) | exact Fr.after (by assumption) (Fr.drew (Fr.refl _)))).mono ?_; rintro e w5 ⟨rfl, hfx⟩))
        all_goals
          go_wp2_with fail
          go_ret
          exact ⟨rfl, Fr.trans HF3.out (Fr.after (by assumption) (Fr.after (by assumption) (Fr.drew (Fr.refl _))))⟩
  · obtain rfl := h0 he
    have q1 : ((e : Int) != 0) = true := by simp; omega
    have q2 : ¬ ((e : Int) = 0) := by omega
    have HF : Hid _ := F2
    clear h0 h1 h2 hcs2 HM HR HCM
    go_wp2_with fail
    go_ret
    exact ⟨rfl, HF.out⟩

theorem walk (v : Value) (l : List VM.Vl) (x : VM.Vl) (w : World) (hT : Tb w) (hr : IsRow w v l) (_ : ∀ y ∈ l, y.s.size ≤ maxLen) (hb : l.length * 32 ≤ 140737488351232) (hn : NilOrRow v) (_ : x.s.size ≤ maxLen) :
    Calls Tryz.prog 9 #[v, x.val] w fun e w' => e = .returned (.bool true) ∧ Fr w w' := by
  refine core v l (srtOf l) (sErr l) x w hT hr (by omega) (fun W f => sort_in v l W (hr.fr f) hn (by omega)) (fun h => if_neg h) (fun h => ?_) (fun h j hj => ?_)
  · unfold srtOf
    rw [if_pos h]
    exact ⟨SM.srt_len l, mny_perm (SM.srt_perm l)⟩
  · have e : srtOf l = SM.srt l := if_pos h
    have hj2 : j + 1 < (SM.srt l).length := by rw [← e]; exact hj
    have e1 : (srtOf l)[j] = (SM.srt l)[j] := by simp only [e]
    have e2 : (srtOf l)[j + 1] = (SM.srt l)[j + 1] := by simp only [e]
    rw [e1, e2]
    have hc : VM.chkAll [(SM.srt l)[j], (SM.srt l)[j + 1]] = 0 := (SM.chk_two _ _).2 ⟨srt_ok h _ (List.getElem_mem _), srt_ok h _ (List.getElem_mem _)⟩
    exact ⟨by rw [SM.cmp_ok hc]; exact srt_next j hj2, hc⟩

set_option maxRecDepth 100000 in
theorem lifted (os : Os) (started : os.Started) (H : Type) (enc : TypeId × Value → H) :
    ReturnsInHanded {} Tryz.checked os 9 .any (fun w args => (Rows.sortMovesSpec.pre enc Tryz.prog Tryz.f9 [] false w args ∧ laidMetH Tryz.prog Rows.sortMovesRow.laid w) ∧ sizedMet enc Tryz.prog Tryz.f9 (OpenSpec.ofChange Rows.sortMovesSpec) false w args)
      (Rows.sortMovesSpec.post enc Tryz.prog Tryz.f9 false true false false) := by
  refine returnsInHanded_of_change_and (C := Tryz.checked) (X := fun w _ => laidMetH Tryz.prog Rows.sortMovesRow.laid w) (fun _ _ _ hh h => h.of_heap hh) own started (by kernel_rfl) Tryz.func9
    (ChangeSpec.witness_shaped (enc := enc) (C := Tryz.checked) (os := os) (X := fun w _ => laidMetH Tryz.prog Rows.sortMovesRow.laid w) false (World.laidAll Tryz.prog os Rows.sortMovesRow.laid) #[.slice none 0 0, .agg #[.int .i64 0, .int .i64 0, .string ByteArray.empty]] 8 (World.laidAll_os _ _ _)
      (World.shaped_of_ZipB (by kernel_rfl) (by kernel_rfl)) (by kernel_rfl) (by kernel_rfl) (by kernel_rfl)
      (by rw [MakeChecks.laidMetH_plain _ _ _ (by kernel_rfl)]; exact laidMet_laidAll _ (by kernel_rfl) (by kernel_rfl))) ?_
  intro W base args ds gs before hval0 hW hcnd hsz0 hL _
  have hT : Tb W := tabs_of_laid hL
  have hval : ∀ (j : Nat) t v, Tryz.f9.params[j]? = some t → args[j]? = some v → Value.okWide Tryz.prog W .any base t v := hval0
  have hsz : (DataW.weightsEach Tryz.prog (Tryz.f9.params.toList ++ Rows.sortMovesSpec.plain.varTypes Tryz.prog) (ds ++ gs)).all (· ≤ reachBytes) = true := hsz0
  have hW' := hW
  obtain ⟨p, q, hA0, hV, rfl, hfz, hnd⟩ := hW
  have hA : DataW.TrodAll enc Tryz.prog W 0 (fun _ => true) true Tryz.f9.params.toList args.toList ds p := hA0
  rw [Tryz.params9] at hA hval hsz
  obtain ⟨v0, vs0, d0, ds0, p0, q0, hargs, rfl, rfl, h0, r0⟩ := trodAll_cons hA
  obtain ⟨v1, vs1, d1, ds1, p1, q1, rfl, rfl, rfl, h1, r1⟩ := trodAll_cons r0
  obtain ⟨rfl, rfl, rfl⟩ := trodAll_nil r1
  obtain rfl : args = #[v0, v1] := by cases args; simp_all
  obtain ⟨rfl, rfl⟩ := trodVars_none hV
  obtain ⟨l0, rw0, wd0, ln0, sl0, dd0⟩ := open_row (hval 0 28 v0 rfl rfl) h0
  obtain ⟨a1, rfl, wd1⟩ := open_val (hval 1 23 v1 rfl rfl) h1
  have b0 : l0.length * 32 ≤ 140737488351232 := by
    rcases dd0 with ⟨_, rfl⟩ | ⟨es, sp, hd, hl⟩
    · simp
    · have h := sized_slice hsz (j := 0) (t := 28) rfl (by rw [hd]; rfl) Tryz.underlying28
      rw [Tryz.bytesVal] at h
      unfold reachBytes at h
      omega
  clear hA0 hval0 hsz0
  refine (walk v0 l0 a1 W hT rw0 sl0 b0 (open_nilrow (hval 0 28 v0 rfl rfl) h0) wd1).mono fun e W' ⟨he, bel⟩ => ?_
  subst he
  exact ⟨_, rfl, _, _, _, [], _, [], hW', trodAll_mk1 (shut_bool Tryz.underlying4 _), (trodAll_cons_mk (shut_row h0 bel) (trodAll_cons_mk (shut_val h1 bel) trodAll_mk0)), rfl, Below.frame bel _, fun h => by cases h⟩

theorem over : Rows.sortMovesRow.holds Tryz.pinned (OpenSpec.ofChange Rows.sortMovesSpec) :=
  OpenClaim.holds_of_wide 9 Tryz.f9 rfl rfl rfl rfl rfl rfl rfl ⟨rfl, rfl, rfl, rfl, rfl⟩ rfl rfl rfl rfl rfl (by kernel_rfl) Tryz.func9 (by kernel_rfl)
    (of_decide_eq_true (by kernel_rfl)) (by unfold Func.isWrapper; first | (rw [if_pos (by decide +kernel)]; kernel_rfl) | (rw [if_neg (by decide +kernel)]; exact ⟨rfl, rfl⟩))
    (fun os started H enc _ => lifted os started H enc)

theorem card : Rows.SortMovesCardSaid :=
  Claim7.holds_tied_plain_at .later [] [.data, .data, .data, .sentinel, .sentinel] true (true, "096a2825e3b49c34390402dbfe12fba8205c45b11441fe7016cc1e7c1d5b3e22") true
    over (fun _ h => by cases h) (by kernel_rfl) (fun _ h => by cases h) sortMoves_row_tie rfl ⟨rfl, rfl⟩ (by kernel_rfl) rfl
    (fun f fn hf hfn => by
      obtain rfl : f = 9 := Option.some.inj ((show Tryz.prog.funcNamed "starling/starlinglaw.SortMoves" = some 9 by kernel_rfl).symm.trans hf) |>.symm
      obtain rfl : fn = Tryz.f9 := (Option.some.inj (Tryz.func9.symm.trans hfn)).symm
      exact ⟨by kernel_rfl, fun j t ht => by
        rw [Tryz.params9] at ht
        have hm : t ∈ [28, 23] := by simpa using Array.mem_of_getElem? ht
        have hall : ([28, 23].all fun u => !Tryz.prog.wantsStandIn u) = true := by kernel_rfl
        exact (show Tryz.prog.wantsStandIn t = false by simpa using List.all_eq_true.1 hall t hm)⟩)
    (by kernel_rfl)

end Go.Proofs.YtjadmefiilkgmaaGreatDoor.sortMovesProof
namespace Go.Proofs.YtjadmefiilkgmaaGreatDoor
theorem sortMoves_holds : Rows.SortMovesCardSaid := sortMovesProof.card
#print axioms sortMoves_holds
end Go.Proofs.YtjadmefiilkgmaaGreatDoor
