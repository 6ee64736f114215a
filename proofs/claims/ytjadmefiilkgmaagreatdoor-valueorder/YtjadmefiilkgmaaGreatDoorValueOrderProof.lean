/-
  Proved: for every three values ValueOrder answers true: the order of values is one. No condition but the form's own reach.
-/
import Derived.Test.YtjadmefiilkgmaaGreatDoorOpenW
namespace Go.Proofs.YtjadmefiilkgmaaGreatDoor.valueOrderProof
open Go.ChangeShapes Go.WideShapes Go.ChangeAt Go.RowKit
set_option linter.unusedVariables false
set_option linter.unusedSimpArgs false
set_option maxRecDepth 100000

def Fits (a b : VM.Vl) (x y z t : Int) (e f g h : Nat) : Prop :=
  (e ≠ 0 ∧ x = 0 ∧ ((f ≠ 0 ∧ y = 0) ∨ f = 0)) ∨ (e = 0 ∧ f ≠ 0 ∧ y = 0) ∨
  (e = 0 ∧ f = 0 ∧ g = 0 ∧ h = 0 ∧ ((x = 0 ∧ t = 0 ∧ a = b ∧ ((y = 0 ∧ z = 0) ∨ (y = -1 ∧ z = -1) ∨ 0 < y)) ∨
    (x = -1 ∧ t = 1 ∧ a ≠ b ∧ ((y = 0 ∧ z = -1) ∨ (y = -1 ∧ z = -1) ∨ 0 < y)) ∨ (x = 1 ∧ t = -1 ∧ a ≠ b)))

theorem cb_val : ∀ l m : List UInt8, Lib.compareBytes l m = -1 ∨ Lib.compareBytes l m = 0 ∨ Lib.compareBytes l m = 1
  | [], [] => by simp [Lib.compareBytes]
  | [], _ :: _ => by simp [Lib.compareBytes]
  | _ :: _, [] => by simp [Lib.compareBytes]
  | a :: l, b :: m => by
    rw [SM.cb_eq]
    split
    · exact Or.inl rfl
    · split
      · exact Or.inr (Or.inr rfl)
      · exact cb_val l m
theorem ord_val (a b : VM.Vl) : CM.ord a b = -1 ∨ CM.ord a b = 0 ∨ CM.ord a b = 1 := by
  have h := cb_val a.s.data.toList b.s.data.toList
  unfold CM.ord CM.or3 CM.ci
  repeat' split
  all_goals omega
theorem fits (a b c : VM.Vl) : Fits a b (CM.cmp a b) (CM.cmp b c) (CM.cmp a c) (CM.cmp b a) (VM.chkAll [a, b]) (VM.chkAll [b, c]) (VM.chkAll [a, c]) (VM.chkAll [b, a]) := by
  have h1 := SM.chk_two a b
  have h2 := SM.chk_two b c
  have h3 := SM.chk_two a c
  have h4 := SM.chk_two b a
  by_cases he : VM.chkAll [a, b] = 0
  · by_cases hf : VM.chkAll [b, c] = 0
    · have hg : VM.chkAll [a, c] = 0 := h3.2 ⟨(h1.1 he).1, (h2.1 hf).2⟩
      have hh : VM.chkAll [b, a] = 0 := h4.2 ⟨(h1.1 he).2, (h1.1 he).1⟩
      refine Or.inr (Or.inr ⟨he, hf, hg, hh, ?_⟩)
      rw [SM.cmp_ok he, SM.cmp_ok hf, SM.cmp_ok hg, SM.cmp_ok hh, SM.ord_anti a b]
      have v1 := ord_val a b
      have v2 := ord_val b c
      have v3 := ord_val a c
      have z1 := SM.ord_zero a b
      have t1 := SM.ord_trans a b c
      have t2 := SM.ord_both a b c
      rcases v1 with h | h | h
      · refine Or.inr (Or.inl ⟨h, by omega, fun e => ?_, ?_⟩)
        · have := z1.2 e; omega
        · rcases v2 with q | q | q
          · have := t1 (by omega) (by omega); have := t2 (by omega) (by omega); omega
          · have := t1 (by omega) (by omega); have := t2 (by omega) (by omega); omega
          · omega
      · refine Or.inl ⟨h, by omega, z1.1 h, ?_⟩
        rcases v2 with q | q | q
        · have := t1 (by omega) (by omega); have := t2 (by omega) (by omega); omega
        · have := t1 (by omega) (by omega); have := t2 (by omega) (by omega); omega
        · omega
      · exact Or.inr (Or.inr ⟨h, by omega, fun e => by have := z1.2 e; omega⟩)
    · exact Or.inr (Or.inl ⟨he, hf, if_neg hf⟩)
  · refine Or.inl ⟨he, if_neg he, ?_⟩
    by_cases hf : VM.chkAll [b, c] = 0
    · exact Or.inr hf
    · exact Or.inl ⟨hf, if_neg hf⟩

theorem tl_eq {a b : ByteArray} (h : a.toList = b.toList) : a = b := by
  rw [Lib.toList_data, Lib.toList_data] at h
  cases a; cases b
  simp at h
  rw [h]
theorem box3 (w : World) (a b c : VM.Vl) : ∃ W, ((w.alloc (.cells #[.int .i64 a.k, .int .i64 a.n, .string a.s] 23)).alloc (.cells #[.int .i64 b.k, .int .i64 b.n, .string b.s] 23)).alloc (.cells #[.int .i64 c.k, .int .i64 c.n, .string c.s] 23) = W ∧ Fr w W ∧ Bx W w.heap.size a.k a.n a.s ∧ Bx W (w.heap.size + 1) b.k b.n b.s ∧ Bx W (w.heap.size + 1 + 1) c.k c.n c.s := by
  refine ⟨_, rfl, (((Fr.refl w).alloc _).alloc _).alloc _, ?_, ?_, ?_⟩
  · exact (Bx.new w a.k a.n a.s).fr (((Fr.refl _).alloc _).alloc _)
  · have := (Bx.new (w.alloc (.cells #[.int .i64 a.k, .int .i64 a.n, .string a.s] 23)) b.k b.n b.s).fr ((Fr.refl _).alloc (.cells #[.int .i64 c.k, .int .i64 c.n, .string c.s] 23))
    rwa [World.size_alloc] at this
  · have := Bx.new ((w.alloc (.cells #[.int .i64 a.k, .int .i64 a.n, .string a.s] 23)).alloc (.cells #[.int .i64 b.k, .int .i64 b.n, .string b.s] 23)) c.k c.n c.s
    rwa [World.size_alloc, World.size_alloc] at this

set_option maxHeartbeats 8000000 in
theorem core (ak an bk bn ck cn : Int) (sa sb sc : ByteArray) (x y z t : Int) (e f g h : Nat) (w : World) (hT : Tb w) (hf : Fits ⟨ak, an, sa⟩ ⟨bk, bn, sb⟩ x y z t e f g h)
    (c1 : ∀ W, Calls Tryz.prog 12 #[.agg #[.int .i64 ak, .int .i64 an, .string sa], .agg #[.int .i64 bk, .int .i64 bn, .string sb]] W fun r w' => r = .returned (.tuple #[.int .i64 x, .int .i64 e]) ∧ Fr W w')
    (c2 : ∀ W, Calls Tryz.prog 12 #[.agg #[.int .i64 bk, .int .i64 bn, .string sb], .agg #[.int .i64 ck, .int .i64 cn, .string sc]] W fun r w' => r = .returned (.tuple #[.int .i64 y, .int .i64 f]) ∧ Fr W w')
    (c3 : ∀ W, Calls Tryz.prog 12 #[.agg #[.int .i64 ak, .int .i64 an, .string sa], .agg #[.int .i64 ck, .int .i64 cn, .string sc]] W fun r w' => r = .returned (.tuple #[.int .i64 z, .int .i64 g]) ∧ Fr W w')
    (c4 : ∀ W, Calls Tryz.prog 12 #[.agg #[.int .i64 bk, .int .i64 bn, .string sb], .agg #[.int .i64 ak, .int .i64 an, .string sa]] W fun r w' => r = .returned (.tuple #[.int .i64 t, .int .i64 h]) ∧ Fr W w') :
    Calls Tryz.prog 4 #[.agg #[.int .i64 ak, .int .i64 an, .string sa], .agg #[.int .i64 bk, .int .i64 bn, .string sb], .agg #[.int .i64 ck, .int .i64 cn, .string sc]] w fun r w' => r = .returned (.bool true) ∧ Fr w w' := by
  obtain ⟨W0, hW0, f0, A0, B0, C0⟩ := box3 w ⟨ak, an, sa⟩ ⟨bk, bn, sb⟩ ⟨ck, cn, sc⟩
  simp only at hW0 A0 B0 C0
  have HFT : Hid _ := hf
  have HW : Hid _ := hW0
  clear hf hW0
  go_enter Tryz.func4, Tryz.ntmps4
  go_wp2_with fail
  rw [HW.out]
  refine (c1 _).mono ?_
  rintro _ w1 ⟨rfl, f1⟩
  have F1 := f0.trans f1
  have A1 := A0.fr f1
  have B1 := B0.fr f1
  have C1 := C0.fr f1
  clear f1 f0 A0 B0 C0 c1 HW
  have a0 := A1.c0
  have a1 := A1.c1
  have a2 := A1.c2
  have b0 := B1.c0
  have b1 := B1.c1
  have b2 := B1.c2
  have d0 := C1.c0
  have d1 := C1.c1
  have d2 := C1.c2
  go_wp2_with fail
  refine (c2 _).mono ?_
  rintro _ w2 ⟨rfl, f2⟩
  have F2 := F1.trans f2
  have A2 := A1.fr f2
  have B2 := B1.fr f2
  have C2 := C1.fr f2
  clear f2 F1 A1 B1 C1 c2 a0 a1 a2 b0 b1 b2 d0 d1 d2
  have a0 := A2.c0
  have a1 := A2.c1
  have a2 := A2.c2
  have b0 := B2.c0
  have b1 := B2.c1
  have b2 := B2.c2
  have d0 := C2.c0
  have d1 := C2.c1
  have d2 := C2.c2
  go_wp2_with fail
  refine (c3 _).mono ?_
  rintro _ w3 ⟨rfl, f3⟩
  have F3 := F2.trans f3
  have A3 := A2.fr f3
  have B3 := B2.fr f3
  clear f3 F2 A2 B2 C2 c3 a0 a1 a2 b0 b1 b2 d0 d1 d2
  have a0 := A3.c0
  have a1 := A3.c1
  have a2 := A3.c2
  have b0 := B3.c0
  have b1 := B3.c1
  have b2 := B3.c2
  go_wp2_with fail
  refine (c4 _).mono ?_
  rintro _ w4 ⟨rfl, f4⟩
  have F4 := F3.trans f4
  have A4 := A3.fr f4
  have B4 := B3.fr f4
  clear f4 F3 A3 B3 c4 a0 a1 a2 b0 b1 b2
  go_wp2_with fail
  refine (begun_any _ (hT.fr F4)).mono ?_
  rintro _ w5 ⟨rfl, f5⟩
  have F5 : Hid (Fr w w5) := F4.trans f5
  have A5 := A4.fr f5
  have B5 := B4.fr f5
  clear f5 F4 A4 B4
  have a0 := A5.c0
  have a1 := A5.c1
  have a2 := A5.c2
  have b0 := B5.c0
  have b1 := B5.c1
  have b2 := B5.c2
  clear A5 B5
  rcases HFT.out with ⟨he, rfl, ⟨hf, rfl⟩ | rfl⟩ | ⟨rfl, hf, rfl⟩ | ⟨rfl, rfl, rfl, rfl, ⟨rfl, rfl, hab, hyz⟩ | ⟨rfl, rfl, hab, hyz⟩ | ⟨rfl, rfl, hab⟩⟩
  · have q1 : ((e : Int) != 0) = true := by simp; omega
    have q2 : ¬ ((e : Int) = 0) := by omega
    have q3 : ((f : Int) != 0) = true := by simp; omega
    have q4 : ¬ ((f : Int) = 0) := by omega
    have q5 : ((e : Int) == 0) = false := by simp; omega
    have q6 : ((f : Int) == 0) = false := by simp; omega
    clear HFT
    go_wp2_with fail
    go_ret
    exact ⟨rfl, F5.out⟩
  · have q1 : ((e : Int) != 0) = true := by simp; omega
    have q2 : ¬ ((e : Int) = 0) := by omega
    have q5 : ((e : Int) == 0) = false := by simp; omega
    clear HFT
    go_wp2_with fail
    go_ret
    exact ⟨rfl, F5.out⟩
  · have q3 : ((f : Int) != 0) = true := by simp; omega
    have q4 : ¬ ((f : Int) = 0) := by omega
    have q6 : ((f : Int) == 0) = false := by simp; omega
    clear HFT
    go_wp2_with fail
    go_ret
    exact ⟨rfl, F5.out⟩
  · injection hab with h1 h2 h3
    subst h1 h2 h3
    clear HFT
    rcases hyz with ⟨rfl, rfl⟩ | ⟨rfl, rfl⟩ | hy
    · go_wp2_with fail
      go_ret
      exact ⟨rfl, F5.out⟩
    · go_wp2_with fail
      go_ret
      exact ⟨rfl, F5.out⟩
    · have q : ¬ y ≤ 0 := by omega
      go_wp2_with fail
      go_ret
      exact ⟨rfl, F5.out⟩
  · have HN : Hid _ := hab
    clear HFT hab
    rcases hyz with ⟨rfl, rfl⟩ | ⟨rfl, rfl⟩ | hy
    · go_wp2_with fail
      all_goals first
        | (go_ret; exact ⟨rfl, F5.out⟩)
        | (exfalso; apply HN.out; simp only [VM.Vl.mk.injEq]; exact ⟨by assumption, by assumption, tl_eq (by assumption)⟩)
    · go_wp2_with fail
      all_goals first
        | (go_ret; exact ⟨rfl, F5.out⟩)
        | (exfalso; apply HN.out; simp only [VM.Vl.mk.injEq]; exact ⟨by assumption, by assumption, tl_eq (by assumption)⟩)
    · have q : ¬ y ≤ 0 := by omega
      go_wp2_with fail
      all_goals first
        | (go_ret; exact ⟨rfl, F5.out⟩)
        | (exfalso; apply HN.out; simp only [VM.Vl.mk.injEq]; exact ⟨by assumption, by assumption, tl_eq (by assumption)⟩)
  · have HN : Hid _ := hab
    clear HFT hab
    go_wp2_with fail
    all_goals first
      | (go_ret; exact ⟨rfl, F5.out⟩)
      | (exfalso; apply HN.out; simp only [VM.Vl.mk.injEq]; exact ⟨by assumption, by assumption, tl_eq (by assumption)⟩)

theorem walk (a b c : VM.Vl) (w : World) (hT : Tb w) (ha : a.s.size ≤ maxLen) (hb : b.s.size ≤ maxLen) (hc : c.s.size ≤ maxLen) :
    Calls Tryz.prog 4 #[a.val, b.val, c.val] w fun e w' => e = .returned (.bool true) ∧ Fr w w' :=
  core a.k a.n b.k b.n c.k c.n a.s b.s c.s _ _ _ _ _ _ _ _ w hT (fits a b c) (fun W => valCompare_any a b W) (fun W => valCompare_any b c W) (fun W => valCompare_any a c W) (fun W => valCompare_any b a W)

set_option maxRecDepth 100000 in
theorem lifted (os : Os) (started : os.Started) (H : Type) (enc : TypeId × Value → H) :
    ReturnsInHanded {} Tryz.checked os 4 .any (fun w args => (Rows.valueOrderSpec.pre enc Tryz.prog Tryz.f4 [] false w args ∧ laidMetH Tryz.prog Rows.valueOrderRow.laid w) ∧ sizedMet enc Tryz.prog Tryz.f4 (OpenSpec.ofChange Rows.valueOrderSpec) false w args)
      (Rows.valueOrderSpec.post enc Tryz.prog Tryz.f4 false true false false) := by
  refine returnsInHanded_of_change_and (C := Tryz.checked) (X := fun w _ => laidMetH Tryz.prog Rows.valueOrderRow.laid w) (fun _ _ _ hh h => h.of_heap hh) own started (by kernel_rfl) Tryz.func4
    (ChangeSpec.witness_shaped (enc := enc) (C := Tryz.checked) (os := os) (X := fun w _ => laidMetH Tryz.prog Rows.valueOrderRow.laid w) false (World.laidAll Tryz.prog os Rows.valueOrderRow.laid) #[.agg #[.int .i64 0, .int .i64 0, .string ByteArray.empty], .agg #[.int .i64 0, .int .i64 0, .string ByteArray.empty], .agg #[.int .i64 0, .int .i64 0, .string ByteArray.empty]] 8 (World.laidAll_os _ _ _)
      (World.shaped_of_ZipB (by kernel_rfl) (by kernel_rfl)) (by kernel_rfl) (by kernel_rfl) (by kernel_rfl)
      (by rw [MakeChecks.laidMetH_plain _ _ _ (by kernel_rfl)]; exact laidMet_laidAll _ (by kernel_rfl) (by kernel_rfl))) ?_
  intro W base args ds gs before hval0 hW hcnd hsz0 hL _
  have hT : Tb W := tabs_of_laid hL
  have hval : ∀ (j : Nat) t v, Tryz.f4.params[j]? = some t → args[j]? = some v → Value.okWide Tryz.prog W .any base t v := hval0
  have hsz : (DataW.weightsEach Tryz.prog (Tryz.f4.params.toList ++ Rows.valueOrderSpec.plain.varTypes Tryz.prog) (ds ++ gs)).all (· ≤ reachBytes) = true := hsz0
  have hW' := hW
  obtain ⟨p, q, hA0, hV, rfl, hfz, hnd⟩ := hW
  have hA : DataW.TrodAll enc Tryz.prog W 0 (fun _ => true) true Tryz.f4.params.toList args.toList ds p := hA0
  rw [Tryz.params4] at hA hval hsz
  obtain ⟨v0, vs0, d0, ds0, p0, q0, hargs, rfl, rfl, h0, r0⟩ := trodAll_cons hA
  obtain ⟨v1, vs1, d1, ds1, p1, q1, rfl, rfl, rfl, h1, r1⟩ := trodAll_cons r0
  obtain ⟨v2, vs2, d2, ds2, p2, q2, rfl, rfl, rfl, h2, r2⟩ := trodAll_cons r1
  obtain ⟨rfl, rfl, rfl⟩ := trodAll_nil r2
  obtain rfl : args = #[v0, v1, v2] := by cases args; simp_all
  obtain ⟨rfl, rfl⟩ := trodVars_none hV
  obtain ⟨a0, rfl, wd0⟩ := open_val (hval 0 23 v0 rfl rfl) h0
  obtain ⟨a1, rfl, wd1⟩ := open_val (hval 1 23 v1 rfl rfl) h1
  obtain ⟨a2, rfl, wd2⟩ := open_val (hval 2 23 v2 rfl rfl) h2
  clear hA0 hval0 hsz0
  refine (walk a0 a1 a2 W hT wd0 wd1 wd2).mono fun e W' ⟨he, bel⟩ => ?_
  subst he
  exact ⟨_, rfl, _, _, _, [], _, [], hW', trodAll_mk1 (shut_bool Tryz.underlying4 _), (trodAll_cons_mk (shut_val h0 bel) (trodAll_cons_mk (shut_val h1 bel) (trodAll_cons_mk (shut_val h2 bel) trodAll_mk0))), rfl, Below.frame bel _, fun h => by cases h⟩

theorem over : Rows.valueOrderRow.holds Tryz.pinned (OpenSpec.ofChange Rows.valueOrderSpec) :=
  OpenClaim.holds_of_wide 4 Tryz.f4 rfl rfl rfl rfl rfl rfl rfl ⟨rfl, rfl, rfl, rfl, rfl⟩ rfl rfl rfl rfl rfl (by kernel_rfl) Tryz.func4 (by kernel_rfl)
    (of_decide_eq_true (by kernel_rfl)) (by unfold Func.isWrapper; first | (rw [if_pos (by decide +kernel)]; kernel_rfl) | (rw [if_neg (by decide +kernel)]; exact ⟨rfl, rfl⟩))
    (fun os started H enc _ => lifted os started H enc)

theorem card : Rows.ValueOrderCardSaid :=
  Claim7.holds_tied_plain_at .later [] [.data, .data, .data, .sentinel, .sentinel] true (true, "096a2825e3b49c34390402dbfe12fba8205c45b11441fe7016cc1e7c1d5b3e22") true
    over (fun _ h => by cases h) (by kernel_rfl) (fun _ h => by cases h) valueOrder_row_tie rfl ⟨rfl, rfl⟩ (by kernel_rfl) rfl
    (fun f fn hf hfn => by
      obtain rfl : f = 4 := Option.some.inj ((show Tryz.prog.funcNamed "starling/starlinglaw.ValueOrder" = some 4 by kernel_rfl).symm.trans hf) |>.symm
      obtain rfl : fn = Tryz.f4 := (Option.some.inj (Tryz.func4.symm.trans hfn)).symm
      exact ⟨by kernel_rfl, fun j t ht => by
        rw [Tryz.params4] at ht
        have hm : t ∈ [23, 23, 23] := by simpa using Array.mem_of_getElem? ht
        have hall : ([23, 23, 23].all fun u => !Tryz.prog.wantsStandIn u) = true := by kernel_rfl
        exact (show Tryz.prog.wantsStandIn t = false by simpa using List.all_eq_true.1 hall t hm)⟩)
    (by kernel_rfl)

end Go.Proofs.YtjadmefiilkgmaaGreatDoor.valueOrderProof
namespace Go.Proofs.YtjadmefiilkgmaaGreatDoor
theorem valueOrder_holds : Rows.ValueOrderCardSaid := valueOrderProof.card
#print axioms valueOrder_holds
end Go.Proofs.YtjadmefiilkgmaaGreatDoor
