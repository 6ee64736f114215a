/-
  The document's StoreCheck, IsHot of a store where nothing waits, ReadOf, CrashOf.
-/
import Derived.Test.YtklldfkaihpkiaaJdP
import Derived.Test.YtklldfkaihpkiaaJdM
namespace Go.Proofs.Ytklldfkaihpkiaa
open Go.ChangeShapes Go.WideShapes Go.ChangeAt Go.RowKit
set_option linter.unusedVariables false
set_option linter.unusedSimpArgs false
set_option maxRecDepth 100000
set_option maxHeartbeats 2000000

theorem storeCheck_any (p q P Q : Value) (s : JN.S) (w : World) (hr : IsS w p q P Q s) (h1 : s.da.pg.length ≤ 9223372036854775806) (h2 : s.da.wt.length ≤ 9223372036854775806) (h3 : s.jo.pg.length ≤ 9223372036854775806) (h4 : s.jo.wt.length ≤ 9223372036854775806) :
    Calls Try.prog 33 #[.agg #[p, q, P, Q]] w fun e w' => e = .returned (.int .i64 (JN.schk s)) ∧ Fr w w' := by
  have c := fun W (f : Fr w W) => diskCheck_any _ _ s.da W (hr.1.fr f) h1 h2
  have c2 := fun W (f : Fr w W) => diskCheck_any _ _ s.jo W (hr.2.fr f) h3 h4
  obtain ⟨ap, np, cp, rfl⟩ := hr.1.1.slice
  obtain ⟨aq, nq, cq, rfl⟩ := hr.1.2.slice
  obtain ⟨aP, nP, cP, rfl⟩ := hr.2.1.slice
  obtain ⟨aQ, nQ, cQ, rfl⟩ := hr.2.2.slice
  have b0 := Blk.new w #[.slice ap np cp, .slice aq nq cq, .slice aP nP cP, .slice aQ nQ cQ] 46
  have HS : Hid (JN.schk s = if JN.dchk s.da = 0 then JN.dchk s.jo else JN.dchk s.da) := rfl
  generalize JN.schk s = z at HS
  generalize JN.dchk s.da = x at c HS
  generalize JN.dchk s.jo = y at c2 HS
  have HB := hideP b0
  clear hr b0
  by_cases h0 : x = 0
  · subst h0
    go_enter Try.func33, Try.ntmps33
    go_wp2_with fail
    refine (c _ ((Fr.refl w).alloc _)).mono ?_
    rintro _ w1 ⟨rfl, f1⟩
    obtain ⟨k0, k1, k2, k3, _, _, _, _⟩ := (HB.out.fr f1).four
    have f2 : Fr w w1 := ((Fr.refl w).alloc _).trans f1
    go_wp2_with fail
    refine (c2 _ f2).mono ?_
    rintro _ w2 ⟨rfl, f3⟩
    go_wp2_with fail
    go_ret
    exact ⟨ret_int (by rw [HS.out]; rfl), f2.trans f3⟩
  · have hne : ((x : Int) != 0) = true := by simp; omega
    have hne2 : ¬ ((x : Int) = 0) := by omega
    go_enter Try.func33, Try.ntmps33
    go_wp2_with fail
    refine (c _ ((Fr.refl w).alloc _)).mono ?_
    rintro _ w1 ⟨rfl, f1⟩
    have f2 : Fr w w1 := ((Fr.refl w).alloc _).trans f1
    go_wp2_with fail
    go_ret
    exact ⟨ret_int (by rw [HS.out, if_neg h0]), f2⟩
theorem hotDoc_hot (p q P Q : Value) (s : JN.S) (w : World) (hr : IsS w p q P Q s) (hw : s.jo.wt = []) (hc : JN.hotB (JN.fn s.jo.pg 0) = true) :
    Calls Try.prog 69 #[.agg #[p, q, P, Q]] w fun e w' => e = .returned (.bool true) ∧ Fr w w' := by
  obtain ⟨ap, np, cp, rfl⟩ := hr.1.1.slice
  obtain ⟨aq, nq, cq, rfl⟩ := hr.1.2.slice
  obtain ⟨aP, nP, cP, rfl⟩ := hr.2.1.slice
  obtain ⟨aQ, nQ, cQ, rfl⟩ := hr.2.2.slice
  have c := fun W (f : Fr w W) => lastOf_any _ _ s.jo.pg s.jo.wt 18446744073709551615 0 W (hr.2.fr f).1 (hr.2.fr f).2 (by decide) (by rw [hw]; simp)
  have e1 : JN.lastP 0 (JN.pageAt s.jo.pg 0) s.jo.wt 18446744073709551615 = JN.fn s.jo.pg 0 := by
    rw [hw]; rfl
  rw [e1] at c
  generalize JN.fn s.jo.pg 0 = pg at c hc
  clear e1 hr
  have hpos : 0 < pg.size := by
    have hl : pg.data.toList.length = pg.size := by rw [Array.length_toList]; rfl
    unfold JN.hotB JN.bs at hc
    cases hb : pg.data.toList with
    | nil => rw [hb] at hc; simp at hc
    | cons x r => rw [hb] at hl; simp at hl; omega
  have hposZ : (0 : Int) < (pg.size : Int) := by omega
  have h74 : ((pg[0].toNat : Int) == 74) = true := by
    have e0 := get_bs pg 0 hpos
    unfold JN.hotB at hc
    cases hb : JN.bs pg with
    | nil => rw [hb] at hc; simp at hc
    | cons x r =>
      rw [hb] at e0 hc
      simp at e0 hc
      have : pg[0].toNat = 74 := by rw [e0, hc]; rfl
      rw [this]; rfl
  go_enter Try.func69, Try.ntmps69
  go_wp2_with fail
  refine (c _ ((Fr.refl w).alloc _)).mono ?_
  rintro _ w1 ⟨rfl, rfl⟩
  go_wp2_with fail
  go_ret
  exact ⟨rfl, (Fr.refl w).alloc _⟩
theorem hotDoc_any (p q P Q : Value) (s : JN.S) (w : World) (hr : IsS w p q P Q s) (hw : s.jo.wt = []) :
    Calls Try.prog 69 #[.agg #[p, q, P, Q]] w fun e w' => e = .returned (.bool (JN.hotS s)) ∧ Fr w w' := by
  rw [JN.hot_rest hw]
  cases h : JN.hotB (JN.fn s.jo.pg 0)
  · exact hotDoc_cold p q P Q s w hr hw h
  · exact hotDoc_hot p q P Q s w hr hw h
namespace JN
theorem last_doc {d : D} (h : OkD d) {n : Int} (h0 : 0 ≤ n) : lastP n (pageAt d.pg n) d.wt 18446744073709551615 = land (fn d.pg) (d.wt.map wn) all n.toNat := by
  have hm := h.many
  rw [pageAt, if_neg (by omega), last_land h0 d.wt (fn d.pg) 18446744073709551615 (fun x hx => (h.each x hx).1.1), land_bits_all _ _ (by rw [List.length_map]; omega)]
theorem sett_doc {d : D} (h : OkD d) (m : Nat) : trim (sett d.pg d.wt m) = pagesOf (land (fn d.pg) (d.wt.map wn) (bits m)) := by
  rw [pagesOf]
  congr 1
  unfold sett
  refine List.map_congr_left ?_
  intro i hi
  have e : pageAt d.pg (i : Int) = fn d.pg (i : Int).toNat := by rw [pageAt, if_neg (by omega)]
  rw [e, last_land (by omega) d.wt (fn d.pg) m (fun x hx => (h.each x hx).1.1), Int.toNat_natCast]
end JN
theorem readOf_any (p q : Value) (d : JN.D) (no : Int) (w : World) (hr : IsD w p q d) (hb1 : d.pg.length ≤ 9223372036854775806) (hb2 : d.wt.length ≤ 9223372036854775806) :
    Calls Try.prog 20 #[.agg #[p, q], .int .i64 no] w fun e w' => e = .returned (.tuple #[.string (JN.readD d no).1, .int .i64 (JN.readD d no).2]) ∧ Fr w w' := by
  have c := fun W (f : Fr w W) => diskCheck_any _ _ d W (hr.fr f) hb1 hb2
  have c2 := fun W (f : Fr w W) => lastOf_any _ _ d.pg d.wt 18446744073709551615 no W (hr.fr f).1 (hr.fr f).2 (by decide) hb2
  obtain ⟨ap, np, cp, rfl⟩ := hr.1.slice
  obtain ⟨aq, nq, cq, rfl⟩ := hr.2.slice
  have HB := hideP (Blk.new w #[.slice ap np cp, .slice aq nq cq] 25)
  by_cases h0 : JN.dchk d = 0
  · have hok := (JN.dchk_ok d).1 h0
    rw [h0] at c
    by_cases h1 : no < 0
    · have e1 : JN.readD d no = (JN.bl, 3) := by rw [JN.readD, if_pos h0, if_pos (.inl h1)]
      rw [e1]
      clear hr hok e1 c2
      go_enter Try.func20, Try.ntmps20
      go_wp2_with fail
      refine (c _ ((Fr.refl w).alloc _)).mono ?_
      rintro _ w1 ⟨rfl, f1⟩
      have f2 : Fr w w1 := ((Fr.refl w).alloc _).trans f1
      go_wp2_with fail
      go_ret2
      exact ⟨rfl, f2⟩
    by_cases h2 : 31 < no
    · have e1 : JN.readD d no = (JN.bl, 3) := by rw [JN.readD, if_pos h0, if_pos (.inr h2)]
      rw [e1]
      clear hr hok e1 c2
      go_enter Try.func20, Try.ntmps20
      go_wp2_with fail
      refine (c _ ((Fr.refl w).alloc _)).mono ?_
      rintro _ w1 ⟨rfl, f1⟩
      have f2 : Fr w w1 := ((Fr.refl w).alloc _).trans f1
      go_wp2_with fail
      go_ret2
      exact ⟨rfl, f2⟩
    · have e1 : JN.readD d no = (JN.lastP no (JN.pageAt d.pg no) d.wt 18446744073709551615, 0) := by rw [JN.readD, if_pos h0, if_neg (by omega), JN.last_doc hok (by omega)]
      rw [e1]
      generalize JN.lastP no (JN.pageAt d.pg no) d.wt 18446744073709551615 = x at c2
      clear hr hok e1
      go_enter Try.func20, Try.ntmps20
      go_wp2_with fail
      refine (c _ ((Fr.refl w).alloc _)).mono ?_
      rintro _ w1 ⟨rfl, f1⟩
      obtain ⟨k0, k1, _, _⟩ := (HB.out.fr f1).two
      have f2 : Fr w w1 := ((Fr.refl w).alloc _).trans f1
      go_wp2_with fail
      refine (c2 _ f2).mono ?_
      rintro _ w2 ⟨rfl, rfl⟩
      go_wp2_with fail
      go_ret2
      exact ⟨rfl, f2⟩
  · have e1 : JN.readD d no = (JN.bl, JN.dchk d) := by rw [JN.readD, if_neg h0]
    rw [e1]
    clear e1 c2 hr
    generalize JN.dchk d = x at c h0
    have hne : ((x : Int) != 0) = true := by simp; omega
    have hne2 : ¬ ((x : Int) = 0) := by omega
    have hne3 : ((x : Int) == 0) = false := by simp; omega
    go_enter Try.func20, Try.ntmps20
    go_wp2_with fail
    refine (c _ ((Fr.refl w).alloc _)).mono ?_
    rintro _ w1 ⟨rfl, f1⟩
    have f2 : Fr w w1 := ((Fr.refl w).alloc _).trans f1
    go_wp2_with fail
    go_ret2
    exact ⟨rfl, f2⟩
end Go.Proofs.Ytklldfkaihpkiaa
