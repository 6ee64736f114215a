/-
  Proved: for every two bytes and every sum SumTables answers true: each entry of the table is the xor of those of its bits, and one byte more is one step by it. No condition.
-/
import Derived.Test.YtbclbpfkdjagkabTable
namespace Go.Proofs.Ytbclbpfkdjagkab.sumTablesProof
open Go.ChangeShapes Go.WideShapes Go.ChangeAt Go.RowKit
open Go.ChangeMaps (open_string shut_string)
set_option linter.unusedVariables false

theorem cell_keep {b : Nat} {f : Nat → Nat} {w w' : World} (h : ∀ j, j < 256 → w.cell? ⟨b, j, none⟩ = some (.int .u32 (f j : Int))) (hf : Fr w w') :
    ∀ j, j < 256 → w'.cell? ⟨b, j, none⟩ = some (.int .u32 (f j : Int)) := by
  intro j hj
  have hb := World.block_lt_of_cell? w _ (h j hj)
  rw [← h j hj]
  exact Below.cell hf hb

set_option maxRecDepth 100000 in
set_option maxHeartbeats 2000000 in
theorem core (f : Nat → Nat) (a b : UInt8) (c R x3 x4 y3 y4 m : Nat) (w : World) (hc : c < 4294967296)
    (hT : Hid (∀ w : World, Calls Try.prog 18 #[] w fun e w' => e = .returned (.agg (tabList f).toArray) ∧ Fr w w'))
    (hR : bits .xor .u32 IntKind.u32.max (c : Int) = (R : Int)) (f0 : ((f 0 : Int) == 0) = true) (f128 : ((f 128 : Int) == 2197175160) = true)
    (h3 : bits .xor .u8 (a.toNat : Int) (b.toNat : Int) = (x3 : Int)) (hx3 : (x3 : Int) < 256)
    (g3 : bits .xor .u32 (f a.toNat : Int) (f b.toNat : Int) = (y3 : Int)) (t3 : ((f x3 : Int) == (y3 : Int)) = true)
    (h4 : bits .xor .u8 ((R : Int) % 256) (a.toNat : Int) = (x4 : Int)) (hx4 : (x4 : Int) < 256)
    (g4 : bits .xor .u32 (f x4 : Int) ((R : Int) / 256) = (y4 : Int)) (k4 : bits .xor .u32 IntKind.u32.max (y4 : Int) = (m : Int))
    (hm : Hid (SM.more c (⟨[a].toArray⟩ : ByteArray).data.toList = m)) :
    Calls Try.prog 6 #[.int .u8 (a.toNat : Int), .int .u8 (b.toNat : Int), .int .u32 (c : Int)] w fun e w' => e = .returned (.bool true) ∧ Fr w w' := by
  have ha : (a.toNat : Int) < 256 := by have := a.toNat_lt; omega
  have hb : (b.toNat : Int) < 256 := by have := b.toNat_lt; omega
  have HO1 : Hid ((⟨[a].toArray⟩ : ByteArray).size ≤ maxLen) := by unfold Hid maxLen; exact (show 1 ≤ 2 ^ 63 - 1 by decide)
  have hz := zero_tab
  go_enter Try.func6, Try.ntmps6
  go_wp2_with fail
  refine (hT.out _).mono ?_
  rintro e w1 ⟨rfl, hfr⟩
  have HI : Hid ((Try.prog.info? 36).map (·.size) = some (tabList f).toArray.size) := by unfold Hid; rw [show (tabList f).toArray.size = 256 by simp [tabList]]; exact info_tab
  have HO : Hid _ := all_oneCell_toArray (tabList_one f)
  have HTH : Hid ((w1.alloc (.cells zeros256 36)).there w1.heap.size 0 (tabList f).toArray.size) := by
    unfold Hid; rw [show (tabList f).toArray.size = 256 by simp [tabList]]; exact (Tab.made w1).there
  have HR2 : Hid _ := World.rangeAt_setCells_same (w1.alloc (.cells zeros256 36)) w1.heap.size 0 (tabList f) (by rw [tabList_len]; exact (Tab.made w1).there)
  have hF2 : Hid _ := frset (Nat.le_refl w1.heap.size) (tabList f) 0 _ ((Fr.refl w1).alloc (.cells zeros256 36))
  have HC : Hid (∀ j, j < 256 → ((w1.alloc (.cells zeros256 36)).setCells w1.heap.size 0 (tabList f)).cell? ⟨w1.heap.size, j, none⟩ = some (.int .u32 (f j : Int))) := by
    intro j hj
    have := HR2.out j (.int .u32 (f j : Int)) (by simp [tabList, hj])
    rwa [Nat.zero_add] at this
  clear HR2
  generalize hTL : tabList f = T at *
  have HTL : Hid _ := hTL
  clear hTL
  go_wp2_with (refine wpList_store_mid rfl 36 (.tmp 7) (.tmp 9) rfl w1.heap.size 0 T.toArray rfl rfl HTH.out HI.out HO.out ?_)
  clear h hT HI HO HTH hz HTL
  generalize (w1.alloc (.cells zeros256 36)).setCells w1.heap.size 0 T = W2 at *
  have hW : Fr w W2 := Fr.trans hfr hF2.out
  clear hF2 hfr
  generalize w1.heap.size = B at *
  have hc0 := HC.out
  clear HC
  have h4' : bits .xor .u8 (IntKind.u8.wrap (R : Int)) (a.toNat : Int) = (x4 : Int) := by rw [IntKind.wrap_u8']; exact h4
  have nx3 : x3 < 256 := by omega
  have nx4 : x4 < 256 := by omega
  have na : a.toNat < 256 := by omega
  have nb : b.toNat < 256 := by omega
  go_region_held3 (fun w' => ∀ j, j < 256 → w'.cell? ⟨B, j, none⟩ = some (.int .u32 (f j : Int))) (first | assumption | exact hc0 | exact cell_keep (by assumption) (by assumption))
    (first
      | (go_at_call 14; refine (sumBegun_any _).mono ?_; rintro e w' ⟨rfl, rfl⟩)
      | (go_at_call 19; refine (byteText_any _ _).mono ?_; rintro e w' ⟨rfl, hb2⟩)
      | (go_at_call 15; refine (more_named _ _ _ _ hc HO1.out hm.out).mono ?_; rintro e w' ⟨rfl, rfl⟩))
  all_goals
    go_wp2
    go_ret
    exact ⟨rfl, Fr.trans (Fr.drew hW) hb2⟩

theorem ez0 : SM.ez 0 = 0 := by decide +kernel
theorem ez128 : SM.ez 128 = 2197175160 := by decide +kernel

theorem byte_xor_lt {x y : Nat} (hx : x < 256) (hy : y < 256) : x ^^^ y < 256 := by
  have := Nat.xor_lt_two_pow (n := 8) (show x < 2 ^ 8 by omega) (show y < 2 ^ 8 by omega)
  omega

/-- one byte more is one step by the table -/
theorem one_step (R : Nat) (a : UInt8) : SM.ez (R ^^^ a.toNat) = SM.ez ((R % 256) ^^^ a.toNat) ^^^ (R / 256) := by
  have ha := a.toNat_lt
  rw [SM.ez_split (R ^^^ a.toNat)]
  have e1 : (R ^^^ a.toNat) % 256 = (R % 256) ^^^ a.toNat := by
    have h := Nat.xor_mod_two_pow (a := R) (b := a.toNat) (n := 8)
    rw [show (2 : Nat) ^ 8 = 256 by decide, Nat.mod_eq_of_lt (show a.toNat < 256 by omega)] at h
    exact h
  have e2 : (R ^^^ a.toNat) / 256 = R / 256 := by
    have h := Nat.xor_div_two_pow (a := R) (b := a.toNat) (n := 8)
    rw [show (2 : Nat) ^ 8 = 256 by decide, Nat.div_eq_of_lt (show a.toNat < 256 by omega), Nat.xor_zero] at h
    exact h
  rw [e1, e2]

theorem walk (a b c : Int) (w : World) (ha : 0 ≤ a ∧ a ≤ 255) (hb : 0 ≤ b ∧ b ≤ 255) (hc : 0 ≤ c ∧ c ≤ 4294967295) :
    Calls Try.prog 6 #[.int .u8 a, .int .u8 b, .int .u32 c] w fun e w' => e = .returned (.bool true) ∧ Fr w w' := by
  obtain ⟨u, rfl⟩ := byte_of ha
  obtain ⟨v, rfl⟩ := byte_of hb
  obtain ⟨d, rfl⟩ := Int.eq_ofNat_of_zero_le hc.1
  have hd : d < 4294967296 := by omega
  have hu := u.toNat_lt
  have hv := v.toNat_lt
  have hR := SM.nt_lt hd
  have hx3 : u.toNat ^^^ v.toNat < 256 := byte_xor_lt hu hv
  have hx4 : (SM.nt d % 256) ^^^ u.toNat < 256 := byte_xor_lt (Nat.mod_lt _ (by decide)) hu
  have hez : ∀ x, x < 256 → SM.ez x < 4294967296 := fun x hx => SM.ez_lt (by omega)
  have hy4 : SM.ez ((SM.nt d % 256) ^^^ u.toNat) ^^^ (SM.nt d / 256) < 4294967296 := SM.xor_lt (hez _ hx4) (Nat.lt_of_le_of_lt (Nat.div_le_self _ _) hR)
  have h4 := u8_xor_nat (SM.nt d % 256) u.toNat (Nat.mod_lt _ (by decide)) hu
  have g4 := u32_xor_nat (SM.ez ((SM.nt d % 256) ^^^ u.toNat)) (SM.nt d / 256) (hez _ hx4) (Nat.lt_of_le_of_lt (Nat.div_le_self _ _) hR)
  refine core SM.ez u v d (SM.nt d) (u.toNat ^^^ v.toNat) ((SM.nt d % 256) ^^^ u.toNat) (SM.ez u.toNat ^^^ SM.ez v.toNat) (SM.ez ((SM.nt d % 256) ^^^ u.toNat) ^^^ (SM.nt d / 256)) _ w hd
    table_any (turned32 d hd) (by rw [ez0]; rfl) (by rw [ez128]; rfl) (u8_xor_nat _ _ hu hv) (by omega) (u32_xor_nat _ _ (hez _ hu) (hez _ hv)) ?_ ?_ (by omega) ?_ (turned32 _ hy4) ?_
  · have : SM.ez (u.toNat ^^^ v.toNat) = SM.ez u.toNat ^^^ SM.ez v.toNat := SM.steps_xor 8 _ _
    rw [this]; simp
  · rw [← h4]; congr 1
  · rw [← g4]; congr 1
  · unfold Hid SM.more
    show SM.nt (SM.run (SM.nt d) [u]) = _
    rw [SM.run_cons, SM.run_nil, one_step]

set_option maxRecDepth 100000 in
theorem lifted (os : Os) (started : os.Started) (H : Type) (enc : TypeId × Value → H) :
    ReturnsInHanded {} Try.checked os 6 .any (Rows.sumTablesSpec.pre6 enc Try.prog Try.f6 Rows.sumTablesRow.domain false) (Rows.sumTablesSpec.post enc Try.prog Try.f6 false true false false) := by
  refine returnsInHanded_of_change_sized (C := Try.checked) own started (by kernel_rfl) Try.func6
    (ChangeSpec.witness6 (enc := enc) (C := Try.checked) false ⟨#[], #[.int .u8 0, .int .u8 0, .int .u32 0], []⟩ 8 (by kernel_rfl) (by kernel_rfl) (by kernel_rfl) (by kernel_rfl)) ?_
  intro W base args ds gs before hval0 hW hcnd hsz0 _
  have hval : ∀ (j : Nat) t v, Try.f6.params[j]? = some t → args[j]? = some v → Value.okWide Try.prog W .any base t v := hval0
  have hsz : (DataW.weightsEach Try.prog (Try.f6.params.toList ++ Rows.sumTablesSpec.plain.varTypes Try.prog) (ds ++ gs)).all (· ≤ reachBytes) = true := hsz0
  have hW' := hW
  obtain ⟨p, q, hA0, hV, rfl, hfz, hnd⟩ := hW
  have hA : DataW.TrodAll enc Try.prog W 0 (fun _ => true) true Try.f6.params.toList args.toList ds p := hA0
  rw [Try.params6] at hA hval hsz
  obtain ⟨v0, vs0, d0, ds0, p0, q0, hargs, rfl, rfl, h0, r0⟩ := trodAll_cons hA
  obtain ⟨v1, vs1, d1, ds1, p1, q1, rfl, rfl, rfl, h1, r1⟩ := trodAll_cons r0
  obtain ⟨v2, vs2, d2, ds2, p2, q2, rfl, rfl, rfl, h2, r2⟩ := trodAll_cons r1
  obtain ⟨rfl, rfl, rfl⟩ := trodAll_nil r2
  obtain rfl : args = #[v0, v1, v2] := by cases args; simp_all
  obtain ⟨rfl, rfl⟩ := trodVars_none hV
  obtain ⟨a0, rfl, rfl, rfl, w0⟩ := open_int Try.underlying5 (hval 0 5 v0 rfl rfl) h0
  obtain ⟨a1, rfl, rfl, rfl, w1⟩ := open_int Try.underlying5 (hval 1 5 v1 rfl rfl) h1
  obtain ⟨a2, rfl, rfl, rfl, w2⟩ := open_int Try.underlying32 (hval 2 32 v2 rfl rfl) h2
  clear hA0 hval0 hsz0
  refine (walk a0 a1 a2 W (wf_u8 w0) (wf_u8 w1) (wf_u32 w2)).mono fun e W' ⟨he, bel⟩ => ?_
  subst he
  exact ⟨_, rfl, _, _, _, [], _, [], hW', trodAll_mk1 (shut_bool Try.underlying4 _), (trodAll_cons_mk (shut_int Try.underlying5 w0) (trodAll_cons_mk (shut_int Try.underlying5 w1) (trodAll_cons_mk (shut_int Try.underlying32 w2) trodAll_mk0))), rfl, Below.frame bel _, fun h => by cases h⟩

theorem over : Rows.sumTablesRow.holds Try.pinned (OpenSpec.ofChange Rows.sumTablesSpec) :=
  OpenClaim.holds_of_wide 6 Try.f6 rfl rfl rfl rfl rfl rfl rfl ⟨rfl, rfl, rfl, rfl, rfl⟩ rfl rfl rfl rfl rfl (by kernel_rfl) Try.func6 (by kernel_rfl)
    (of_decide_eq_true (by kernel_rfl)) (by unfold Func.isWrapper; first | (rw [if_pos (by decide +kernel)]; kernel_rfl) | (rw [if_neg (by decide +kernel)]; exact ⟨rfl, rfl⟩))
    (fun os started H enc _ => lifted os started H enc)

end Go.Proofs.Ytbclbpfkdjagkab.sumTablesProof
namespace Go.Proofs.Ytbclbpfkdjagkab
theorem sumTables_holds : Rows.SumTablesSaid := sumTablesProof.over
#print axioms sumTables_holds
end Go.Proofs.Ytbclbpfkdjagkab
