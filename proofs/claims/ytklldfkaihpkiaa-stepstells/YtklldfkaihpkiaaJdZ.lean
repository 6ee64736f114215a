/-
  The document's StepsOf.
-/
import Derived.Test.YtklldfkaihpkiaaJdX
import Derived.Test.YtklldfkaihpkiaaJdY
namespace Go.Proofs.Ytklldfkaihpkiaa
open Go.ChangeShapes Go.WideShapes Go.ChangeAt Go.RowKit
set_option linter.unusedVariables false
set_option linter.unusedSimpArgs false
set_option maxRecDepth 100000
set_option maxHeartbeats 4000000

namespace JN
theorem savedO_app (o : Pg B) : ∀ (l m : List W) (i : Nat), savedO o i (l ++ m) = savedO o i l ++ savedO o (i + l.length) m
  | [], m, i => by simp [savedO]
  | x :: l, m, i => by
    rw [List.cons_append, savedO, savedO, savedO_app o l m (i + 1), List.cons_append, List.length_cons]
    congr 3
    omega
theorem saved_take (o : Pg B) (l : List W) (i : Nat) (h : i < l.length) : savedO o 1 (l.take (i + 1)) = savedO o 1 (l.take i) ++ [⟨2, ((i + 1 : Nat) : Int), encB l[i].no.toNat (o l[i].no.toNat)⟩] := by
  rw [List.take_succ_eq_append_getElem h, savedO_app]
  congr 1
  rw [List.length_take, Nat.min_eq_left (by omega)]
  simp only [savedO]
  congr 2
  omega
theorem dataO_take (l : List W) (i : Nat) (h : i < l.length) : dataO (l.take (i + 1)) = dataO (l.take i) ++ [⟨1, l[i].no, l[i].t⟩] := by
  rw [List.take_succ_eq_append_getElem h]
  unfold dataO
  rw [List.map_append]
  rfl
end JN
theorem lit_many {α : Type} (E : Cd α) (W : World) (l : List α) (T : TypeId) : IsL E (W.alloc (.cells (flat E l).toArray T)) (.slice (some ⟨W.heap.size, 0, none⟩) l.length l.length) l := by
  refine ⟨_, _, rfl, Nat.le_refl _, Or.inr ⟨W.heap.size, 0, rfl, by simp, ?_⟩⟩
  intro j u hj
  rw [Nat.zero_add]
  exact (Blk.new W (flat E l).toArray T).cell j (by simpa using hj)
theorem stepsOf_any (p q P Q v : Value) (s : JN.S) (l : List JN.W) (w : World) (hr : IsS w p q P Q s) (hl : IsL cdW w v l) (h1 : s.da.pg.length ≤ 9223372036854775806) (h2 : s.da.wt.length ≤ 9223372036854775806) (h3 : s.jo.pg.length ≤ 9223372036854775806) (h4 : s.jo.wt.length ≤ 9223372036854775806) (h5 : l.length ≤ 9223372036854775806) :
    Calls Try.prog 30 #[.agg #[p, q, P, Q], v] w fun e w' => OIs (JN.stepsS s l) w e w' := by
  have c := stepsCheck_any _ _ _ _ _ s l _ (hr.fr ((Fr.refl w).alloc (.cells #[p, q, P, Q] 46))) (hl.fr ((Fr.refl w).alloc (.cells #[p, q, P, Q] 46))) h1 h2 h3 h4 h5
  obtain ⟨ap, np, cp, rfl⟩ := hr.1.1.slice
  obtain ⟨aq, nq, cq, rfl⟩ := hr.1.2.slice
  obtain ⟨aP, nP, cP, rfl⟩ := hr.2.1.slice
  obtain ⟨aQ, nQ, cQ, rfl⟩ := hr.2.2.slice
  obtain ⟨av, cv, rfl, hcv, hlc⟩ := hl
  have HB := hideP (Blk.new w #[.slice ap np cp, .slice aq nq cq, .slice aP nP cP, .slice aQ nQ cQ] 46)
  have HS := hideP hr
  have HL := hideP hlc
  clear hr hlc
  by_cases h0 : JN.stepsChk s l = 0
  · rw [h0] at c
    have e0 : JN.stepsS s l = (JN.stepsO s l, 0) := by rw [JN.stepsS, if_pos h0]
    have hcan := (JN.steps_can (s := s) (l := l) (by rw [e0])).2
    have hmany := hcan.many
    have heach := hcan.each
    have HE := hideP heach
    rw [e0]
    clear e0 h0 hcan heach
    have CP := hideP (fun W (f : Fr w W) (no : Int) => pageAt_any _ s.da.pg no W (HS.out.fr f).1.1)
    obtain ⟨i0, hi0, hz0, hz1, hz2⟩ := info_parts Try.infoO
    go_enter Try.func30, Try.ntmps30
    go_wp2_with fail
    refine c.mono ?_
    rintro _ w2 ⟨rfl, f1⟩
    have HB2 := hideP (HB.out.fr f1)
    have F2 := hideP (((Fr.refl w).alloc _).trans f1)
    clear c f1 HB
    go_wp2_with fail
    go_loopw [7, 8] (fun ov iv wr => ∃ i : Nat, iv = .int .i64 i ∧ i ≤ l.length ∧ Fr w2 wr ∧ wr.ownsRow w2.heap.size 84 3 ov i (flat cdO (JN.savedO (JN.fn s.da.pg) 1 (l.take i)))) (fun _ iv _ => l.length - (intOf iv).toNat)
    case atStart => exact ⟨0, rfl, Nat.zero_le _, Fr.refl _, World.ownsRow_nil _ _ _ _⟩
    case round =>
      obtain ⟨i, rfl, hi, hfr, hown⟩ := hrel
      obtain ⟨ao, co, rfl⟩ := own_slice hown
      have HO := hideP hown
      have HFr := hideP hfr
      clear hown hfr
      by_cases hlt : i < l.length
      · obtain ⟨b, o, rfl, hb, hc⟩ : ∃ b o, av = some ⟨b, o, none⟩ ∧ b < w.heap.size ∧ At cdW w b o l := by
          rcases HL.out with h | h
          · subst h; simp at hlt
          · exact h
        obtain ⟨c0, c1⟩ := (hc.fr hb (F2.out.trans HFr.out)).wr i hlt
        have c02 := ((hc.fr hb F2.out).wr i hlt).1
        have htk := JN.saved_take (JN.fn s.da.pg) l i hlt
        obtain ⟨ha, hb2, hb3⟩ := HE.out l[i] (List.getElem_mem hlt)
        generalize l[i].no = x1 at c0 c02 htk ha hb3
        obtain ⟨n1, rfl⟩ := Int.eq_ofNat_of_zero_le ha.1
        rw [Int.toNat_natCast] at htk hb3
        have ccp := fun W (f : Fr w W) => CP.out W f (n1 : Int)
        have hpe : JN.pageAt s.da.pg (n1 : Int) = JN.fn s.da.pg n1 := by rw [JN.pageAt, if_neg (by omega), Int.toNat_natCast]
        rw [hpe] at ccp
        generalize JN.fn s.da.pg n1 = pg at htk hb3 ccp
        have ct := fun W => twoBytes_any n1 W (by omega)
        have hen : JN.encB n1 pg = twoB n1 ++ pg := rfl
        rw [hen] at htk
        have h2s := twoB_size n1
        generalize twoB n1 = tb at htk ct h2s
        have HT := hideP htk
        have CT := hideP ct
        have CCP := hideP ccp
        have hlt' : (i : Int) < (l.length : Int) := by omega
        have hsum : (9223372036854775807 < 2 + pg.size) = False := by simp; omega
        have hwi : IntKind.i64.wrap ((i : Int) + 1) = (i : Int) + 1 := by
          simp only [IntKind.wrap, IntKind.signed, IntKind.bits]
          simp
          omega
        obtain ⟨k0, _⟩ := (HB2.out.fr HFr.out).four
        obtain ⟨k2, _⟩ := HB2.out.four
        have HS2 := hideP (show w2.cell? ⟨w.heap.size, 0, none⟩ = some (.slice ap np cp) ∧ w2.cell? ⟨b, o + i * 2, none⟩ = some (.int .i64 n1) from ⟨k2, c02⟩)
        have HS3 := hideP (show wr.cell? ⟨w.heap.size, 0, none⟩ = some (.slice ap np cp) ∧ wr.cell? ⟨b, o + i * 2, none⟩ = some (.int .i64 n1) from ⟨k0, c0⟩)
        have hz := Fr.drew (Fr.refl wr)
        clear htk ct ccp hpe hc c1 ha hb2 hen k2 c02
        go_upto_region 8 with fail
        go_region_held3 (fun W => W.cell? ⟨w.heap.size, 0, none⟩ = some (.slice ap np cp) ∧ W.cell? ⟨b, o + i * 2, none⟩ = some (.int .i64 n1)) (first | exact HS3.out | exact s2_after hz HS3.out | exact s2_after (Fr.alloc hz _) HS3.out | exact ⟨(Below.cell hfB (World.block_lt_of_cell? _ _ HS2.out.1)).trans HS2.out.1, (Below.cell hfB (World.block_lt_of_cell? _ _ HS2.out.2)).trans HS2.out.2⟩) (first
          | (refine step_append_L cdO rfl _ _ 47 84 i0 _ 32 rfl Try.underlying47 hi0 hz0 hz1 hz2 rfl w2.heap.size _ i _ rfl (own_fr HO.out (Fr.alloc hz _)) (.slice (some ⟨w9.heap.size, 0, none⟩) 1 1) [⟨2, (i : Int) + 1, tb ++ pg⟩] rfl (lit_one cdO w9 ⟨2, (i : Int) + 1, tb ++ pg⟩ 84) (by unfold maxLen; simp; omega) (by simp; omega) (by have := HFr.out.size; have := Fr.size hz; simp; omega) ?_; intro v2 wB own2 gr2; have hfB : Fr w2 wB := Below.grown (HFr.out.trans (Fr.alloc hz _)) gr2 (by have := HFr.out.size; have := Fr.size hz; simp; omega) (own_base HO.out))
          | (refine step_append_L cdO rfl _ _ 47 84 i0 _ 32 rfl Try.underlying47 hi0 hz0 hz1 hz2 rfl w2.heap.size _ i _ rfl (own_fr HO.out (Fr.alloc hz _)) (.slice (some ⟨w8.heap.size, 0, none⟩) 1 1) [⟨2, (i : Int) + 1, tb ++ pg⟩] rfl (lit_one cdO w8 ⟨2, (i : Int) + 1, tb ++ pg⟩ 84) (by unfold maxLen; simp; omega) (by simp; omega) (by have := HFr.out.size; have := Fr.size hz; simp; omega) ?_; intro v2 wB own2 gr2; have hfB : Fr w2 wB := Below.grown (HFr.out.trans (Fr.alloc hz _)) gr2 (by have := HFr.out.size; have := Fr.size hz; simp; omega) (own_base HO.out))
          | (go_at_call 28; refine (CCP.out _ (F2.out.trans (HFr.out.trans hz))).mono ?_; rintro _ w9 ⟨rfl, rfl⟩)
          | (go_at_call 62; refine (CT.out _).mono ?_; rintro _ w8 ⟨rfl, f8⟩; replace hz := Fr.after f8 hz; clear f8))
        all_goals (
          have HO2 : Hid (wB.ownsRow w2.heap.size 84 3 v2 (i + 1) (flat cdO (JN.savedO (JN.fn s.da.pg) 1 (l.take (i + 1))))) := by
            unfold Hid
            rw [HT.out, Int.natCast_add, Int.natCast_one]
            exact own2
          clear own2 gr2
          go_wp2_with fail
          go_roundw
          case rel => exact ⟨i + 1, by go_num, by omega, hfB, HO2.out⟩
          case measure => simp [intOf]; omega)
      · obtain rfl : i = l.length := by omega
        have hlt' : ((l.length : Int) < (l.length : Int)) = False := by simp
        have e9 : l.take l.length = l := List.take_length
        rw [e9] at HO
        have hcn := oneByte_any l.length wr (by omega)
        have hhd : JN.headB l.length = (⟨#[74]⟩ : ByteArray) ++ ⟨[UInt8.ofNat l.length].toArray⟩ := by
          rw [show (⟨#[74]⟩ : ByteArray) = ⟨[74].toArray⟩ from rfl, ba_app]
          rfl
        have hob : (⟨[UInt8.ofNat l.length].toArray⟩ : ByteArray).size = 1 := rfl
        generalize (⟨[UInt8.ofNat l.length].toArray⟩ : ByteArray) = ob at hcn hhd hob
        have HHD := hideP hhd
        clear e9 hhd
        go_wp2_with fail
        refine hcn.mono ?_
        rintro _ w3 ⟨rfl, f3⟩
        have F3 := hideP f3
        clear f3 hcn
        have hmid : JN.stepsO s l = JN.savedO (JN.fn s.da.pg) 1 l ++ [⟨4, 0, JN.bl⟩, ⟨2, 0, (⟨#[74]⟩ : ByteArray) ++ ob⟩, ⟨4, 0, JN.bl⟩] ++ (JN.dataO l ++ JN.endsO) := by
          rw [JN.stepsO, HHD.out, List.append_assoc]
        have HM := hideP hmid
        clear hmid
        go_wp2_with (at_builtin; refine wpList_append_L cdO rfl _ _ 47 84 i0 _ 32 rfl Try.underlying47 hi0 hz0 hz1 hz2 rfl w2.heap.size _ l.length _ rfl (own_fr HO.out (Fr.alloc F3.out _)) (.slice (some ⟨w3.heap.size, 0, none⟩) 3 3) [⟨4, 0, JN.bl⟩, ⟨2, 0, (⟨#[74]⟩ : ByteArray) ++ ob⟩, ⟨4, 0, JN.bl⟩] rfl (lit_many cdO w3 [⟨4, 0, JN.bl⟩, ⟨2, 0, (⟨#[74]⟩ : ByteArray) ++ ob⟩, ⟨4, 0, JN.bl⟩] 84) (by unfold maxLen; simp; omega) (by simp; omega) (by have := HFr.out.size; have := F3.out.size; simp; omega) ?_)
        intro v4 w4 own4 gr4
        have F4 : Hid (Fr w2 w4) := Below.grown ((HFr.out.trans F3.out).trans (Fr.alloc (Fr.refl w3) _)) gr4 (by have := HFr.out.size; have := F3.out.size; simp; omega) (own_base HO.out)
        generalize hX : JN.savedO (JN.fn s.da.pg) 1 l ++ [⟨4, 0, JN.bl⟩, ⟨2, 0, (⟨#[74]⟩ : ByteArray) ++ ob⟩, ⟨4, 0, JN.bl⟩] = X at own4 HM
        have hXl : X.length = l.length + 3 := by
          rw [← hX, List.length_append, (JN.savedO_len _ _ _)]
          rfl
        have HXl := hideP hXl
        have HO4 := hideP own4
        clear own4 gr4 hX hXl HO hob HHD F3 HFr hlt hi
        go_wp2_with fail
        go_loopw [7, 9] (fun ov iv wr => ∃ i : Nat, iv = .int .i64 i ∧ i ≤ l.length ∧ Fr w2 wr ∧ wr.ownsRow w2.heap.size 84 3 ov (l.length + 3 + i) (flat cdO (X ++ JN.dataO (l.take i)))) (fun _ iv _ => l.length - (intOf iv).toNat)
        case atStart => exact ⟨0, rfl, Nat.zero_le _, F4.out, by have h : w4.ownsRow w2.heap.size 84 3 v4 (l.length + 3) (flat cdO X) := HO4.out; simpa [JN.dataO] using h⟩
        case round =>
          obtain ⟨i, rfl, hi, hfr, hown⟩ := hrel
          obtain ⟨ao, co, rfl⟩ := own_slice hown
          have HO := hideP hown
          have HFr := hideP hfr
          clear hown hfr
          by_cases hlt : i < l.length
          · obtain ⟨b, o, rfl, hb, hc⟩ : ∃ b o, av = some ⟨b, o, none⟩ ∧ b < w.heap.size ∧ At cdW w b o l := by
              rcases HL.out with h | h
              · subst h; simp at hlt
              · exact h
            obtain ⟨c0, c1⟩ := (hc.fr hb (F2.out.trans HFr.out)).wr i hlt
            have htk := JN.dataO_take l i hlt
            have hs2 := (hc.fr hb F2.out).wr i hlt
            generalize l[i].no = x1 at c0 htk hs2
            generalize l[i].t = x2 at c1 htk hs2
            have HS2x := hideP hs2
            clear hs2
            have HT := hideP htk
            have hlt' : (i : Int) < (l.length : Int) := by omega
            have hz := Fr.drew (Fr.refl wr)
            have HS3 := hideP (show wr.cell? ⟨b, o + i * 2, none⟩ = some (.int .i64 x1) ∧ wr.cell? ⟨b, o + i * 2 + 1, none⟩ = some (.string x2) from ⟨c0, c1⟩)
            have HS2' := HS2x
            clear htk hc
            go_upto_region 13 with fail
            go_region_held3 (fun W => W.cell? ⟨b, o + i * 2, none⟩ = some (.int .i64 x1) ∧ W.cell? ⟨b, o + i * 2 + 1, none⟩ = some (.string x2)) (first | exact HS3.out | exact s2_after hz HS3.out | exact s2_after (Fr.alloc hz _) HS3.out | exact s2_after (Fr.drew (Fr.alloc (Fr.refl wr) _)) HS3.out | exact hcs) (first
              | (refine step_append_L cdO rfl _ _ 47 84 i0 _ 32 rfl Try.underlying47 hi0 hz0 hz1 hz2 rfl w2.heap.size _ (l.length + 3 + i) _ rfl (own_fr HO.out (Fr.drew (Fr.alloc (Fr.refl wr) _))) (.slice (some ⟨wr.heap.size, 0, none⟩) 1 1) [⟨1, x1, x2⟩] rfl ((lit_one cdO wr ⟨1, x1, x2⟩ 84).fr (Fr.drew (Fr.refl _))) (by unfold maxLen; simp; omega) (by simp; omega) (by have := HFr.out.size; simp; omega) ?_; intro v2 wB own2 gr2; have hfB : Fr w2 wB := Below.grown (HFr.out.trans (Fr.drew (Fr.alloc (Fr.refl wr) _))) gr2 (by have := HFr.out.size; simp; omega) (own_base HO.out); have hcs : wB.cell? ⟨b, o + i * 2, none⟩ = some (.int .i64 x1) ∧ wB.cell? ⟨b, o + i * 2 + 1, none⟩ = some (.string x2) := ⟨(Below.cell hfB (Nat.lt_of_lt_of_le hb F2.out.size)).trans HS2'.out.1, (Below.cell hfB (Nat.lt_of_lt_of_le hb F2.out.size)).trans HS2'.out.2⟩))
            all_goals (
              have HO2 : Hid (wB.ownsRow w2.heap.size 84 3 v2 (l.length + 3 + (i + 1)) (flat cdO (X ++ JN.dataO (l.take (i + 1))))) := by
                unfold Hid
                rw [HT.out, ← List.append_assoc]
                exact own2
              clear own2 gr2
              go_wp2_with fail
              go_roundw
              case rel => exact ⟨i + 1, by go_num, by omega, hfB, HO2.out⟩
              case measure => simp [intOf]; omega)
          · obtain rfl : i = l.length := by omega
            have hlt' : ((l.length : Int) < (l.length : Int)) = False := by simp
            have e9 : l.take l.length = l := List.take_length
            rw [e9] at HO
            clear e9
            have cE := endOps_any wr
            go_wp2_with fail
            refine cE.mono ?_
            rintro _ w3 ⟨v3, rfl, hl3, f3⟩
            obtain ⟨a3, n3, c3, rfl⟩ := hl3.slice
            have HL3 := hideP hl3
            have F3 := hideP f3
            clear hl3 f3 cE
            go_wp2_with (at_builtin; refine wpList_append_L cdO rfl _ _ 47 84 i0 _ 32 rfl Try.underlying47 hi0 hz0 hz1 hz2 rfl w2.heap.size _ (l.length + 3 + l.length) _ rfl (own_fr HO.out F3.out) _ JN.endsO rfl HL3.out (by unfold maxLen; simp [JN.endsO]; omega) (by simp [JN.endsO]; omega) (by have := (HFr.out.trans F3.out).size; omega) ?_)
            intro v5 w5 own5 gr5
            have hfB : Fr w2 w5 := Below.grown (HFr.out.trans F3.out) gr5 ((HFr.out.trans F3.out).size) (own_base HO.out)
            have hlen : l.length + 3 + l.length + JN.endsO.length = (JN.stepsO s l).length := by
              rw [HM.out]
              simp [JN.dataO, HXl.out]
              omega
            have HO5 : Hid (IsL cdO w5 v5 (JN.stepsO s l)) := by
              rw [hlen, ← HM.out] at own5
              exact isL_own (E := cdO) own5
            clear own5 gr5 hlen
            go_wp2_with fail
            go_ret2
            exact ⟨_, rfl, HO5.out, F2.out.trans hfB⟩
  · have e0 : JN.stepsS s l = ([], JN.stepsChk s l) := by rw [JN.stepsS, if_neg h0]
    rw [e0]
    clear e0
    generalize JN.stepsChk s l = x at c h0
    have hne : ((x : Int) != 0) = true := by simp; omega
    have hne2 : ¬ ((x : Int) = 0) := by omega
    go_enter Try.func30, Try.ntmps30
    go_wp2_with fail
    refine c.mono ?_
    rintro _ w1 ⟨rfl, f1⟩
    have F1 := hideP (((Fr.refl w).alloc _).trans f1)
    clear c f1
    go_wp2_with fail
    go_ret2
    exact ⟨_, rfl, isL_nil _ _, F1.out⟩
end Go.Proofs.Ytklldfkaihpkiaa
