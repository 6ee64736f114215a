/-
  What Undo of package journal answers, for every store.
-/
import Derived.Test.YtklldfkaihpkiaaJdE
import Derived.Test.YtklldfkaihpkiaaJdF
namespace Go.Proofs.Ytklldfkaihpkiaa
open Go.ChangeShapes Go.WideShapes Go.ChangeAt Go.RowKit
set_option linter.unusedVariables false
set_option linter.unusedSimpArgs false
set_option maxRecDepth 100000

/-- what a call answers that answers ops -/
def OAns (r : List JN.O × Nat) (w : World) (e : Ending) (w' : World) : Prop :=
  ∃ v, e = .returned (.tuple #[v, .int .i64 r.2]) ∧ w'.ownsRow w.heap.size 84 3 v r.1.length (flat cdO r.1) ∧ Fr w w'
namespace JN
def undoN (j : Pg B) (i : Nat) : List O := dataO ((List.range i).map fun k => ⟨(decB (j (k + 1))).1, (decB (j (k + 1))).2⟩)
theorem undoN_succ (j : Pg B) (i : Nat) : undoN j (i + 1) = undoN j i ++ [⟨1, ((decB (j (i + 1))).1 : Int), (decB (j (i + 1))).2⟩] := by
  simp [undoN, dataO, List.range_succ]
theorem undoN_len (j : Pg B) (i : Nat) : (undoN j i).length = i := by simp [undoN, dataO]
theorem rest_eq (s : S) : (if schk s = 0 then if s.da.wt = [] ∧ s.jo.wt = [] then 0 else 4 else schk s) = 0 → OkS s ∧ s.da.wt = [] ∧ s.jo.wt = [] := by
  intro h
  by_cases h1 : schk s = 0
  · rw [if_pos h1] at h
    by_cases h2 : s.da.wt = [] ∧ s.jo.wt = []
    · exact ⟨(schk_ok s).1 h1, h2⟩
    · rw [if_neg h2] at h; cases h
  · rw [if_neg h1] at h; exact absurd h h1
theorem undo_bad (s : S) (h : ¬ (if schk s = 0 then if s.da.wt = [] ∧ s.jo.wt = [] then 0 else 4 else schk s) = 0) : undoS s = ([], (if schk s = 0 then if s.da.wt = [] ∧ s.jo.wt = [] then 0 else 4 else schk s)) := by
  unfold undoS
  by_cases h1 : schk s = 0
  · rw [if_pos h1] at h ⊢
    rw [if_pos h1]
    by_cases h2 : s.da.wt = [] ∧ s.jo.wt = []
    · rw [if_pos h2] at h; exact absurd rfl h
    · rw [if_neg h2, if_pos (by
        by_cases h3 : s.da.wt = []
        · exact .inr (fun h4 => h2 ⟨h3, h4⟩)
        · exact .inl h3)]
  · rw [if_neg h1, if_neg h1]
theorem undo_cold (s : S) (h : OkS s) (h1 : s.da.wt = []) (h2 : s.jo.wt = []) (hh : hotB (fn s.jo.pg 0) = false) : undoS s = ([], 0) := by
  have e : hotS s = false := by rw [hot_rest h2]; exact hh
  rw [undoS, if_pos ((schk_ok s).2 h), if_neg (by simp [h1, h2]), if_pos e]
theorem undo_hot (s : S) (h : OkS s) (h1 : s.da.wt = []) (h2 : s.jo.wt = []) (hh : hotB (fn s.jo.pg 0) = true) : undoS s =
    if okhB (fn s.jo.pg 0) then if (List.range (countB (fn s.jo.pg 0))).all (fun i => decide (okeB (fn s.jo.pg (i + 1)))) then (undoN (fn s.jo.pg) (countB (fn s.jo.pg 0)) ++ endsO, 0) else ([], 1) else ([], 1) := by
  have e : hotS s = true := by rw [hot_rest h2]; exact hh
  rw [undoS, if_pos ((schk_ok s).2 h), if_neg (by simp [h1, h2]), if_neg (by rw [e]; simp)]; rfl
end JN

theorem own_block_eq {B n sz g : Nat} {T : TypeId} {a : Option Addr} {m c : Nat} {xs : List Value} {w : World} (h : w.ownsRow B T sz (.slice a m c) n xs) (e : (Value.slice a m c).ownBlock = some g) : Value.slice a m c = .slice (some ⟨g, 0, none⟩) m c := by
  rcases h.2 with ⟨h1, _⟩ | ⟨g', cap, cur, h1, h2, h3, _⟩
  · rw [h1] at e; cases e
  · rw [h1] at e ⊢
    simp only [Value.ownBlock, Option.some.injEq] at e
    subst e
    rw [← h1]
    cases h1
    rfl
theorem own_off {B n sz N : Nat} {T T' : TypeId} {v : Value} {xs : List Value} {arr : Array Value} {w : World} (h : w.ownsRow B T sz v n xs) (hb : Blk w N arr T') (hne : T' ≠ T) : Off N v := by
  intro a m c e
  rcases h.2 with ⟨h1, _⟩ | ⟨g', cap, cur, h1, h2, h3, _⟩
  · rw [h1] at e; cases e
  · rw [h1] at e
    cases e
    intro e2
    have e2 : g' = N := e2
    subst e2
    have := hb.symm.trans h3
    simp only [Option.some.injEq, Obj.cells.injEq] at this
    exact hne this.2.1
set_option maxHeartbeats 2000000 in
theorem undo_any (p q P Q : Value) (s : JN.S) (w : World) (hr : IsS w p q P Q s) (h1 : s.da.pg.length ≤ 9223372036854775806) (h2 : s.jo.pg.length ≤ 9223372036854775806) :
    Calls Try.prog 38 #[.agg #[p, q, P, Q]] w fun e w' => OAns (JN.undoS s) w e w' := by
  have c := fun W (f : Fr w W) => checkRest_any _ _ _ _ s W (hr.fr f) h1 h2
  obtain ⟨ap, np, cp, rfl⟩ := hr.1.1.slice
  obtain ⟨aq, nq, cq, rfl⟩ := hr.1.2.slice
  obtain ⟨aP, nP, cP, rfl⟩ := hr.2.1.slice
  obtain ⟨aQ, nQ, cQ, rfl⟩ := hr.2.2.slice
  have hbad := JN.undo_bad s
  have hgood := JN.rest_eq s
  generalize (if JN.schk s = 0 then if s.da.wt = [] ∧ s.jo.wt = [] then 0 else 4 else JN.schk s) = y at c hbad hgood
  by_cases h0 : y = 0
  · subst h0
    obtain ⟨hok, hw1, hw2⟩ := hgood rfl
    clear hbad hgood
    have chot := fun W (f : Fr w W) => isHot_any _ _ s.jo W (hr.2.fr f) h2
    have e0 := JN.read_rest hok.jo hw2 0 (by omega)
    have e0' : (JN.readD s.jo 0).1 = JN.fn s.jo.pg 0 := e0
    rw [e0'] at chot
    have hsz := JN.fn_le hok.jo
    have chas := fun (n : Nat) (hn : n < 32) W (f : Fr w W) => by
      have c := has_any _ _ s.jo (n : Int) W (hr.2.fr f) h2
      rw [JN.read_rest hok.jo hw2 n hn] at c
      exact c
    have hcold := JN.undo_cold s hok hw1 hw2
    have hhot := JN.undo_hot s hok hw1 hw2
    clear hw1 hw2 hok e0 e0' h1 h2 hr
    generalize JN.fn s.jo.pg = j at chot chas hcold hhot hsz
    generalize JN.undoS s = fin at hcold hhot
    have HCh := hideP chas
    cases hh : JN.hotB (j 0) with
    | false =>
      have hfin := hcold hh
      rw [hh] at chot
      subst hfin
      clear hcold hhot hh chas
      go_enter Try.func38, Try.ntmps38
      go_wp2_with fail
      refine (c _ ((Fr.refl w).alloc _)).mono ?_
      rintro _ w1 ⟨rfl, f1⟩
      obtain ⟨k0, k1, k2, k3, _, _, _, _⟩ := ((Blk.new w #[.slice ap np cp, .slice aq nq cq, .slice aP nP cP, .slice aQ nQ cQ] 46).fr f1).four
      have HF := hideP (((Fr.refl w).alloc (.cells #[.slice ap np cp, .slice aq nq cq, .slice aP nP cP, .slice aQ nQ cQ] 46)).trans f1)
      clear f1 c
      go_wp2_with fail
      refine (chot _ HF.out).mono ?_
      rintro _ w2 ⟨rfl, f2⟩
      go_wp2_with fail
      go_ret2
      exact ⟨_, rfl, World.ownsRow_nil _ _ _ _, HF.out.trans f2⟩
    | true =>
      have hfin := hhot hh
      rw [hh] at chot
      clear hcold hhot hh chas
      have cj0 := fun W (f : Fr w W) => HCh.out 0 (by omega) W f
      have hj0 : j 0 = j 0 := rfl
      have hs0 := hsz 0
      by_cases hh2 : JN.okhB (j 0)
      · rw [if_pos hh2] at hfin
        obtain ⟨hsz2, hcn⟩ := hh2
        have h1b : 1 < (j 0).size := by omega
        have eb := get_bs (j 0) 1 h1b
        have ecn : JN.countB (j 0) = (j 0)[1].toNat := by unfold JN.countB; rw [eb]
        rw [ecn] at hcn hfin
        generalize hhd : j 0 = hd at cj0 hsz2 h1b hcn hfin hs0
        have hszZ : ((hd.size : Int) != 2) = false := by simp; omega
        have hszN : (hd.size : Int) = 2 := by omega
        have hidx : (1 : Int) < (hd.size : Int) := by omega
        have hcnZ : ¬ (31 : Int) < (hd[1].toNat : Int) := by omega
        have HFi := hideP hfin
        clear hfin eb ecn hhd hs0 hj0
        obtain ⟨i0, hif, hz0, hz1, hz2⟩ := info_parts Try.infoO
        go_enter Try.func38, Try.ntmps38
        go_wp2_with fail
        refine (c _ ((Fr.refl w).alloc _)).mono ?_
        rintro _ w1 ⟨rfl, f1⟩
        have bx := (Blk.new w #[.slice ap np cp, .slice aq nq cq, .slice aP nP cP, .slice aQ nQ cQ] 46).fr f1
        obtain ⟨k0, k1, k2, k3, _, _, _, _⟩ := bx.four
        have HBx := hideP bx
        have HF := hideP (((Fr.refl w).alloc (.cells #[.slice ap np cp, .slice aq nq cq, .slice aP nP cP, .slice aQ nQ cQ] 46)).trans f1)
        clear f1 c bx
        go_wp2_with fail
        refine (chot _ HF.out).mono ?_
        rintro _ w2 ⟨rfl, f2⟩
        replace HBx := hideP (HBx.out.fr f2)
        replace HF := hideP (HF.out.trans f2)
        clear k0 k1 k2 k3 f2 chot
        obtain ⟨k0, k1, k2, k3, _, _, _, _⟩ := HBx.out.four
        go_wp2_with fail
        refine (cj0 _ HF.out).mono ?_
        rintro _ w3 ⟨rfl, f3⟩
        replace HBx := hideP (HBx.out.fr f3)
        replace HF := hideP (HF.out.trans f3)
        clear k0 k1 k2 k3 f3 cj0
        obtain ⟨cn, hcc⟩ : ∃ cn, hd[1].toNat = cn := ⟨_, rfl⟩
        rw [hcc] at HFi
        have hcn2 : cn ≤ 31 := by omega
        have hcnZ2 : ¬ (31 : Int) < (cn : Int) := by omega
        go_wp2_with fail
        clear hcc
        go_loopw [6, 7, 8, 9, 33] (fun ov _ _ _ iv wr => ∃ i : Nat, iv = .int .i64 i ∧ i ≤ cn ∧ (∀ k, k < i → JN.okeB (j (k + 1))) ∧ wr.ownsRow w.heap.size 84 3 ov i (flat cdO (JN.undoN j i)) ∧ Blk wr w.heap.size #[.slice ap np cp, .slice aq nq cq, .slice aP nP cP, .slice aQ nQ cQ] 46 ∧ Fr w wr) (fun _ _ _ _ iv _ => cn - (intOf iv).toNat)
        case atStart => exact ⟨0, rfl, Nat.zero_le _, fun k hk => by omega, World.ownsRow_nil _ _ _ _, HBx.out, HF.out⟩
        case round =>
          clear HBx HF
          obtain ⟨i, rfl, hi, hall, hown, hbx, hfr⟩ := hrel
          obtain ⟨av, cv, rfl⟩ := own_slice hown
          by_cases hlt : i < cn
          · have hltZ : (i : Int) < (cn : Int) := by omega
            have hch := HCh.out (i + 1) (by omega) wr hfr
            rw [show (((i + 1 : Nat)) : Int) = (i : Int) + 1 by omega] at hch
            have hsu := JN.undoN_succ j i
            have hpg := hsz (i + 1)
            generalize hpp : j (i + 1) = pg at hch hsu hpg
            have HP := hideP hpp
            have cb := fun W => back_any pg W
            obtain ⟨k0, k1, k2, k3, _, _, _, _⟩ := hbx.four
            have HA := hideP hall
            have HO := hideP hown
            have HB := hideP hbx
            have HFr := hideP hfr
            have HSu := hideP hsu
            clear hall hown hbx hfr hsu hpp
            by_cases hoke : JN.okeB pg
            · have eb2 : backV pg = .tuple #[.agg #[.int .i64 1, .int .i64 ((JN.decB pg).1 : Int), .string (JN.decB pg).2], .bool true] := by rw [backV, if_pos hoke]
              rw [eb2] at cb
              have HOk := hideP hoke
              clear hoke eb2
              generalize ((JN.decB pg).1 : Int) = no at cb HSu
              generalize (JN.decB pg).2 = tx at cb HSu
              go_wp2_with fail
              refine hch.mono ?_
              rintro _ w4 ⟨rfl, f4⟩
              go_wp2_with fail
              refine (cb _).mono ?_
              rintro _ w5 ⟨rfl, f5⟩
              have f45 : Fr wr w5 := f4.trans f5
              have HF5 := hideP f45
              clear f4 f5 f45 k0 k1 k2 k3 hch cb
              go_wp2_with (at_builtin; refine wpList_append_own _ rfl _ _ 47 rfl w.heap.size 84 i0 (.agg #[.int .i64 0, .int .i64 0, .string ⟨#[]⟩]) 3 32 Try.underlying47 hif hz0 hz1 hz2 rfl (by decide) _ _ _ rfl (own_fr HO.out ((HF5.out.alloc _).alloc _)) ⟨w5.heap.size + 1, 0, none⟩ 1 1 [.int .i64 1, .int .i64 no, .string tx] rfl ?qc1 ?qc2 ?qc3 ?qc4 ?qc5 ?qc6 ?_)
              case qc1 => rfl
              case qc2 =>
                intro jj u hj
                rw [Addr.add_lit, Nat.zero_add]
                have := (Blk.new (w5.alloc (.cells #[.int .i64 1, .int .i64 no, .string tx] 84)) #[.int .i64 1, .int .i64 no, .string tx] 84).cell jj (u := u) (by simpa using hj)
                rwa [World.size_alloc] at this
              case qc3 => intro u hu; simp at hu; rcases hu with rfl | rfl | rfl <;> rfl
              case qc4 => unfold maxLen; omega
              case qc5 => omega
              case qc6 => have := HFr.out.size; have := HF5.out.size; simp; omega
              intro v2 w6 hown2 hgrow hnil
              have f6 : Fr w w6 := Below.grown (((HFr.out.trans HF5.out).alloc _).alloc _) hgrow (by have := HFr.out.size; have := HF5.out.size; simp; omega) (own_base HO.out)
              have hb6 : Blk w6 w.heap.size #[.slice ap np cp, .slice aq nq cq, .slice aP nP cP, .slice aQ nQ cQ] 46 := by
                refine (((HB.out.fr HF5.out).old _).old _).grown hgrow ?_
                intro e
                exact own_off HO.out HB.out (by decide) _ _ _ (own_block_eq HO.out e) rfl
              have HO6 : Hid (w6.ownsRow w.heap.size 84 3 v2 (i + 1) (flat cdO (JN.undoN j (i + 1)))) := by
                unfold Hid
                rw [HSu.out, flat_app]; exact hown2
              have HF6 := hideP f6
              have HB6 := hideP hb6
              clear hown2 hgrow hnil f6 hb6
              go_wp2_with fail
              go_roundw
              case rel => exact ⟨i + 1, by go_num, by omega, fun k hk => by
                  by_cases e : k = i
                  · subst e; rw [HP.out]; exact HOk.out
                  · exact HA.out k (by omega), HO6.out, HB6.out, HF6.out⟩
              case measure => simp [intOf]; omega
            · have eb2 : backV pg = .tuple #[.agg #[.int .i64 0, .int .i64 0, .string ⟨#[]⟩], .bool false] := by rw [backV, if_neg hoke]
              rw [eb2] at cb
              have hfn : fin = ([], 1) := by
                rw [HFi.out, if_neg]
                intro hx
                have := List.all_eq_true.1 hx i (List.mem_range.2 hlt)
                rw [HP.out] at this
                exact hoke (of_decide_eq_true this)
              have HFn := hideP hfn
              clear hfn hoke eb2
              go_wp2_with fail
              refine hch.mono ?_
              rintro _ w4 ⟨rfl, f4⟩
              go_wp2_with fail
              refine (cb _).mono ?_
              rintro _ w5 ⟨rfl, f5⟩
              have HF5 := hideP (f4.trans f5)
              clear f4 f5 k0 k1 k2 k3 hch cb
              go_wp2_with fail
              go_ret2
              rw [HFn.out]
              exact ⟨_, rfl, World.ownsRow_nil _ _ _ _, (HFr.out.trans HF5.out).alloc _⟩
          · have hi' : i = cn := by omega
            have hfn : fin = (JN.undoN j cn ++ JN.endsO, 0) := by
              rw [HFi.out, if_pos]
              rw [List.all_eq_true]
              intro k hk
              exact decide_eq_true (hall k (by have := List.mem_range.1 hk; omega))
            rw [hi'] at hown
            have hln := JN.undoN_len j cn
            have ce := ended_any (.slice av i cv) (JN.undoN j cn) w.heap.size wr (by rw [hln]; omega) hfr.size (by rw [hln, hi']; exact hown)
            have HFn := hideP hfn
            have HFr := hideP hfr
            clear hfn hall hown hbx hfr hln
            rw [hi'] at ce ⊢
            go_wp2_with fail
            refine ce.mono ?_
            rintro _ w7 ⟨v7, rfl, ho7, f7⟩
            have HO7 := hideP ho7
            clear ho7 ce
            go_wp2_with fail
            go_ret2
            rw [HFn.out]
            exact ⟨_, rfl, HO7.out, Below.trans HFr.out f7⟩
      · rw [if_neg hh2] at hfin
        subst hfin
        have nb : (j 0).size = 2 → ¬ JN.countB (j 0) ≤ 31 := fun a b => hh2 ⟨a, b⟩
        have ecn : ∀ h : 1 < (j 0).size, JN.countB (j 0) = (j 0)[1].toNat := fun h => by unfold JN.countB; rw [get_bs (j 0) 1 h]
        generalize j 0 = hd at cj0 nb ecn
        have HNb := hideP nb
        have HEc := hideP ecn
        clear nb ecn hh2 hj0 hs0
        by_cases h2s : hd.size = 2
        · have h1b : 1 < hd.size := by omega
          have hbig : ¬ hd[1].toNat ≤ 31 := by rw [← HEc.out h1b]; exact HNb.out h2s
          have hbZ : (31 : Int) < (hd[1].toNat : Int) := by omega
          have hszZ : ((hd.size : Int) != 2) = false := by simp; omega
          have hidx : (1 : Int) < (hd.size : Int) := by omega
          have hszN : (hd.size : Int) = 2 := by omega
          go_enter Try.func38, Try.ntmps38
          go_wp2_with fail
          refine (c _ ((Fr.refl w).alloc _)).mono ?_
          rintro _ w1 ⟨rfl, f1⟩
          have bx := (Blk.new w #[.slice ap np cp, .slice aq nq cq, .slice aP nP cP, .slice aQ nQ cQ] 46).fr f1
          obtain ⟨k0, k1, k2, k3, _, _, _, _⟩ := bx.four
          have HBx := hideP bx
          have HF := hideP (((Fr.refl w).alloc (.cells #[.slice ap np cp, .slice aq nq cq, .slice aP nP cP, .slice aQ nQ cQ] 46)).trans f1)
          clear f1 c bx
          go_wp2_with fail
          refine (chot _ HF.out).mono ?_
          rintro _ w2 ⟨rfl, f2⟩
          replace HBx := hideP (HBx.out.fr f2)
          replace HF := hideP (HF.out.trans f2)
          clear k0 k1 k2 k3 f2 chot
          obtain ⟨k0, k1, k2, k3, _, _, _, _⟩ := HBx.out.four
          go_wp2_with fail
          refine (cj0 _ HF.out).mono ?_
          rintro _ w3 ⟨rfl, f3⟩
          replace HF := hideP (HF.out.trans f3)
          clear k0 k1 k2 k3 f3 cj0
          go_wp2_with fail
          go_ret2
          exact ⟨_, rfl, World.ownsRow_nil _ _ _ _, HF.out⟩
        · have hszZ : ((hd.size : Int) != 2) = true := by simp; omega
          have hszN : ¬ (hd.size : Int) = 2 := by omega
          go_enter Try.func38, Try.ntmps38
          go_wp2_with fail
          refine (c _ ((Fr.refl w).alloc _)).mono ?_
          rintro _ w1 ⟨rfl, f1⟩
          have bx := (Blk.new w #[.slice ap np cp, .slice aq nq cq, .slice aP nP cP, .slice aQ nQ cQ] 46).fr f1
          obtain ⟨k0, k1, k2, k3, _, _, _, _⟩ := bx.four
          have HBx := hideP bx
          have HF := hideP (((Fr.refl w).alloc (.cells #[.slice ap np cp, .slice aq nq cq, .slice aP nP cP, .slice aQ nQ cQ] 46)).trans f1)
          clear f1 c bx
          go_wp2_with fail
          refine (chot _ HF.out).mono ?_
          rintro _ w2 ⟨rfl, f2⟩
          replace HBx := hideP (HBx.out.fr f2)
          replace HF := hideP (HF.out.trans f2)
          clear k0 k1 k2 k3 f2 chot
          obtain ⟨k0, k1, k2, k3, _, _, _, _⟩ := HBx.out.four
          go_wp2_with fail
          refine (cj0 _ HF.out).mono ?_
          rintro _ w3 ⟨rfl, f3⟩
          replace HF := hideP (HF.out.trans f3)
          clear k0 k1 k2 k3 f3 cj0
          go_wp2_with fail
          go_ret2
          exact ⟨_, rfl, World.ownsRow_nil _ _ _ _, HF.out⟩
  · have hne : ((y : Int) != 0) = true := by simp; omega
    have hne2 : ¬ ((y : Int) = 0) := by omega
    rw [hbad h0]
    clear hbad hgood hr
    go_enter Try.func38, Try.ntmps38
    go_wp2_with fail
    refine (c _ ((Fr.refl w).alloc _)).mono ?_
    rintro _ w1 ⟨rfl, f1⟩
    go_wp2_with fail
    go_ret2
    exact ⟨_, rfl, World.ownsRow_nil _ _ _ _, ((Fr.refl w).alloc _).trans f1⟩
end Go.Proofs.Ytklldfkaihpkiaa
