/-
  What Steps of package journal answers, for every store and writes.
-/
import Derived.Test.YtklldfkaihpkiaaJdG
import Derived.Deep.DeepCutAuto
import Derived.Deep.CutRange
namespace Go.Proofs.Ytklldfkaihpkiaa
open Go.ChangeShapes Go.WideShapes Go.ChangeAt Go.RowKit
set_option linter.unusedVariables false
set_option linter.unusedSimpArgs false
set_option maxRecDepth 100000

namespace JN
theorem savedO_snoc (o : Pg B) (w : W) : ∀ (l : List W) (k : Nat), savedO o k (l ++ [w]) = savedO o k l ++ [⟨2, ((k + l.length : Nat) : Int), encB w.no.toNat (o w.no.toNat)⟩]
  | [], k => by simp [savedO]
  | x :: l, k => by
    rw [List.cons_append, savedO, savedO, savedO_snoc o w l (k + 1), List.cons_append]
    congr 3
    simp only [List.length_cons, O.mk.injEq, true_and, and_true]
    omega
theorem savedO_len (o : Pg B) : ∀ (l : List W) (k : Nat), (savedO o k l).length = l.length
  | [], _ => rfl
  | x :: l, k => by rw [savedO, List.length_cons, savedO_len o l (k + 1), List.length_cons]
def midO (o : Pg B) (l : List W) : List O := savedO o 1 l ++ [⟨4, 0, bl⟩, ⟨2, 0, headB l.length⟩, ⟨4, 0, bl⟩]
theorem midO_len (o : Pg B) (l : List W) : (midO o l).length = l.length + 3 := by rw [midO, List.length_append, savedO_len]; rfl
theorem midO_all (o : Pg B) (l : List W) : midO o l ++ dataO l ++ endsO = savedO o 1 l ++ ([⟨4, 0, bl⟩, ⟨2, 0, headB l.length⟩, ⟨4, 0, bl⟩] ++ (dataO l ++ endsO)) := by
  rw [midO, List.append_assoc, List.append_assoc]
theorem dataO_snoc (l : List W) (i : Nat) (h : i < l.length) : dataO (l.take (i + 1)) = dataO (l.take i) ++ [⟨1, l[i].no, l[i].t⟩] := by
  rw [List.take_succ_eq_append_getElem h, dataO, List.map_append]; rfl
theorem dataO_len (l : List W) : (dataO l).length = l.length := by simp [dataO]
theorem steps_bad (s : S) (l : List W) (h : ¬ (if schk s = 0 then if s.da.wt = [] ∧ s.jo.wt = [] then 0 else 4 else schk s) = 0) : stepsS s l = ([], (if schk s = 0 then if s.da.wt = [] ∧ s.jo.wt = [] then 0 else 4 else schk s)) := by
  have e : stepsChk s l = (if schk s = 0 then if s.da.wt = [] ∧ s.jo.wt = [] then 0 else 4 else schk s) := by
    unfold stepsChk
    by_cases h1 : schk s = 0
    · rw [if_pos h1] at h ⊢
      rw [if_pos h1]
      by_cases h2 : s.da.wt = [] ∧ s.jo.wt = []
      · rw [if_pos h2] at h; exact absurd rfl h
      · rw [if_neg h2, if_pos (by
          by_cases h3 : s.da.wt = []
          · exact .inr (.inl (fun h4 => h2 ⟨h3, h4⟩))
          · exact .inl h3)]
    · rw [if_neg h1, if_neg h1]
  rw [stepsS, e, if_neg h]
theorem steps_hot (s : S) (l : List W) (h : OkS s) (h1 : s.da.wt = []) (h2 : s.jo.wt = []) (hh : hotB (fn s.jo.pg 0) = true) : stepsS s l = ([], 4) := by
  have e : hotS s = true := by rw [hot_rest h2]; exact hh
  have e2 : stepsChk s l = 4 := by rw [stepsChk, if_pos ((schk_ok s).2 h), if_pos (.inr (.inr e))]
  rw [stepsS, e2]; rfl
theorem steps_go (s : S) (l : List W) (h : OkS s) (h1 : s.da.wt = []) (h2 : s.jo.wt = []) (hh : hotB (fn s.jo.pg 0) = false) : stepsS s l =
    if (if 31 < l.length then 2 else eachW (fn s.da.pg) [] l) = 0 then (stepsO s l, 0) else ([], (if 31 < l.length then 2 else eachW (fn s.da.pg) [] l)) := by
  have e : hotS s = false := by rw [hot_rest h2]; exact hh
  have e2 : stepsChk s l = if 31 < l.length then 2 else eachW (fn s.da.pg) [] l := by
    rw [stepsChk, if_pos ((schk_ok s).2 h), if_neg (by rw [h1, h2, e]; simp)]
  rw [stepsS, e2]
end JN
theorem conv_one (n : Nat) (hn : n < 256) (x : Int) (hx : x = n) (w : World) :
    (convert 85 9 (.slice (some ⟨w.heap.size, 0, none⟩) 1 1)).run Try.prog (w.alloc (.cells #[.int .u8 x] 5)) = .ok (.string ⟨#[n.toUInt8]⟩) (w.alloc (.cells #[.int .u8 x] 5)) := by
  subst hx
  refine run_convert_bytes_back (P := Try.prog) _ 85 9 5 ⟨w.heap.size, 0, none⟩ 1 [n.toUInt8] Try.underlying85 Try.underlying5 Try.underlying9 ?_
  intro j hj
  rw [Addr.add_lit, Nat.zero_add]
  match j, hj with
  | 0, _ =>
    have := (Blk.new w #[.int .u8 (n : Int)] 5).cell 0 (u := .int .u8 (n : Int)) rfl
    rw [this, ← u8_small n hn]; rfl
theorem s3_after {w w' : World} {a b c : Addr} {u v z : Value} (f : Fr w w') (h : w.cell? a = some u ∧ w.cell? b = some v ∧ w.cell? c = some z) : w'.cell? a = some u ∧ w'.cell? b = some v ∧ w'.cell? c = some z :=
  ⟨(Below.cell f (World.block_lt_of_cell? _ _ h.1)).trans h.1, (Below.cell f (World.block_lt_of_cell? _ _ h.2.1)).trans h.2.1, (Below.cell f (World.block_lt_of_cell? _ _ h.2.2)).trans h.2.2⟩
theorem blk_app {w w' : World} {B N n : Nat} {a : Option Addr} {m c : Nat} {xs : List Value} {arr : Array Value} {T : TypeId} (hb : Blk w N arr T) (ho : w.ownsRow B 84 3 (.slice a m c) n xs) (hT : T ≠ 84) (hg : w.grownBy w' (Value.slice a m c).ownBlock) : Blk w' N arr T := by
  refine hb.grown hg ?_
  intro e
  exact own_off ho hb hT _ _ _ (own_block_eq ho e) rfl

set_option maxHeartbeats 4000000 in
theorem steps_any (p q P Q v : Value) (s : JN.S) (l : List JN.W) (w : World) (hr : IsS w p q P Q s) (hv : IsL cdW w v l) (h1 : s.da.pg.length ≤ 9223372036854775806) (h2 : s.jo.pg.length ≤ 9223372036854775806) :
    Calls Try.prog 29 #[.agg #[p, q, P, Q], v] w fun e w' => OAns (JN.stepsS s l) w e w' := by
  have c := fun W (f : Fr w W) => checkRest_any _ _ _ _ s W (hr.fr f) h1 h2
  obtain ⟨ap, np, cp, rfl⟩ := hr.1.1.slice
  obtain ⟨aq, nq, cq, rfl⟩ := hr.1.2.slice
  obtain ⟨aP, nP, cP, rfl⟩ := hr.2.1.slice
  obtain ⟨aQ, nQ, cQ, rfl⟩ := hr.2.2.slice
  have HV := hideP hv
  obtain ⟨av, cv, rfl, hcap, hcs⟩ := hv
  have HC := hideP hcs
  clear hcs
  have hbad := JN.steps_bad s l
  have hgood := JN.rest_eq s
  generalize (if JN.schk s = 0 then if s.da.wt = [] ∧ s.jo.wt = [] then 0 else 4 else JN.schk s) = y at c hbad hgood
  by_cases h0 : y = 0
  · subst h0
    obtain ⟨hok, hw1, hw2⟩ := hgood rfl
    clear hbad hgood
    have chot := fun W (f : Fr w W) => isHot_any _ _ s.jo W (hr.2.fr f) h2
    have e0' : (JN.readD s.jo 0).1 = JN.fn s.jo.pg 0 := JN.read_rest hok.jo hw2 0 (by omega)
    rw [e0'] at chot
    have hhot := JN.steps_hot s l hok hw1 hw2
    have hgo := JN.steps_go s l hok hw1 hw2
    have cw := fun W (f : Fr w W) => checkWrites_any _ _ _ s.da l W (hr.1.fr f) hok.da hw1 (HV.out.fr f)
    have chas := fun (n : Nat) (hn : n < 32) W (f : Fr w W) => by
      have c := has_any _ _ s.da (n : Int) W (hr.1.fr f) h1
      rw [JN.read_rest hok.da hw1 n hn] at c
      exact c
    have hszd := JN.fn_le hok.da
    have heach := fun h => JN.eachW_ok (JN.fn s.da.pg) l [] h
    have hso : JN.stepsO s l = JN.savedO (JN.fn s.da.pg) 1 l ++ ([⟨4, 0, JN.bl⟩, ⟨2, 0, JN.headB l.length⟩, ⟨4, 0, JN.bl⟩] ++ (JN.dataO l ++ JN.endsO)) := rfl
    clear hw1 hw2 hok e0' h1 h2 hr HV
    rw [hso] at hgo
    clear hso
    generalize JN.hotB (JN.fn s.jo.pg 0) = hb at chot hhot hgo
    generalize JN.fn s.da.pg = o at cw chas hgo hszd heach
    generalize JN.stepsS s l = fin at hhot hgo
    have HCh := hideP chas
    cases hb with
    | true =>
      have hfin := hhot rfl
      subst hfin
      clear hhot hgo chas
      go_enter Try.func29, Try.ntmps29
      go_wp2_with fail
      refine (c _ ((Fr.refl w).alloc _)).mono ?_
      rintro _ w1 ⟨rfl, f1⟩
      obtain ⟨k0, k1, k2, k3, _, _, _, _⟩ := ((Blk.new w #[.slice ap np cp, .slice aq nq cq, .slice aP nP cP, .slice aQ nQ cQ] 46).fr f1).four
      have HF := hideP (((Fr.refl w).alloc (.cells #[.slice ap np cp, .slice aq nq cq, .slice aP nP cP, .slice aQ nQ cQ] 46)).trans f1)
      clear f1 c
      go_wp2_with fail
      refine (chot _ HF.out).mono ?_
      rintro _ w2 ⟨rfl, f2⟩
      go_wp2_with fail
      go_ret2
      exact ⟨_, rfl, World.ownsRow_nil _ _ _ _, HF.out.trans f2⟩
    | false =>
      have hfin := hgo rfl
      clear hhot hgo chas
      have h31 : (if 31 < l.length then 2 else JN.eachW o [] l) = 0 → l.length ≤ 31 ∧ JN.eachW o [] l = 0 := by
        intro h
        by_cases h3 : 31 < l.length
        · rw [if_pos h3] at h; cases h
        · rw [if_neg h3] at h; exact ⟨by omega, h⟩
      generalize (if 31 < l.length then 2 else JN.eachW o [] l) = y2 at cw hfin h31
      have start : ∀ (K : Prop), K → K := fun _ h => h
      go_enter Try.func29, Try.ntmps29
      go_wp2_with fail
      refine (c _ ((Fr.refl w).alloc _)).mono ?_
      rintro _ w1 ⟨rfl, f1⟩
      have bx := (Blk.new w #[.slice ap np cp, .slice aq nq cq, .slice aP nP cP, .slice aQ nQ cQ] 46).fr f1
      obtain ⟨k0, k1, k2, k3, _, _, _, _⟩ := bx.four
      have HBx := hideP bx
      have HF := hideP (((Fr.refl w).alloc (.cells #[.slice ap np cp, .slice aq nq cq, .slice aP nP cP, .slice aQ nQ cQ] 46)).trans f1)
      clear f1 c bx start
      go_wp2_with fail
      refine (chot _ HF.out).mono ?_
      rintro _ w2 ⟨rfl, f2⟩
      replace HBx := hideP (HBx.out.fr f2)
      replace HF := hideP (HF.out.trans f2)
      clear k0 k1 k2 k3 f2 chot
      obtain ⟨k0, k1, k2, k3, _, _, _, _⟩ := HBx.out.four
      go_wp2_with fail
      refine (cw _ HF.out).mono ?_
      rintro _ w3 ⟨rfl, f3⟩
      replace HBx := hideP (HBx.out.fr f3)
      replace HF := hideP (HF.out.trans f3)
      clear k0 k1 k2 k3 f3 cw
      by_cases hy2 : y2 = 0
      · obtain ⟨hl31, hea⟩ := h31 hy2
        rw [if_pos hy2] at hfin
        have hev := heach hea
        subst hy2
        have HFin := hideP hfin
        have HEv := hideP hev
        clear hfin hev heach h31 hea
        obtain ⟨i0, hif, hz0, hz1, hz2⟩ := info_parts Try.infoO
        go_wp2_with fail
        go_loopw [8, 9, 10, 30] (fun ov _ _ iv wr => ∃ i : Nat, iv = .int .i64 i ∧ i ≤ l.length ∧ wr.ownsRow w.heap.size 84 3 ov i (flat cdO (JN.savedO o 1 (l.take i))) ∧ Blk wr w.heap.size #[.slice ap np cp, .slice aq nq cq, .slice aP nP cP, .slice aQ nQ cQ] 46 ∧ Fr w wr) (fun _ _ _ iv _ => l.length - (intOf iv).toNat)
        case atStart => exact ⟨0, rfl, Nat.zero_le _, World.ownsRow_nil _ _ _ _, HBx.out, HF.out⟩
        case round =>
          clear HBx HF
          obtain ⟨i, rfl, hi, hown, hbx, hfr⟩ := hrel
          obtain ⟨ao, co, rfl⟩ := own_slice hown
          by_cases hlt : i < l.length
          · obtain ⟨b, ofs, rfl, hb, hc⟩ : ∃ b o, av = some ⟨b, o, none⟩ ∧ b < w.heap.size ∧ At cdW w b o l := by
              rcases HC.out with h | h
              · subst h; simp at hlt
              · exact h
            obtain ⟨c0, c1⟩ := (hc.fr hb hfr).wr i hlt
            have hx := HEv.out l[i] (List.getElem_mem hlt)
            have hsn := JN.savedO_snoc o l[i] (l.take i) 1
            rw [← List.take_succ_eq_append_getElem hlt, List.length_take, Nat.min_eq_left hi] at hsn
            generalize hxx : l[i] = x at c0 c1 hx hsn
            obtain ⟨x1, x2⟩ := x
            simp only at c0 c1 hx hsn
            obtain ⟨⟨hx0, hx31⟩, hx2, hx3⟩ := hx
            obtain ⟨n, rfl⟩ := Int.eq_ofNat_of_zero_le hx0
            rw [Int.toNat_natCast] at hsn hx3
            obtain ⟨W1, hW1⟩ : ∃ W1, wr.alloc (.cells #[.int .i64 (n : Int), .string x2] 43) = W1 := ⟨_, rfl⟩
            have f1 : Fr wr W1 := by rw [← hW1]; exact (Fr.refl wr).alloc _
            have bw : Blk W1 wr.heap.size #[.int .i64 (n : Int), .string x2] 43 := by rw [← hW1]; exact Blk.new wr _ _
            obtain ⟨k0, k1, _, _, _, _, _, _⟩ := (hbx.fr f1).four
            have hS : W1.cell? ⟨wr.heap.size, 0, none⟩ = some (.int .i64 (n : Int)) ∧ W1.cell? ⟨w.heap.size, 0, none⟩ = some (.slice ap np cp) ∧ W1.cell? ⟨w.heap.size, 1, none⟩ = some (.slice aq nq cq) := ⟨bw.cell 0 rfl, k0, k1⟩
            have hch := fun W (f : Fr w W) => HCh.out n (by omega) W f
            have hk := fun W => kept_any n (by omega) (o n) (by omega) W
            generalize o n = pg at hch hk hsn hx3
            have HS := hideP hS
            have HO := hideP (own_fr hown f1)
            have HB := hideP (hbx.fr f1)
            have HBw := hideP bw
            have HFr := hideP (hfr.trans f1)
            have HSn := hideP hsn
            have hzz := Fr.drew (Fr.refl W1)
            have hi1 : IntKind.i64.wrap ((i : Int) + 1) = (i : Int) + 1 := by
              simp only [IntKind.wrap, IntKind.signed, IntKind.bits]
              simp
              omega
            clear hS hown hbx hfr hsn hc hxx k0 k1 bw f1
            generalize hec : JN.encB n pg = ec at hk HSn
            have hltZ : (i : Int) < (l.length : Int) := by omega
            go_wp2_with fail
            go_region_held3 (fun W => W.cell? ⟨wr.heap.size, 0, none⟩ = some (.int .i64 (n : Int)) ∧ W.cell? ⟨w.heap.size, 0, none⟩ = some (.slice ap np cp) ∧ W.cell? ⟨w.heap.size, 1, none⟩ = some (.slice aq nq cq)) (first | exact HS.out | assumption | exact s3_after (Fr.alloc (Fr.refl _) _) (by assumption) | exact s3_after (by assumption) (by assumption)) (first
              | (go_at_call 60; refine (hch _ (Fr.after hzz HFr.out)).mono ?_; rintro _ w4 ⟨rfl, f4⟩)
              | (go_at_call 59; refine (hk _).mono ?_; rintro _ w5 ⟨rfl, f5⟩; have f45 : Fr W1 w5 := Fr.after f5 (Fr.after f4 hzz))
              | (refine step_append_own rfl _ _ 47 rfl w.heap.size 84 i0 (.agg #[.int .i64 0, .int .i64 0, .string ⟨#[]⟩]) 3 32 Try.underlying47 hif hz0 hz1 hz2 rfl (by decide) _ _ _ rfl (own_fr HO.out (f45.alloc _)) ⟨w5.heap.size, 0, none⟩ 1 1 [.int .i64 2, .int .i64 ((i : Int) + 1), .string ec] rfl rfl (by intro jj u hj; rw [Addr.add_lit, Nat.zero_add]; exact (Blk.new w5 #[.int .i64 2, .int .i64 ((i : Int) + 1), .string ec] 84).cell jj (by simpa using hj)) (by intro u hu; simp at hu; rcases hu with rfl | rfl | rfl <;> rfl) (by unfold maxLen; omega) (by omega) (by have := (HFr.out.trans f45).size; simp; omega) ?_; intro v2 w6 hown2 hgrow; have hbA6 := blk_app ((HB.out.fr f45).old _) (own_fr HO.out (f45.alloc _)) (by decide) hgrow; have hbW6 := blk_app ((HBw.out.fr f45).old _) (own_fr HO.out (f45.alloc _)) (by decide) hgrow; have hS6 : w6.cell? ⟨wr.heap.size, 0, none⟩ = some (.int .i64 (n : Int)) ∧ w6.cell? ⟨w.heap.size, 0, none⟩ = some (.slice ap np cp) ∧ w6.cell? ⟨w.heap.size, 1, none⟩ = some (.slice aq nq cq) := ⟨hbW6.cell 0 rfl, hbA6.cell 0 rfl, hbA6.cell 1 rfl⟩; have hf6 : Fr w w6 := Below.grown ((HFr.out.trans f45).alloc _) hgrow (by have := (HFr.out.trans f45).size; simp; omega) (own_base HO.out); have HO6 : Hid (w6.ownsRow w.heap.size 84 3 v2 (i + 1) (flat cdO (JN.savedO o 1 (l.take (i + 1))))) := (by unfold Hid; rw [HSn.out, flat_app, show ((1 + i : Nat) : Int) = (i : Int) + 1 by omega]; exact hown2); have HB6 := hideP hbA6; have HF6 := hideP hf6; clear hown2 hgrow hbA6 hbW6 hf6))
            all_goals
              go_wp2_with fail
              go_roundw
              case rel => exact ⟨i + 1, by go_num, by omega, HO6.out, HB6.out, HF6.out⟩
              case measure => simp [intOf]; omega
          · have hi' : i = l.length := by omega
            have hcv := conv_one l.length (by omega) (l.length : Int) rfl wr
            rw [hi', List.take_length] at hown
            have HO := hideP hown
            have HB := hideP hbx
            have HFr := hideP hfr
            rw [hi']
            clear hown hbx hfr hi'
            go_wp2_with (at_builtin; refine wpList_append_own _ rfl _ _ 47 rfl w.heap.size 84 i0 (.agg #[.int .i64 0, .int .i64 0, .string ⟨#[]⟩]) 3 32 Try.underlying47 hif hz0 hz1 hz2 rfl (by decide) _ _ _ rfl (own_fr HO.out (((Fr.refl wr).alloc _).alloc _)) ⟨wr.heap.size + 1, 0, none⟩ 3 3 [.int .i64 4, .int .i64 0, .string ⟨#[]⟩, .int .i64 2, .int .i64 0, .string (⟨#[74]⟩ ++ ⟨#[UInt8.ofNat l.length]⟩), .int .i64 4, .int .i64 0, .string ⟨#[]⟩] rfl ?qc1 ?qc2 ?qc3 ?qc4 ?qc5 ?qc6 ?_)
            case qc1 => rfl
            case qc2 =>
              intro jj u hj
              rw [Addr.add_lit, Nat.zero_add]
              have := (Blk.new (wr.alloc (.cells #[.int .u8 (l.length : Int)] 5)) #[.int .i64 4, .int .i64 0, .string ⟨#[]⟩, .int .i64 2, .int .i64 0, .string (⟨#[74]⟩ ++ ⟨#[UInt8.ofNat l.length]⟩), .int .i64 4, .int .i64 0, .string ⟨#[]⟩] 84).cell jj (u := u) (by simpa using hj)
              rwa [World.size_alloc] at this
            case qc3 => intro u hu; simp at hu; rcases hu with rfl | rfl | rfl | rfl | rfl | rfl | rfl | rfl | rfl <;> rfl
            case qc4 => unfold maxLen; omega
            case qc5 => omega
            case qc6 => have := HFr.out.size; simp; omega
            intro v2 w2 hown2 hgrow hnil
            have hb2 := blk_app ((HB.out.old _).old _) (own_fr HO.out (((Fr.refl wr).alloc _).alloc _)) (by decide) hgrow
            have hf2 : Fr w w2 := Below.grown ((HFr.out.alloc _).alloc _) hgrow (by have := HFr.out.size; simp; omega) (own_base HO.out)
            have ho2 : w2.ownsRow w.heap.size 84 3 v2 (l.length + 3) (flat cdO (JN.midO o l)) := by
              rw [JN.midO, flat_app]; exact hown2
            obtain ⟨a2, c2, rfl⟩ := own_slice ho2
            have HO2 := hideP ho2
            have HB2 := hideP hb2
            have HF2 := hideP hf2
            clear hown2 hgrow hnil hb2 hf2 ho2 HO HB HFr hcv
            go_wp2_with fail
            go_loopw [8, 12, 64] (fun ov _ iv wr => ∃ i : Nat, iv = .int .i64 i ∧ i ≤ l.length ∧ wr.ownsRow w.heap.size 84 3 ov (l.length + 3 + i) (flat cdO (JN.midO o l ++ JN.dataO (l.take i))) ∧ Fr w wr) (fun _ _ iv _ => l.length - (intOf iv).toNat)
            case atStart => exact ⟨0, rfl, Nat.zero_le _, by simpa only [List.take_zero, JN.dataO, List.map_nil, List.append_nil, Nat.add_zero] using HO2.out, HF2.out⟩
            case round =>
              clear HO2 HB2 HF2
              obtain ⟨i, rfl, hi, hown, hfr⟩ := hrel
              obtain ⟨ao, co, rfl⟩ := own_slice hown
              by_cases hlt : i < l.length
              · obtain ⟨b, ofs, rfl, hb, hc⟩ : ∃ b o, av = some ⟨b, o, none⟩ ∧ b < w.heap.size ∧ At cdW w b o l := by
                  rcases HC.out with h | h
                  · subst h; simp at hlt
                  · exact h
                obtain ⟨c0, c1⟩ := (hc.fr hb hfr).wr i hlt
                have hsn := JN.dataO_snoc l i hlt
                generalize l[i].no = x1 at c0 hsn
                generalize l[i].t = x2 at c1 hsn
                have HSn := hideP hsn
                have HO := hideP hown
                have HFr := hideP hfr
                have hltZ : (i : Int) < (l.length : Int) := by omega
                clear hsn hown hfr hc
                go_wp2_with (at_builtin; refine wpList_append_own _ rfl _ _ 47 rfl w.heap.size 84 i0 (.agg #[.int .i64 0, .int .i64 0, .string ⟨#[]⟩]) 3 32 Try.underlying47 hif hz0 hz1 hz2 rfl (by decide) _ _ _ rfl (own_fr HO.out (((Fr.refl wr).alloc _).alloc _)) ⟨wr.heap.size + 1, 0, none⟩ 1 1 [.int .i64 1, .int .i64 x1, .string x2] rfl ?qc1 ?qc2 ?qc3 ?qc4 ?qc5 ?qc6 ?_)
                case qc1 => rfl
                case qc2 =>
                  intro jj u hj
                  rw [Addr.add_lit, Nat.zero_add]
                  have := (Blk.new (wr.alloc (.cells #[.int .i64 x1, .string x2] 43)) #[.int .i64 1, .int .i64 x1, .string x2] 84).cell jj (u := u) (by simpa using hj)
                  rwa [World.size_alloc] at this
                case qc3 => intro u hu; simp at hu; rcases hu with rfl | rfl | rfl <;> rfl
                case qc4 => unfold maxLen; omega
                case qc5 => omega
                case qc6 => have := HFr.out.size; simp; omega
                intro v2 w2 hown2 hgrow hnil
                have hf2 : Fr w w2 := Below.grown ((HFr.out.alloc _).alloc _) hgrow (by have := HFr.out.size; simp; omega) (own_base HO.out)
                have HO2 : Hid (w2.ownsRow w.heap.size 84 3 v2 (l.length + 3 + (i + 1)) (flat cdO (JN.midO o l ++ JN.dataO (l.take (i + 1))))) := by
                  unfold Hid
                  rw [HSn.out, ← List.append_assoc, flat_app, ← Nat.add_assoc]
                  exact hown2
                have HF2 := hideP hf2
                clear hown2 hgrow hnil hf2
                go_wp2_with fail
                go_roundw
                case rel => exact ⟨i + 1, by go_num, by omega, HO2.out, HF2.out⟩
                case measure => simp [intOf]; omega
              · have hi' : i = l.length := by omega
                rw [hi', List.take_length] at hown
                have hln : (JN.midO o l ++ JN.dataO l).length = l.length + 3 + l.length := by
                  rw [List.length_append, JN.midO_len, JN.dataO_len]
                have ce := ended_any (.slice ao (l.length + 3 + i) co) (JN.midO o l ++ JN.dataO l) w.heap.size wr (by rw [hln]; omega) hfr.size (by rw [hln, hi']; exact hown)
                have HFr := hideP hfr
                clear hown hfr hln
                rw [hi'] at ce ⊢
                go_wp2_with fail
                refine ce.mono ?_
                rintro _ w7 ⟨v7, rfl, ho7, f7⟩
                have HO7 := hideP ho7
                clear ho7 ce
                go_wp2_with fail
                go_ret2
                rw [HFin.out]
                refine ⟨_, rfl, ?_, Below.trans HFr.out f7⟩
                have := HO7.out
                rw [JN.midO_all] at this
                exact this
      · rw [if_neg hy2] at hfin
        have hne : ((y2 : Int) != 0) = true := by simp; omega
        have hne2 : ¬ ((y2 : Int) = 0) := by omega
        subst hfin
        clear heach h31
        go_wp2_with fail
        go_ret2
        exact ⟨_, rfl, World.ownsRow_nil _ _ _ _, HF.out⟩
  · have hne : ((y : Int) != 0) = true := by simp; omega
    have hne2 : ¬ ((y : Int) = 0) := by omega
    rw [hbad h0]
    clear hbad hgood hr
    go_enter Try.func29, Try.ntmps29
    go_wp2_with fail
    refine (c _ ((Fr.refl w).alloc _)).mono ?_
    rintro _ w1 ⟨rfl, f1⟩
    go_wp2_with fail
    go_ret2
    exact ⟨_, rfl, World.ownsRow_nil _ _ _ _, ((Fr.refl w).alloc _).trans f1⟩
end Go.Proofs.Ytklldfkaihpkiaa
