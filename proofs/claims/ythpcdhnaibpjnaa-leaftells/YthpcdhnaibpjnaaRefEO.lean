/-
  What the document's own EntriesOf answers.
-/
import Derived.Test.YthpcdhnaibpjnaaRefRowOf
import Derived.Test.YthpcdhnaibpjnaaRefEB
import Derived.Test.YthpcdhnaibpjnaaLfV
namespace Go.Proofs.Ythpcdhnaibpjnaa
open Go.ChangeShapes Go.WideShapes Go.ChangeAt Go.RowKit
set_option linter.unusedVariables false
set_option linter.unusedSimpArgs false
set_option maxRecDepth 100000

theorem en_sg {last : Int} {l : List UInt8} {c : Nat} (h : LF.sg l = .error c) : LF.en last l = .error c := by unfold LF.en; rw [h]
theorem en_three {last id : Int} {l t : List UInt8} (h : LF.sg l = .ok (id, t)) (h1 : id < 1) : LF.en last l = .error 3 := by unfold LF.en; rw [h]; simp only; rw [if_pos h1]
theorem en_four {last id : Int} {l t : List UInt8} (h : LF.sg l = .ok (id, t)) (h1 : 1 ≤ id) (h2 : id ≤ last) : LF.en last l = .error 4 := by unfold LF.en; rw [h]; simp only; rw [if_neg (by omega), if_pos h2]
theorem en_bad {last id : Int} {l t : List UInt8} {c : Nat} (h : LF.sg l = .ok (id, t)) (h1 : 1 ≤ id) (h2 : last < id) (hr : RM.row t = .error c) : LF.en last l = .error c := by unfold LF.en; rw [h]; simp only; rw [if_neg (by omega), if_neg (by omega), hr]
theorem en_good {last id : Int} {l t u : List UInt8} {r : List VM.Vl} (h : LF.sg l = .ok (id, t)) (h1 : 1 ≤ id) (h2 : last < id) (hr : RM.row t = .ok (r, u)) : LF.en last l = .ok ((id, r), u) := by unfold LF.en; rw [h]; simp only; rw [if_neg (by omega), if_neg (by omega), hr]
theorem ext_size (s : ByteArray) (k : Nat) (h : k ≤ s.size) : (s.extract k s.size).size = s.size - k := by rw [ByteArray.size_extract]; omega
/-- what stands last in a row of entries -/
theorem Oe.shape {B : Nat} {v : Value} {l : List Ev} {w : World} (h : Oe B v l w) :
    (l = [] ∧ ∃ a c, v = .slice a 0 c) ∨ ∃ g c q, v = .slice (some ⟨g, 0, none⟩) (q + 1) c ∧ l.length = q + 1 ∧ w.cell? ⟨g, q * 2, none⟩ = some (.int .i64 (LF.lst 0 (l.map (·.1)))) := by
  rcases List.eq_nil_or_concat l with rfl | ⟨init, z, hcc⟩
  · left
    refine ⟨rfl, ?_⟩
    rcases h.own.2 with ⟨e, _⟩ | ⟨g, cap, cur, e, _⟩
    · exact ⟨none, 0, e⟩
    · exact ⟨_, cap, e⟩
  · right
    rw [List.concat_eq_append] at hcc
    subst hcc
    rcases h.own.2 with ⟨_, e⟩ | ⟨g, cap, cur, e, e2, e3, e4, e5, e6, e7⟩
    · simp at e
    · refine ⟨g, cap, init.length, by rw [e]; simp, by simp, ?_⟩
      have hg := (esV_get (init ++ [z]) init.length (by simp)).1
      have hz : (init ++ [z])[init.length]'(by simp) = z := by simp
      rw [hz] at hg
      have hl : LF.lst 0 ((init ++ [z]).map (·.1)) = z.1.1 := by
        rw [List.map_append]
        exact LF.lst_snoc _ _ _
      rw [hl, Lib.cell_of_heap e3]
      rw [← e7, List.getElem?_take] at hg
      split at hg
      · rw [← hg, Array.getElem?_toList]
      · cases hg

set_option maxHeartbeats 1000000 in
theorem entriesOf_any (s : ByteArray) (w : World) (hs : s.size ≤ 9223372036854775807) :
    Calls Try.prog 12 #[.string s] w fun e w' => UnpAs w.heap.size s e w' ∧ Fr w w' := by
  obtain ⟨i0, hi0, hz0, hz1, hz2⟩ := info_parts Try.infoEn
  have hlen : s.data.toList.length = s.size := by rw [Array.length_toList]; rfl
  by_cases h245 : 245 < s.size
  · have hx := hideP (LF.unp_long (l := s.data.toList) (by omega))
    have h245' : (245 : Int) < (s.size : Int) := by omega
    go_enter Try.func12, Try.ntmps12
    go_wp2_with fail
    go_ret2
    refine ⟨?_, Fr.refl _⟩
    unfold UnpAs
    rw [hx.out]
    rfl
  have h245' : (s.size : Int) ≤ 245 := by omega
  have hle : s.data.toList.length ≤ 245 := by omega
  have hrd := fun W => numOf_any s W (by unfold maxLen; omega)
  have hrk := RM.rd_le s.data.toList
  have hrn := NM.rd_lt s.data.toList
  unfold rdv at hrd
  obtain ⟨n, k, er, hD⟩ : ∃ n k er, NM.rd s.data.toList 0 0 = (n, k, er) := ⟨_, _, _, rfl⟩
  have hnu : RM.nu s.data.toList = if er = 0 then .ok (n, s.data.toList.drop k) else .error er := by
    unfold RM.nu
    rw [hD]
  have hbad : er ≠ 0 → n = 0 ∧ k = 0 := fun he => by
    have := NM.rd_bad s.data.toList 0 0 (by rw [hD]; exact he)
    rw [hD] at this
    exact this
  rw [hD] at hrd hrk hrn
  simp only at hrd hrk hrn
  rw [hlen] at hrk
  by_cases he : er = 0
  · rw [if_pos he] at hnu
    subst he
    by_cases h40 : 40 < n
    · have hx := hideP (unp_many hle hnu h40)
      have h40' : (40 : Int) < (n : Int) := by omega
      clear hnu hbad hD hrk hle hlen
      go_enter Try.func12, Try.ntmps12
      go_wp2_with fail
      refine (hrd _).mono ?_
      rintro _ w1 ⟨rfl, rfl⟩
      clear hrd
      go_wp2_with fail
      go_ret2
      refine ⟨?_, Fr.refl _⟩
      unfold UnpAs
      rw [hx.out]
      rfl
    · have HX := hideP (unp_go hle hnu (by omega))
      have h40' : (n : Int) ≤ 40 := by omega
      have HLEN := hideP hlen
      clear hnu hbad hD hle hlen
      go_enter Try.func12, Try.ntmps12
      go_wp2_with fail
      refine (hrd _).mono ?_
      rintro _ w1 ⟨rfl, rfl⟩
      clear hrd
      go_wp2_with fail
      go_loopg [5, 7] n (fun g kv ov wr => ∃ (K : Nat) (es : List Ev), es.length + g = n ∧ kv = .int .i64 K ∧ K ≤ s.size ∧ Oe w1.heap.size ov es wr ∧ LF.ens n 0 (s.data.toList.drop k) = LF.pre (es.map (·.1)) (LF.ens g (LF.lst 0 (es.map (·.1))) (s.data.toList.drop K)) ∧ Fr w1 wr)
      case atStart => exact ⟨k, [], by simp, rfl, hrk, Oe.nil _ _, (LF.pre_nil _).symm, Fr.refl _⟩
      case round =>
        obtain ⟨K, es, hg, rfl, hK, hoe, hens, hfr⟩ := hrel
        have hle := hfr.size
        cases gk with
        | zero =>
          have hfin : LF.fin (LF.ens n 0 (s.data.toList.drop k)) = if K = s.size then .ok (es.map (·.1)) else .error 1 := by
            rw [hens]
            unfold LF.ens LF.pre LF.fin
            simp only [List.append_nil]
            by_cases hKs : K = s.size
            · rw [if_pos hKs, if_pos (by rw [hKs, List.drop_of_length_le (by rw [HLEN.out]; exact Nat.le_refl _)])]
            · rw [if_neg hKs, if_neg]
              intro e
              have := congrArg List.length e
              rw [List.length_drop, HLEN.out, List.length_nil] at this
              omega
          obtain ⟨av, cap, rfl⟩ : ∃ a cap, u7 = .slice a es.length cap := by
            rcases hoe.own.2 with ⟨hv, h0⟩ | ⟨g, cap, cur, hv, _⟩
            · exact ⟨none, 0, by rw [hv, h0]⟩
            · exact ⟨_, cap, hv⟩
          have HFIN := hideP hfin
          have HOE := hideP hoe
          have HFR := hideP hfr
          have hxn : es.length = n := by omega
          clear hens hfin hoe hfr hg
          subst hxn
          by_cases hKs : K = s.size
          · have hKn : ((K : Int) < (s.size : Int)) = False := by simp; omega
            have hKn2 : (K < s.size) = False := by simp; omega
            have HKS := hideP hKs
            clear hKs
            go_wp2_with fail
            go_ret2
            refine ⟨?_, HFR.out⟩
            unfold UnpAs
            rw [HX.out, HFIN.out, if_pos HKS.out]
            exact ⟨_, es, rfl, HOE.out, rfl⟩
          · have hKn : (K : Int) < (s.size : Int) := by omega
            have HKS := hideP hKs
            clear hKs
            go_wp2_with fail
            go_ret2
            refine ⟨?_, HFR.out⟩
            unfold UnpAs
            rw [HX.out, HFIN.out, if_neg HKS.out]
            rfl
        | succ g =>
          have hT := ext_drop s K
          have hTs := ext_size s K hK
          have hTl : (s.data.toList.drop K).length = s.size - K := by rw [List.length_drop, HLEN.out]
          have hso := fun W => signedOf_any (s.extract K s.size) W (by unfold maxLen; omega)
          have hk2 := RM.rd_le (s.data.toList.drop K)
          have hn2 := NM.rd_lt (s.data.toList.drop K)
          unfold rdsv at hso
          rw [hT] at hso
          obtain ⟨n2, k2, e2, hD2⟩ : ∃ n k er, NM.rd (s.data.toList.drop K) 0 0 = (n, k, er) := ⟨_, _, _, rfl⟩
          have hnu2 : RM.nu (s.data.toList.drop K) = if e2 = 0 then .ok (n2, (s.data.toList.drop K).drop k2) else .error e2 := by
            unfold RM.nu
            rw [hD2]
          have hbad2 : e2 ≠ 0 → n2 = 0 ∧ k2 = 0 := fun he => by
            have := NM.rd_bad (s.data.toList.drop K) 0 0 (by rw [hD2]; exact he)
            rw [hD2] at this
            exact this
          rw [hD2] at hso hk2 hn2
          simp only at hso hk2 hn2
          rw [hTl] at hk2
          rw [zagN_zag] at hso
          have HOE := hideP hoe
          have HFR := hideP hfr
          have HENS := hideP hens
          have hKI : (K : Int) ≤ (s.size : Int) := by omega
          have hesn : (es.length : Int) < (n : Int) := by omega
          have hesn2 : es.length < n := by omega
          have hsh := hoe.shape
          clear hoe hfr hens hD2 hT hTs
          by_cases he2 : e2 = 0
          · rw [if_pos he2] at hnu2
            subst he2
            have hsg : LF.sg (s.data.toList.drop K) = .ok (RM.zag n2, (s.data.toList.drop K).drop k2) := by unfold LF.sg; rw [hnu2]
            generalize RM.zag n2 = id at *
            have HSG := hideP hsg
            clear hnu2 hbad2 hsg hn2
            by_cases h1 : id < 1
            · have HBD := hideP (HENS.out.trans (LF.ens_bad (en_three HSG.out h1) _))
              obtain ⟨av, cap, rfl⟩ : ∃ a cap, u7 = .slice a es.length cap := by
                rcases HOE.out.own.2 with ⟨hv, h0⟩ | ⟨g, cap, cur, hv, _⟩
                · exact ⟨none, 0, by rw [hv, h0]⟩
                · exact ⟨_, cap, hv⟩
              clear hsh
              go_wp2_with fail
              refine (hso _).mono ?_
              rintro _ w2 ⟨rfl, hw2⟩
              subst hw2
              clear hso
              go_wp2_with fail
              go_ret2
              refine ⟨?_, HFR.out⟩
              unfold UnpAs
              rw [HX.out, HBD.out]
              rfl
            · have h1' : 1 ≤ id := by omega
              have hK2 : K + k2 ≤ s.size := by omega
              have hK2I : (K : Int) + (k2 : Int) ≤ (s.size : Int) := by omega
              have hT2 := ext_drop s (K + k2)
              have hTs2 := ext_size s (K + k2) hK2
              have hro := fun W => rowOf_any (s.extract (K + k2) s.size) W (by unfold maxLen; omega)
              unfold ReadsAs at hro
              rw [hT2, hTs2] at hro
              have hdd : (s.data.toList.drop K).drop k2 = s.data.toList.drop (K + k2) := by rw [List.drop_drop]
              rw [hdd] at HSG
              have hTl2 : (s.data.toList.drop (K + k2)).length = s.size - (K + k2) := by rw [List.length_drop, HLEN.out]
              generalize hlast : LF.lst 0 (es.map (·.1)) = last at *
              have HLA := hideP hlast
              clear hT2 hTs2 hdd hTl h1 hlast
              rcases hsh with ⟨rfl, av, cap, rfl⟩ | ⟨gO, cap, q, rfl, hel, hlc⟩
              · have h2' : last < id := by have : last = 0 := HLA.out.symm; omega
                clear HLA
                match hx : RM.row (s.data.toList.drop (K + k2)) with
                | .error c =>
                  rw [hx] at hro
                  simp only at hro
                  have HBD := hideP (HENS.out.trans (LF.ens_bad (en_bad HSG.out h1' h2' hx) _))
                  have hne := RM.row_err hx
                  have q1 : ((c : Int) != 0) = true := by simp; omega
                  have q2 : ¬ ((c : Int) = 0) := by omega
                  clear hx hne
                  go_wp2_with fail
                  refine (hso _).mono ?_
                  rintro _ w2 ⟨rfl, hw2⟩
                  subst hw2
                  clear hso
                  go_wp2_with fail
                  refine (hro _).mono ?_
                  rintro _ w3 ⟨rfl, f3⟩
                  have F3 := hideP (Fr.trans HFR.out f3)
                  clear hro f3
                  go_wp2_with fail
                  go_ret2
                  refine ⟨?_, F3.out⟩
                  unfold UnpAs
                  rw [HX.out, HBD.out]
                  rfl
                | .ok (r, t) =>
                  rw [hx] at hro
                  simp only at hro
                  have HGO := hideP (HENS.out.trans (LF.ens_step (en_good HSG.out h1' h2' hx) _))
                  have htl := RM.row_le hx
                  rw [hTl2] at htl
                  have hro3 := (LM.row_only hx).2.2
                  have hcast : ((s.size - (K + k2) : Nat) : Int) - (t.length : Int) = ((s.size - (K + k2) - t.length : Nat) : Int) := by omega
                  rw [hcast] at hro
                  have hdt : s.data.toList.drop (K + (k2 + (s.size - (K + k2) - t.length))) = t := by
                    have e1 : s.size - (K + k2) - t.length = (WM.row r).length := by
                      have := congrArg List.length hro3
                      rw [List.length_append, hTl2] at this
                      omega
                    rw [e1, ← Nat.add_assoc, ← List.drop_drop, hro3, List.drop_left]
                  generalize hj : s.size - (K + k2) - t.length = j at *
                  have HDT := hideP hdt
                  have hKj : K + (k2 + j) ≤ s.size := by omega
                  have z1 : (k2 : Int) + (j : Int) ≤ 245 := by omega
                  have z2 : (K : Int) + ((k2 : Int) + (j : Int)) ≤ 245 := by omega
                  clear hx htl hro3 hcast hdt hj hTl2
                  go_wp2_with fail
                  refine (hso _).mono ?_
                  rintro _ w2 ⟨rfl, hw2⟩
                  subst hw2
                  clear hso
                  go_wp2_with fail
                  refine (hro _).mono ?_
                  rintro _ w3 ⟨⟨rv, rfl, hrow⟩, f3⟩
                  have F3 := hideP (Fr.trans HFR.out f3)
                  have hoe3 := Oe.fr HOE.out f3
                  have hf2 : Fr w3 (w3.alloc (.cells #[.int .i64 id, rv] 43)) := (Fr.refl w3).alloc _
                  have HOE4 := hideP (hoe3.fr hf2)
                  have HOW := hideP HOE4.out.own
                  have HF4 := hideP (Fr.trans F3.out hf2)
                  have HR4 := hideP ((IsRowB.mono hrow (Nat.zero_le _)).fr hf2)
                  have HC1 := hideP (cell_new2 w3 (.int .i64 id) rv 43 w3.heap.size rfl)
                  have HWS : Hid (w1.heap.size ≤ (w3.alloc (.cells #[.int .i64 id, rv] 43)).heap.size) := Fr.size HF4.out
                  obtain ⟨ar, capr, rfl, _⟩ := hrow
                  clear hro f3 hoe3 hf2 HOE HFR F3
                  go_wp2_with (at_builtin; refine wpList_append_own _ rfl _ _ 22 rfl w1.heap.size 43 i0 (.agg #[.int .i64 0, .slice none 0 0]) 2 32 Try.underlying22 hi0 hz0 hz1 hz2 rfl (by decide) _ _ _ rfl HOW.out ⟨w3.heap.size, 0, none⟩ 1 1 [.int .i64 id, .slice ar r.length capr] rfl rfl ?c1 ?c2 ?c3 ?c4 ?c5 ?_)
                  case c1 => exact HC1.out
                  case c2 =>
                    intro u hu
                    simp at hu
                    rcases hu with rfl | rfl <;> rfl
                  case c3 => unfold maxLen; omega
                  case c4 => omega
                  case c5 => exact HWS.out
                  intro v' w5 hown' hgrow _
                  have HN : Hid (Oe w1.heap.size v' (([] : List Ev) ++ [((id, r), .slice ar r.length capr)]) w5) := Oe.snoc HOE4.out (p := ((id, r), .slice ar r.length capr)) HR4.out (by first | exact hown' | (rw [hel]; exact hown')) hgrow
                  have hlst : LF.lst 0 ((([] : List Ev) ++ [(((id, r) : LF.En), Value.slice ar r.length capr)]).map (·.1)) = id := by
                    rw [List.map_append]
                    exact LF.lst_snoc _ _ _
                  have HF6 : Hid (Fr w1 w5) := Below.grown HF4.out hgrow HWS.out (fun k hk => (HOW.out.lt k hk).1)
                  have HA2 : Hid (LF.ens n 0 (s.data.toList.drop k) = LF.pre ((([] : List Ev) ++ [(((id, r) : LF.En), Value.slice ar r.length capr)]).map (·.1)) (LF.ens g (LF.lst 0 ((([] : List Ev) ++ [(((id, r) : LF.En), Value.slice ar r.length capr)]).map (·.1))) (s.data.toList.drop (K + (k2 + j))))) := by
                    unfold Hid
                    rw [hlst, HDT.out, List.map_append]
                    exact HGO.out
                  have HEL : Hid ((([] : List Ev) ++ [(((id, r) : LF.En), Value.slice ar r.length capr)]).length + g = n) := by
                    unfold Hid
                    rw [List.length_append]
                    simp only [List.length_cons, List.length_nil] at hg ⊢
                    omega
                  clear hown' hgrow HOW HF4 hlst HOE4 HR4 HGO
                  go_wp2_with fail
                  go_roundg g
                  case measure => omega
                  case rel => exact ⟨_, _, HEL.out, by first | rfl | go_num, hKj, HN.out, HA2.out, HF6.out⟩
              · by_cases h2 : id ≤ last
                · have HBD := hideP (HENS.out.trans (LF.ens_bad (en_four HSG.out h1' h2) _))
                  rw [hel] at hesn hesn2
                  clear hro
                  go_wp2_with fail
                  refine (hso _).mono ?_
                  rintro _ w2 ⟨rfl, hw2⟩
                  subst hw2
                  clear hso
                  go_wp2_with fail
                  go_ret2
                  refine ⟨?_, HFR.out⟩
                  unfold UnpAs
                  rw [HX.out, HBD.out]
                  rfl
                · have h2' : last < id := by omega
                  rw [hel] at hesn hesn2
                  clear h2 HLA
                  match hx : RM.row (s.data.toList.drop (K + k2)) with
                  | .error c =>
                    rw [hx] at hro
                    simp only at hro
                    have HBD := hideP (HENS.out.trans (LF.ens_bad (en_bad HSG.out h1' h2' hx) _))
                    have hne := RM.row_err hx
                    have q1 : ((c : Int) != 0) = true := by simp; omega
                    have q2 : ¬ ((c : Int) = 0) := by omega
                    clear hx hne
                    go_wp2_with fail
                    refine (hso _).mono ?_
                    rintro _ w2 ⟨rfl, hw2⟩
                    subst hw2
                    clear hso
                    go_wp2_with fail
                    refine (hro _).mono ?_
                    rintro _ w3 ⟨rfl, f3⟩
                    have F3 := hideP (Fr.trans HFR.out f3)
                    clear hro f3
                    go_wp2_with fail
                    go_ret2
                    refine ⟨?_, F3.out⟩
                    unfold UnpAs
                    rw [HX.out, HBD.out]
                    rfl
                  | .ok (r, t) =>
                    rw [hx] at hro
                    simp only at hro
                    have HGO := hideP (HENS.out.trans (LF.ens_step (en_good HSG.out h1' h2' hx) _))
                    have htl := RM.row_le hx
                    rw [hTl2] at htl
                    have hro3 := (LM.row_only hx).2.2
                    have hcast : ((s.size - (K + k2) : Nat) : Int) - (t.length : Int) = ((s.size - (K + k2) - t.length : Nat) : Int) := by omega
                    rw [hcast] at hro
                    have hdt : s.data.toList.drop (K + (k2 + (s.size - (K + k2) - t.length))) = t := by
                      have e1 : s.size - (K + k2) - t.length = (WM.row r).length := by
                        have := congrArg List.length hro3
                        rw [List.length_append, hTl2] at this
                        omega
                      rw [e1, ← Nat.add_assoc, ← List.drop_drop, hro3, List.drop_left]
                    generalize hj : s.size - (K + k2) - t.length = j at *
                    have HDT := hideP hdt
                    have hKj : K + (k2 + j) ≤ s.size := by omega
                    have z1 : (k2 : Int) + (j : Int) ≤ 245 := by omega
                    have z2 : (K : Int) + ((k2 : Int) + (j : Int)) ≤ 245 := by omega
                    clear hx htl hro3 hcast hdt hj hTl2
                    go_wp2_with fail
                    refine (hso _).mono ?_
                    rintro _ w2 ⟨rfl, hw2⟩
                    subst hw2
                    clear hso
                    go_wp2_with fail
                    refine (hro _).mono ?_
                    rintro _ w3 ⟨⟨rv, rfl, hrow⟩, f3⟩
                    have F3 := hideP (Fr.trans HFR.out f3)
                    have hoe3 := Oe.fr HOE.out f3
                    have hf2 : Fr w3 (w3.alloc (.cells #[.int .i64 id, rv] 43)) := (Fr.refl w3).alloc _
                    have HOE4 := hideP (hoe3.fr hf2)
                    have HOW := hideP HOE4.out.own
                    have HF4 := hideP (Fr.trans F3.out hf2)
                    have HR4 := hideP ((IsRowB.mono hrow (Nat.zero_le _)).fr hf2)
                    have HC1 := hideP (cell_new2 w3 (.int .i64 id) rv 43 w3.heap.size rfl)
                    have HWS : Hid (w1.heap.size ≤ (w3.alloc (.cells #[.int .i64 id, rv] 43)).heap.size) := Fr.size HF4.out
                    obtain ⟨ar, capr, rfl, _⟩ := hrow
                    clear hro f3 hoe3 hf2 HOE HFR F3
                    go_wp2_with (at_builtin; refine wpList_append_own _ rfl _ _ 22 rfl w1.heap.size 43 i0 (.agg #[.int .i64 0, .slice none 0 0]) 2 32 Try.underlying22 hi0 hz0 hz1 hz2 rfl (by decide) _ _ _ rfl HOW.out ⟨w3.heap.size, 0, none⟩ 1 1 [.int .i64 id, .slice ar r.length capr] rfl rfl ?c1 ?c2 ?c3 ?c4 ?c5 ?_)
                    case c1 => exact HC1.out
                    case c2 =>
                      intro u hu
                      simp at hu
                      rcases hu with rfl | rfl <;> rfl
                    case c3 => unfold maxLen; omega
                    case c4 => omega
                    case c5 => exact HWS.out
                    intro v' w5 hown' hgrow _
                    have HN : Hid (Oe w1.heap.size v' (es ++ [((id, r), .slice ar r.length capr)]) w5) := Oe.snoc HOE4.out (p := ((id, r), .slice ar r.length capr)) HR4.out (by first | exact hown' | (rw [hel]; exact hown')) hgrow
                    have hlst : LF.lst 0 ((es ++ [(((id, r) : LF.En), Value.slice ar r.length capr)]).map (·.1)) = id := by
                      rw [List.map_append]
                      exact LF.lst_snoc _ _ _
                    have HF6 : Hid (Fr w1 w5) := Below.grown HF4.out hgrow HWS.out (fun k hk => (HOW.out.lt k hk).1)
                    have HA2 : Hid (LF.ens n 0 (s.data.toList.drop k) = LF.pre ((es ++ [(((id, r) : LF.En), Value.slice ar r.length capr)]).map (·.1)) (LF.ens g (LF.lst 0 ((es ++ [(((id, r) : LF.En), Value.slice ar r.length capr)]).map (·.1))) (s.data.toList.drop (K + (k2 + j))))) := by
                      unfold Hid
                      rw [hlst, HDT.out, List.map_append]
                      exact HGO.out
                    have HEL : Hid ((es ++ [(((id, r) : LF.En), Value.slice ar r.length capr)]).length + g = n) := by
                      unfold Hid
                      rw [List.length_append]
                      simp only [List.length_cons, List.length_nil] at hg ⊢
                      omega
                    clear hown' hgrow HOW HF4 hlst HOE4 HR4 HGO
                    go_wp2_with fail
                    go_roundg g
                    case measure => omega
                    case rel => exact ⟨_, _, HEL.out, by first | rfl | go_num, hKj, HN.out, HA2.out, HF6.out⟩
          · rw [if_neg he2] at hnu2
            obtain ⟨rfl, rfl⟩ := hbad2 he2
            have hsg : LF.sg (s.data.toList.drop K) = .error e2 := by unfold LF.sg; rw [hnu2]
            have HBD := hideP (HENS.out.trans (LF.ens_bad (en_sg hsg) _))
            obtain ⟨av, cap, rfl⟩ : ∃ a cap, u7 = .slice a es.length cap := by
              rcases HOE.out.own.2 with ⟨hv, h0⟩ | ⟨g, cap, cur, hv, _⟩
              · exact ⟨none, 0, by rw [hv, h0]⟩
              · exact ⟨_, cap, hv⟩
            have q1 : ((e2 : Int) != 0) = true := by simp; omega
            have q2 : ¬ ((e2 : Int) = 0) := by omega
            clear hnu2 hbad2 hsg hn2 hsh hk2 hTl
            go_wp2_with fail
            refine (hso _).mono ?_
            rintro _ w2 ⟨rfl, hw2⟩
            subst hw2
            clear hso
            go_wp2_with fail
            go_ret2
            refine ⟨?_, HFR.out⟩
            unfold UnpAs
            rw [HX.out, HBD.out]
            rfl
  · rw [if_neg he] at hnu
    obtain ⟨rfl, rfl⟩ := hbad he
    have hx := hideP (unp_bad hle hnu)
    have q1 : ((er : Int) != 0) = true := by simp; omega
    have q2 : ¬ ((er : Int) = 0) := by omega
    clear hnu hbad hD hrk hrn hle
    go_enter Try.func12, Try.ntmps12
    go_wp2_with fail
    refine (hrd _).mono ?_
    rintro _ w1 ⟨rfl, rfl⟩
    clear hrd
    go_wp2_with fail
    go_ret2
    refine ⟨?_, Fr.refl _⟩
    unfold UnpAs
    rw [hx.out]
    rfl
end Go.Proofs.Ythpcdhnaibpjnaa
