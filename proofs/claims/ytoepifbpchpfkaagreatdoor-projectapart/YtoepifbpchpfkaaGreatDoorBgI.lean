/-
  What Filter of package bag answers.
-/
import Derived.Test.YtoepifbpchpfkaaGreatDoorBgH
namespace Go.Proofs.YtoepifbpchpfkaaGreatDoor
open Go.ChangeShapes Go.WideShapes Go.ChangeAt Go.RowKit
set_option linter.unusedVariables false
set_option linter.unusedSimpArgs false
set_option maxRecDepth 100000
set_option maxHeartbeats 2000000
theorem EV.tru_ne {e : List EX.Nd} {cs : List ByteArray} {l : List VM.Vl} {c : Nat} (h : EV.tru e cs l = .error c) : c ≠ 0 := by
  unfold EV.tru at h
  split at h
  · rename_i c' hc
    cases h
    exact EV.ev_ne hc
  · exact EV.tr_ne h
theorem filter_any (v ua va : Value) (ls : List (List VM.Vl)) (cs : List ByteArray) (e : List EX.Nd) (w : World) (h : IsRR w v ls) (hu : IsL cdB w ua cs) (he : IsL cdN w va e) (hn : ∀ n ∈ e, n.nm.size ≤ 140737488355327) (hl : e.length ≤ 9223372036854775806)
    (hs : ∀ c ∈ cs, c.size ≤ 140737488355327) (hTn : Tn w) (hT : Tb w) (hgn : ∀ n ∈ e, EV.gd n.v) (hgl : ∀ r ∈ ls, ∀ x ∈ r, EV.gd x) (hL : ls.length ≤ 9223372036854775806) (hR : ∀ r ∈ ls, r.length ≤ 9223372036854775806) :
    Calls Tryz.prog 24 #[v, ua, va] w fun r w' => RA w.heap.size (BG.fil ls cs e) r w' ∧ Fr w w' := by
  have HK : Hid (BG.fil ls cs e = if BG.chk ls ≠ 0 then .error (BG.chk ls) else if EX.ck e ≠ 0 then .error (EX.ck e) else BG.flt (EV.tru e cs) ls) := rfl
  have HCk := hideP (bagCheck_any v ls w h hL hR)
  have HX := hideP (fun W (f : Fr w W) => xcheck_any va e W (he.fr f) hn hl)
  have HT := hideP (fun (r : List VM.Vl) (hr : r ∈ ls) (q : Value) W (f : Fr w W) (hq : IsL cdV W q r) => truth_any va ua q e cs r W (he.fr f) (hu.fr f) hq hn hl hs (hTn.fr f) (hT.fr f) hgn (hgl r hr))
  have HRl := hideP (fun (h0 : BG.chk ls = 0) => BG.chk_all h0)
  obtain ⟨a, c, rfl⟩ := h.slice
  obtain ⟨qs, hq, _, hc, hcell, hrow⟩ := h.at
  have HCe := hideP hcell
  have HRo := hideP hrow
  obtain ⟨a1, n1, c1, rfl⟩ : ∃ a n c, va = .slice a n c := by obtain ⟨a, c, h, _⟩ := he; exact ⟨a, _, c, h⟩
  obtain ⟨a2, n2, c2, rfl⟩ : ∃ a n c, ua = .slice a n c := by obtain ⟨a, c, h, _⟩ := hu; exact ⟨a, _, c, h⟩
  clear hcell hrow h hu he hn hl hs hTn hT hgn hgl hL hR
  obtain ⟨i0, hi0, hz0, hz1, hz2⟩ := info_parts Tryz.infoVs9
  generalize BG.fil ls cs e = R at *
  by_cases h0 : BG.chk ls = 0
  · replace HK := hideP (HK.out.trans (if_neg (by simpa using h0)))
    obtain ⟨h40, hall⟩ := HRl.out h0
    rw [h0] at HCk
    clear HRl h0
    have HAl := hideP hall
    clear hall
    by_cases h1 : EX.ck e = 0
    · replace HK := hideP (HK.out.trans (if_neg (by simpa using h1)))
      rw [h1] at HX
      clear h1
      go_enter Tryz.func24, Tryz.ntmps24
      go_wp2_with fail
      refine HCk.out.mono ?_
      rintro _ w1 ⟨rfl, f1⟩
      have F1 := hideP f1
      clear f1 HCk
      go_wp2_with fail
      refine (HX.out _ F1.out).mono ?_
      rintro _ w2 ⟨rfl, f2⟩
      have F2 := hideP (F1.out.trans f2)
      clear f2 F1 HX
      go_wp2_with fail
      go_loopw [10, 12, 13, 14, 27] (fun kv _ _ _ iv wr => ∃ (i : Nat) (ks : List (List VM.Vl)), iv = .int .i64 i ∧ i ≤ ls.length ∧ ks.length ≤ i ∧ R = BG.pre ks (BG.flt (EV.tru e cs) (ls.drop i)) ∧ ORR w.heap.size wr kv ks ∧ Fr w wr) (fun _ _ _ _ iv _ => ls.length - (intOf iv).toNat)
      case atStart => exact ⟨0, [], rfl, Nat.zero_le _, Nat.zero_le _, by rw [BG.pre_nil]; exact HK.out, ORR.nil _ _, F2.out⟩
      case round =>
        obtain ⟨i, ks, rfl, hi, hks, hRi, hO, hfr⟩ := hrel
        obtain ⟨ka, kc, rfl⟩ := hO.slice
        by_cases hlt : i < ls.length
        · have hlt' : (i : Int) < (ls.length : Int) := by omega
          obtain ⟨b, o, rfl, hbb, c0⟩ := HCe.out i (by omega)
          obtain ⟨h1, h2⟩ := HRo.out i (by omega) hlt
          have d0 := (Below.cell hfr (World.block_lt_of_cell? _ _ c0)).trans c0
          rw [List.drop_eq_getElem_cons hlt] at hRi
          have ct := HT.out ls[i] (List.getElem_mem hlt) qs[i].v wr hfr (h1.fr hfr)
          have cl := fun W (f : Fr w W) => cloneV_any qs[i].v ls[i] W (h1.fr f) (by have := (HAl.out ls[i] (List.getElem_mem hlt)).1; omega)
          have hne := fun c (h : EV.tru e cs ls[i] = .error c) => EV.tru_ne h
          have s1 := fun c (h : EV.tru e cs ls[i] = .error c) => BG.flt_err (t := ls.drop (i + 1)) h
          have s2 := fun x (h : EV.tru e cs ls[i] = .ok x) => BG.flt_ok (t := ls.drop (i + 1)) h
          have hl8 := (HAl.out ls[i] (List.getElem_mem hlt)).1
          generalize ls[i] = r at *
          generalize BG.flt (EV.tru e cs) (r :: ls.drop (i + 1)) = Z at *
          generalize EV.tru e cs r = D at *
          obtain ⟨q, hqq⟩ : ∃ q, (qs[i]'(by omega)) = q := ⟨_, rfl⟩
          rw [hqq] at ct cl d0
          obtain ⟨qa, qn, qc⟩ := q
          simp only [Sq.v] at ct cl d0
          have HO := hideP hO
          have HF := hideP hfr
          have HRi := hideP hRi
          have HCl := hideP cl
          clear hO hfr hRi h1 h2 c0 hqq cl
          cases D with
          | error c =>
            have HZ := hideP (s1 c rfl)
            have e1 : ((c : Int) != 0) = true := by have := hne c rfl; simp; omega
            have e2 : ¬ ((c : Int) = 0) := by have := hne c rfl; omega
            simp only [exT] at ct
            clear s1 s2 hne
            go_wp2_with fail
            refine ct.mono ?_
            rintro _ w3 ⟨rfl, f3⟩
            go_wp2_with fail
            go_ret2
            exact ⟨by rw [HRi.out, HZ.out]; rfl, HF.out.trans f3⟩
          | ok x =>
            have HZ := hideP (s2 x rfl)
            simp only [exT] at ct
            clear s1 s2 hne
            go_wp2_with fail
            refine ct.mono ?_
            rintro _ w3 ⟨rfl, f3⟩
            have F3 := hideP (HF.out.trans f3)
            have HO3 := hideP (HO.out.fr f3)
            clear f3 HO HF ct
            by_cases hx : x = 2
            · subst hx
              replace HZ := hideP (HZ.out.trans (by rw [if_pos rfl]))
              go_wp2_with fail
              refine (HCl.out _ F3.out).mono ?_
              rintro _ w4 ⟨v4, rfl, own4, f4⟩
              obtain ⟨va4, vc4, rfl⟩ := own_slice own4
              obtain ⟨ps, p1, p2, p3⟩ := HO3.out
              have fA : Fr w3 (w4.alloc (.cells #[.slice va4 r.length vc4] 49)) := f4.alloc _
              have HP1 := hideP (own_fr p1 fA)
              have HP2 := hideP p2
              have HP3 := hideP (fun i a b => own_fr (p3 i a b) fA)
              have HO4 := hideP (own_fr (own_low own4 F3.out.size) ((Fr.refl w4).alloc (.cells #[.slice va4 r.length vc4] 49)))
              have FA := hideP (F3.out.trans fA)
              have HLit := hideP (lit_one cdS w4 ⟨va4, r.length, vc4⟩ 49)
              have hsz : w.heap.size ≤ w4.heap.size := (F3.out.trans f4).size
              clear p1 p2 p3 fA own4 f4 F3 HO3
              go_wp2_with (at_builtin; refine wpList_append_L cdS rfl _ _ 22 49 i0 _ 24 rfl Tryz.underlying22 hi0 hz0 hz1 hz2 rfl w.heap.size _ ks.length _ rfl HP1.out (.slice (some ⟨w4.heap.size, 0, none⟩) 1 1) [⟨va4, r.length, vc4⟩] rfl HLit.out ?c3 ?c4 ?c5 ?_)
              case c3 => unfold maxLen; simp <;> omega
              case c4 => simp <;> omega
              case c5 => simp <;> omega
              intro v2 wB own2 gr2
              have HN2 := hideP (ORR.snoc (q := ⟨va4, r.length, vc4⟩) HP1.out HP2.out HP3.out HO4.out own2 gr2)
              have FB := hideP (show Fr w wB from Below.grown FA.out gr2 (by simp <;> omega) (own_base HP1.out))
              clear own2 gr2
              go_wp2_with fail
              go_roundw
              case rel => exact ⟨i + 1, ks ++ [r], by go_num, by omega, by simp <;> omega, by rw [HRi.out, HZ.out, BG.pre_pre], HN2.out, FB.out⟩
              case measure => simp [intOf]; omega
            · replace HZ := hideP (HZ.out.trans (by rw [if_neg hx, BG.pre_nil]))
              have hx1 : (x == 2) = false := beq_false_of_ne hx
              go_wp2_with fail
              go_roundw
              case rel => exact ⟨i + 1, ks, by go_num, by omega, by omega, by rw [HRi.out, HZ.out], HO3.out, F3.out⟩
              case measure => simp [intOf]; omega
        · obtain rfl : i = ls.length := by omega
          have HRe := hideP (show R = .ok ks by rw [hRi, List.drop_length]; simp [BG.flt, BG.pre])
          have HO := hideP hO
          have HF := hideP hfr
          clear hRi hO hfr
          go_wp2_with fail
          go_ret2
          exact ⟨by rw [HRe.out]; exact ⟨_, rfl, HO.out⟩, HF.out⟩
    · replace HK := hideP (HK.out.trans (if_pos h1))
      generalize EX.ck e = z at *
      have e1 : ((z : Int) != 0) = true := by simp; omega
      have e2 : ¬ ((z : Int) = 0) := by omega
      go_enter Tryz.func24, Tryz.ntmps24
      go_wp2_with fail
      refine HCk.out.mono ?_
      rintro _ w1 ⟨rfl, f1⟩
      have F1 := hideP f1
      clear f1 HCk
      go_wp2_with fail
      refine (HX.out _ F1.out).mono ?_
      rintro _ w2 ⟨rfl, f2⟩
      have F2 := hideP (F1.out.trans f2)
      clear f2
      go_wp2_with fail
      go_ret2
      exact ⟨by rw [HK.out]; rfl, F2.out⟩
  · replace HK := hideP (HK.out.trans (if_pos h0))
    generalize BG.chk ls = z at *
    have e1 : ((z : Int) != 0) = true := by simp; omega
    have e2 : ¬ ((z : Int) = 0) := by omega
    go_enter Tryz.func24, Tryz.ntmps24
    go_wp2_with fail
    refine HCk.out.mono ?_
    rintro _ w1 ⟨rfl, f1⟩
    have F1 := hideP f1
    clear f1 HCk
    go_wp2_with fail
    go_ret2
    exact ⟨by rw [HK.out]; rfl, F1.out⟩
end Go.Proofs.YtoepifbpchpfkaaGreatDoor
