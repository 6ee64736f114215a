/-
  Proved: for every list of entries FillAll answers true: filled lists, one behind the other, are all; each can be packed, none is empty, and with the next one's first entry more it can't be. No condition but the form's own reach.
-/
import Derived.Test.YthpcdhnaibpjnaaLfBh
import Derived.Test.YthpcdhnaibpjnaaOpen
import Derived.Test.YthpcdhnaibpjnaaRefFO
import Derived.Test.YthpcdhnaibpjnaaLfFA
import Derived.Test.YthpcdhnaibpjnaaFaM
namespace Go.Proofs.Ythpcdhnaibpjnaa.FillAll
open Go.ChangeShapes Go.WideShapes Go.ChangeAt Go.RowKit
open Go.ChangeMaps (open_string shut_string)
set_option linter.unusedVariables false
set_option linter.unusedSimpArgs false
set_option maxRecDepth 100000

set_option maxHeartbeats 3000000 in
theorem walk (v0 : Value) (l0 : List LF.En) (w : World) (hv : IsEn w v0 l0) (hw : WideE l0) (hl : l0.length * 32 ≤ 140737488351232) :
    Calls Try.prog 7 #[v0] w fun e w' => e = .returned (.bool true) ∧ Fr w w' := by
  obtain ⟨i0, hi0, hz0, hz1, hz2⟩ := info_parts Try.infoEn
  have hfi := fill_any v0 l0 w hv (by omega) hw
  by_cases hc : LF.chk l0 = 0
  · simp only [FillAs, if_pos hc] at hfi
    obtain ⟨h40, hce⟩ := LF.chk_ok hc
    have hright : Right l0 := fun e he => ⟨(LF.chkE_ok hce e he).2, (hw e he).1⟩
    have hLl := fill_len l0
    have hflat := LF.fill_flat l0
    have hnice := LF.fill_nice l0 hce h40 (fun e he => by
      obtain ⟨bb, hone⟩ := chkE_get hce he
      have := LF.eb_len hone (hw e he).1
      omega)
    have hL40 : (LF.fill l0).length ≤ 40 := by omega
    have hrl : ∀ e ∈ l0, e.2.length ≤ 9223372036854775806 := fun e he => by have := (WM.chkRow_ok (hright e he).1).1; omega
    generalize LF.fill l0 = L at *
    have hmem : ∀ p ∈ L, p.length ≤ 40 ∧ ∀ e ∈ p, LF.wideE e ∧ e.2.length ≤ 9223372036854775807 := fun p hp => by
      have h1 : ∀ e ∈ p, e ∈ l0 := fun e he => by rw [← hflat]; exact List.mem_flatten.2 ⟨p, hp, he⟩
      have h2 : p.length ≤ l0.length := by
        rw [← hflat, List.length_flatten]
        exact sum_ge L p hp
      exact ⟨by omega, fun e he => hw e (h1 e he)⟩
    have HNI := hideP hnice
    have HME := hideP hmem
    have HFL := hideP hflat
    have HV := hideP hv
    have HRL := hideP hrl
    obtain ⟨a0, c0, rfl, _⟩ := hv
    clear hw hright hce hc hLl hnice hmem hflat hrl
    go_enter Try.func7, Try.ntmps7
    go_wp2_with fail
    refine hfi.mono ?_
    rintro _ w1 ⟨⟨u, ps, rfl, ho2, hmp⟩, f1⟩
    have hls := ho2.ls
    rw [hmp] at hls
    have HLS := hideP hls
    have F1 := hideP f1
    obtain ⟨aL, cL, rfl, _⟩ := hls
    clear hfi f1 ho2 hmp
    go_wp2_with fail
    refine (begun_any _).mono ?_
    rintro _ w2 ⟨rfl, f2⟩
    have F2 := hideP (Fr.trans F1.out f2)
    have HL2 := hideP (IsLs.fr HLS.out f2)
    clear f2 F1 HLS
    go_wp2_with fail
    go_loopw [5, 6] (fun av iv wr => ∃ (i : Nat) (es : List Ev), iv = .int .i64 i ∧ i ≤ L.length ∧ es.map (·.1) = (L.take i).flatten ∧ Oz w2 w2.heap.size av es wr ∧ Fr w2 wr) (fun _ iv _ => L.length - (intOf iv).toNat)
    case atStart => exact ⟨0, [], rfl, Nat.zero_le _, rfl, ⟨⟨rfl, Or.inl ⟨rfl, rfl⟩⟩, fun p hp => by simp at hp⟩, Fr.refl _⟩
    case round =>
      obtain ⟨i, es, rfl, hi, hes, hoz, hfr⟩ := hrel
      by_cases hlt : i < L.length
      · obtain ⟨a9, c9, e9, hb9⟩ := HL2.out
        simp only [Value.slice.injEq, true_and] at e9
        obtain ⟨rfl, rfl⟩ := e9
        obtain ⟨bL, oL, rfl, hbL, hcL⟩ : ∃ b o, aL = some ⟨b, o, none⟩ ∧ b < w2.heap.size ∧ ∀ i (h : i < L.length), ∃ v, w2.cell? ⟨b, o + i, none⟩ = some v ∧ IsEn w2 v L[i] := by
          rcases hb9 with h | h
          · subst h; simp at hlt
          · exact h
        obtain ⟨v1, k1, e1⟩ := hcL i hlt
        obtain ⟨hp40, hpw⟩ := HME.out L[i] (List.getElem_mem hlt)
        obtain ⟨hpn, hpk, hnext⟩ := HNI.out i hlt
        have htk : (L.take (i + 1)).flatten = (L.take i).flatten ++ L[i] := by rw [List.take_succ_eq_append_getElem hlt, List.flatten_append, List.flatten_cons, List.flatten_nil, List.append_nil]
        have hEL : es.length + L[i].length ≤ 40 := by
          have h1 := congrArg List.length hes
          rw [List.length_map] at h1
          have h2 := congrArg List.length HFL.out
          have h3 : ((L.take (i + 1)).flatten).length ≤ L.flatten.length := by
            conv => rhs; rw [← List.take_append_drop (i + 1) L, List.flatten_append, List.length_append]
            omega
          rw [htk, List.length_append, ← h1] at h3
          omega
        have HNX : Hid (∀ h2 : i + 1 < L.length, ∃ vq q, w2.cell? ⟨bL, oL + (i + 1), none⟩ = some vq ∧ IsEn w2 vq q ∧ q ≠ [] ∧ ∃ e, q.head? = some e ∧ LF.pkE (L[i] ++ [e]) = 2 ∧ LF.wideE e ∧ e.2.length ≤ 9223372036854775807) := fun h2 => by
          obtain ⟨vq, k2, e2⟩ := hcL (i + 1) h2
          obtain ⟨e, h3, h4⟩ := hnext h2
          have hem : e ∈ L[i + 1] := List.mem_of_mem_head? h3
          have := (HME.out L[i + 1] (List.getElem_mem h2)).2 e hem
          exact ⟨vq, L[i + 1], k2, e2, (HNI.out (i + 1) h2).1, e, h3, h4, this.1, this.2⟩
        generalize L[i] = p at *
        obtain ⟨esi, he1, he2, bi, oi, ci, hv1, hbi, hce⟩ := en_news e1 hpn
        subst hv1
        have HPW := hideP hpw
        have hpk1 := fun W (f : Fr w2 W) => pack_any _ p W (IsEn.fr e1 f) (by omega) hpw
        rw [hpk] at hpk1
        have hpI : 1 ≤ p.length := by have := List.length_pos_iff.2 hpn; omega
        have hpl : esi.length = p.length := by rw [← he1, List.length_map]
        have HPLN := hideP hpl
        have hEL2 : es.length + p.length ≤ 40 := hEL
        have HE1 := hideP he1
        have HE2 := hideP he2
        have HES := hideP hes
        have HTK := hideP htk
        have HOZ := hideP hoz
        have HFR := hideP hfr
        have d1 := (Below.cell hfr hbL).trans k1
        have hlt' : (i : Int) < (L.length : Int) := by omega
        have HCE : Hid (∀ W, Fr w2 W → ∀ j u, (esV esi)[j]? = some u → W.cell? ((⟨bi, oi, none⟩ : Addr).add j) = some u) := fun W f j u hu => by
          have h := hce j u hu
          rw [add_at _ _ rfl] at h ⊢
          exact (Below.cell f hbi).trans h
        have HEL : Hid ((esV esi).length = p.length * 2) := by unfold Hid; rw [esV_len, hpl]
        have HEO : Hid (∀ u ∈ esV esi, u.oneCell' = true) := esV_one he2
        have hpz : ((p.length : Int) == 0) = false := by simp; omega
        have hpz2 : ¬ ((p.length : Int) = 0) := by omega
        have hpk1' := hpk1 wr hfr
        have HBL := hideP hbL
        have HK1 := hideP k1
        clear e1 hpk1 hpw hnext hcL hb9 hes htk hoz hfr hce k1 hpn hpl he1 he2 hpk
        go_wp2_with fail
        refine hpk1'.mono ?_
        rintro _ w3 ⟨rfl, f3⟩
        have F3 := hideP (Fr.trans HFR.out f3)
        have OZ3 := hideP (Oz.fr HOZ.out f3)
        have d3 := (Below.cell F3.out HBL.out).trans HK1.out
        clear f3 hpk1' d1 HFR HOZ
        by_cases hi1 : i + 1 < L.length
        · obtain ⟨vq, q, k2, eq2, hqn, ej, hhd, hpk2, hjw, hjl⟩ := HNX.out hi1
          obtain ⟨esq, hq1, hq2, bq, oq, cq, hvq, hbq, hqc⟩ := en_news eq2 hqn
          subst hvq
          obtain ⟨idj, rj⟩ := ej
          obtain ⟨uj, hcj0, hcj1, hrj⟩ := head_cells hq1 hq2 hqc hhd
          have HJ := hideP hrj
          obtain ⟨aj, cj, rfl, _⟩ := hrj
          have hi1I : (i : Int) + 1 < (L.length : Int) := by omega
          have hi0I : (0 : Int) ≤ (i : Int) + 1 := by omega
          have hwi : IntKind.i64.wrap ((i : Int) + 1) = (i : Int) + 1 := by rw [IntKind.wrap_i64]; omega
          have hqp : 0 < q.length := List.length_pos_iff.2 hqn
          have hqI : (0 : Int) < (q.length : Int) := by omega
          generalize hwr : w3 = wr3 at *
          have HW3 := hideP hwr
          clear hwr
          have HS : Hid (wr3.cell? ⟨bL, oL + i, none⟩ = some (.slice (some ⟨bi, oi, none⟩) p.length ci) ∧ wr3.cell? ⟨bL, oL + (i + 1), none⟩ = some (.slice (some ⟨bq, oq, none⟩) q.length cq) ∧ wr3.cell? ⟨bq, oq, none⟩ = some (.int .i64 idj) ∧ wr3.cell? ⟨bq, oq + 1, none⟩ = some (.slice aj rj.length cj)) := ⟨d3, (Below.cell F3.out HBL.out).trans k2, (Below.cell F3.out hbq).trans hcj0, (Below.cell F3.out hbq).trans hcj1⟩
          have hw1 : bL < wr3.heap.size := Nat.lt_of_lt_of_le HBL.out F3.out.size
          have hw2 : bq < wr3.heap.size := Nat.lt_of_lt_of_le hbq F3.out.size
          have HOa := hideP (empty_own wr3)
          have HOaf := hideP ((Fr.refl wr3).alloc (.cells #[] 43))
          have HOas := hideP (Fr.size HOaf.out)
          have HNa := hideP (HCE.out _ (Fr.trans F3.out HOaf.out))
          have HOb := hideP (own_fr (empty_own wr3) ((Fr.refl _).alloc (.cells #[.int .i64 idj, .slice aj rj.length cj] 43)))
          have HObf := hideP (Fr.alloc HOaf.out (.cells #[.int .i64 idj, .slice aj rj.length cj] 43))
          have HObs := hideP (Fr.size HObf.out)
          have HNb := hideP (HCE.out _ (Fr.trans F3.out HObf.out))
          have hoc := own_low (C := wr3.heap.size) (empty_own (wr3.alloc (.cells #[.int .i64 idj, .slice aj rj.length cj] 43))) (Fr.size ((Fr.refl wr3).alloc _))
          rw [alloc_size] at hoc
          have HOc := hideP hoc
          clear hoc
          have HOcf := hideP (Fr.alloc ((Fr.refl wr3).alloc (.cells #[.int .i64 idj, .slice aj rj.length cj] 43)) (.cells #[] 43))
          have HOcs := hideP (Fr.size HOcf.out)
          have HNc := hideP (HCE.out _ (Fr.trans F3.out HOcf.out))
          have HCb := hideP (cell_new2 (wr3.alloc (.cells #[] 43)) (.int .i64 idj) (.slice aj rj.length cj) 43 (wr3.heap.size + 1) (alloc_size _ _).symm)
          have HLb : Hid (wr3.heap.size + 1 < ((wr3.alloc (.cells #[] 43)).alloc (.cells #[.int .i64 idj, .slice aj rj.length cj] 43)).heap.size) := by unfold Hid; rw [alloc_size, alloc_size]; omega
          have HCc : Hid (∀ j u, [Value.int .i64 idj, Value.slice aj rj.length cj][j]? = some u → ((wr3.alloc (.cells #[.int .i64 idj, .slice aj rj.length cj] 43)).alloc (.cells #[] 43)).cell? ((⟨wr3.heap.size, 0, none⟩ : Addr).add j) = some u) := fun j u hu => by
            have h := cell_new2 wr3 (.int .i64 idj) (.slice aj rj.length cj) 43 wr3.heap.size rfl j u hu
            rw [add_at _ _ rfl] at h ⊢
            exact (Below.cell ((Fr.refl _).alloc _) (by rw [alloc_size]; exact Nat.lt_succ_self _)).trans h
          have HLc : Hid (wr3.heap.size < ((wr3.alloc (.cells #[.int .i64 idj, .slice aj rj.length cj] 43)).alloc (.cells #[] 43)).heap.size) := by unfold Hid; rw [alloc_size, alloc_size]; omega
          have HPK2 : Hid (∀ v W, W.ownsRow wr3.heap.size 43 2 v (0 + p.length + 1) (([] ++ esV esi) ++ [.int .i64 idj, .slice aj rj.length cj]) → Fr wr3 W → Calls Try.prog 8 #[v] W fun e w' => (∃ S, e = .returned (.tuple #[.string S, .int .i64 2])) ∧ Fr W w') := fun v W ho fW => by
            have hz : Oz w2 wr3.heap.size v (esi ++ [((idj, rj), .slice aj rj.length cj)]) W := ⟨by
              have e : (esi ++ [(((idj, rj) : LF.En), Value.slice aj rj.length cj)]).length = 0 + p.length + 1 := by rw [List.length_append, ← HE1.out, List.length_map]; simp
              rw [e, esV_app]
              exact ho, fun x hx => by
              rw [List.mem_append, List.mem_singleton] at hx
              rcases hx with hx | rfl
              · exact HE2.out x hx
              · exact HJ.out⟩
            have hen := hz.en (Fr.trans F3.out fW)
            rw [List.map_append, HE1.out] at hen
            refine (pack_any v (p ++ [(idj, rj)]) W hen (by simp; omega) (fun e he => ?_)).mono ?_
            · rw [List.mem_append, List.mem_singleton] at he
              rcases he with he | rfl
              · exact HPW.out e he
              · exact ⟨hjw, hjl⟩
            · rw [hpk2]
              rintro e w' ⟨rfl, f'⟩
              exact ⟨⟨_, rfl⟩, f'⟩
          clear k2 eq2 hqn hhd hqc hq1 hq2 hcj0 hcj1 hpk2 hbq d3
          obtain ⟨s1, s2, s3, s4⟩ := HS.out
          go_wp2_with fail
          go_region_law (first
            | (refine step_append_own_at rfl _ _ 22 rfl wr3.heap.size 43 i0 (.agg #[.int .i64 0, .slice none 0 0]) 2 32 Try.underlying22 hi0 hz0 hz1 hz2 rfl (by decide) (.slice (some ⟨wr3.heap.size, 0, none⟩) 0 0) 0 [] rfl HOa.out ⟨bi, oi, none⟩ p.length ci (esV esi) rfl HEL.out HNa.out HEO.out (by unfold maxLen; omega) (by omega) HOas.out ?_; intro v5 w5 hown5 hgrow5 _; have HO5 := hideP hown5; have F5 : Hid (Fr wr3 w5) := (by first | exact Below.grown HOaf.out hgrow5 HOas.out (fun k hk => (HOa.out.lt k hk).1) | exact Below.grown (Fr.drew HOaf.out) hgrow5 HOas.out (fun k hk => (HOa.out.lt k hk).1)); have hS5 := s4_fr hw1 hw1 hw2 hw2 F5.out HS.out; have HOq := hideP (own_fr HO5.out ((Fr.refl w5).alloc (.cells #[.int .i64 idj, .slice aj rj.length cj] 43))); have HCq := hideP (cell_new2 w5 (.int .i64 idj) (.slice aj rj.length cj) 43 w5.heap.size rfl); have HSq : Hid (wr3.heap.size ≤ (w5.alloc (.cells #[.int .i64 idj, .slice aj rj.length cj] 43)).heap.size) := (Nat.le_trans (Fr.size F5.out) (Fr.size ((Fr.refl w5).alloc _))); have Fq := hideP (Fr.alloc F5.out (.cells #[.int .i64 idj, .slice aj rj.length cj] 43)); clear hown5 hgrow5)
            | (refine step_append_own_at rfl _ _ 22 rfl wr3.heap.size 43 i0 (.agg #[.int .i64 0, .slice none 0 0]) 2 32 Try.underlying22 hi0 hz0 hz1 hz2 rfl (by decide) (.slice (some ⟨wr3.heap.size, 0, none⟩) 0 0) 0 [] rfl HOb.out ⟨bi, oi, none⟩ p.length ci (esV esi) rfl HEL.out HNb.out HEO.out (by unfold maxLen; omega) (by omega) HObs.out ?_; intro v5 w5 hown5 hgrow5 _; have HO5 := hideP hown5; have F5 : Hid (Fr wr3 w5) := (by first | exact Below.grown HObf.out hgrow5 HObs.out (fun k hk => (HOb.out.lt k hk).1) | exact Below.grown (Fr.drew HObf.out) hgrow5 HObs.out (fun k hk => (HOb.out.lt k hk).1)); have hS5 := s4_fr hw1 hw1 hw2 hw2 F5.out HS.out; have HOr := HO5; have HCr : Hid (∀ j u, [Value.int .i64 idj, Value.slice aj rj.length cj][j]? = some u → w5.cell? ((⟨wr3.heap.size + 1, 0, none⟩ : Addr).add j) = some u) := (fun j u hu => by have h := HCb.out j u hu; rw [add_at _ _ rfl] at h ⊢; exact (World.cell?_of_block (hgrow5.block _ HLb.out (by simp [Value.ownBlock]))).trans h); have HSr : Hid (wr3.heap.size ≤ w5.heap.size) := (Fr.size F5.out); clear hown5 hgrow5)
            | (refine step_append_own_at rfl _ _ 22 rfl wr3.heap.size 43 i0 (.agg #[.int .i64 0, .slice none 0 0]) 2 32 Try.underlying22 hi0 hz0 hz1 hz2 rfl (by decide) (.slice (some ⟨wr3.heap.size + 1, 0, none⟩) 0 0) 0 [] rfl HOc.out ⟨bi, oi, none⟩ p.length ci (esV esi) rfl HEL.out HNc.out HEO.out (by unfold maxLen; omega) (by omega) HOcs.out ?_; intro v5 w5 hown5 hgrow5 _; have HO5 := hideP hown5; have F5 : Hid (Fr wr3 w5) := (by first | exact Below.grown HOcf.out hgrow5 HOcs.out (fun k hk => (HOc.out.lt k hk).1) | exact Below.grown (Fr.drew HOcf.out) hgrow5 HOcs.out (fun k hk => (HOc.out.lt k hk).1)); have hS5 := s4_fr hw1 hw1 hw2 hw2 F5.out HS.out; have HOt := HO5; have HCt : Hid (∀ j u, [Value.int .i64 idj, Value.slice aj rj.length cj][j]? = some u → w5.cell? ((⟨wr3.heap.size, 0, none⟩ : Addr).add j) = some u) := (fun j u hu => by have h := HCc.out j u hu; rw [add_at _ _ rfl] at h ⊢; exact (World.cell?_of_block (hgrow5.block _ HLc.out (by simp [Value.ownBlock]))).trans h); have HSt : Hid (wr3.heap.size ≤ w5.heap.size) := (Fr.size F5.out); clear hown5 hgrow5)
            | (refine step_append_own_at rfl _ _ 22 rfl wr3.heap.size 43 i0 (.agg #[.int .i64 0, .slice none 0 0]) 2 32 Try.underlying22 hi0 hz0 hz1 hz2 rfl (by decide) _ (0 + p.length) ([] ++ esV esi) rfl HOq.out ⟨w5.heap.size, 0, none⟩ 1 1 [.int .i64 idj, .slice aj rj.length cj] rfl rfl HCq.out (by intro u hu; simp at hu; rcases hu with rfl | rfl <;> rfl) (by unfold maxLen; omega) (by omega) HSq.out ?_; intro v6 w6 hown6 hgrow6 _; have F6 : Hid (Fr wr3 w6) := (Below.grown Fq.out hgrow6 HSq.out (fun k hk => (HOq.out.lt k hk).1)); have hS6 := s4_fr hw1 hw1 hw2 hw2 F6.out HS.out; have hpk6 := HPK2.out v6 w6 hown6 F6.out; clear hown6 hgrow6)
            | (refine step_append_own_at rfl _ _ 22 rfl wr3.heap.size 43 i0 (.agg #[.int .i64 0, .slice none 0 0]) 2 32 Try.underlying22 hi0 hz0 hz1 hz2 rfl (by decide) _ (0 + p.length) ([] ++ esV esi) rfl HOr.out ⟨wr3.heap.size + 1, 0, none⟩ 1 1 [.int .i64 idj, .slice aj rj.length cj] rfl rfl HCr.out (by intro u hu; simp at hu; rcases hu with rfl | rfl <;> rfl) (by unfold maxLen; omega) (by omega) HSr.out ?_; intro v6 w6 hown6 hgrow6 _; have F6 : Hid (Fr wr3 w6) := (Below.grown F5.out hgrow6 HSr.out (fun k hk => (HOr.out.lt k hk).1)); have hS6 := s4_fr hw1 hw1 hw2 hw2 F6.out HS.out; have hpk6 := HPK2.out v6 w6 hown6 F6.out; clear hown6 hgrow6)
            | (refine step_append_own_at rfl _ _ 22 rfl wr3.heap.size 43 i0 (.agg #[.int .i64 0, .slice none 0 0]) 2 32 Try.underlying22 hi0 hz0 hz1 hz2 rfl (by decide) _ (0 + p.length) ([] ++ esV esi) rfl HOt.out ⟨wr3.heap.size, 0, none⟩ 1 1 [.int .i64 idj, .slice aj rj.length cj] rfl rfl HCt.out (by intro u hu; simp at hu; rcases hu with rfl | rfl <;> rfl) (by unfold maxLen; omega) (by omega) HSt.out ?_; intro v6 w6 hown6 hgrow6 _; have F6 : Hid (Fr wr3 w6) := (Below.grown F5.out hgrow6 HSt.out (fun k hk => (HOt.out.lt k hk).1)); have hS6 := s4_fr hw1 hw1 hw2 hw2 F6.out HS.out; have hpk6 := HPK2.out v6 w6 hown6 F6.out; clear hown6 hgrow6)
            | (go_simp; go_wp2_with (go_at_call 8; refine hpk6.mono ?_; rintro _ w7 ⟨⟨S7, rfl⟩, f7⟩; have F7 : Hid (Fr wr3 w7) := (Fr.trans F6.out f7); have hS7 := s4_fr hw1 hw1 hw2 hw2 F7.out HS.out; clear f7)))
          all_goals
            have t1 := hS7.1
            have OZ7 := hideP (Oz.fr OZ3.out F7.out)
            have FW7 := hideP (Fr.trans F3.out F7.out)
            go_wp2_with (at_builtin; refine wpList_append_own _ rfl _ _ 22 rfl w2.heap.size 43 i0 (.agg #[.int .i64 0, .slice none 0 0]) 2 32 Try.underlying22 hi0 hz0 hz1 hz2 rfl (by decide) _ _ _ rfl OZ7.out.own ⟨bi, oi, none⟩ p.length ci (esV esi) rfl HEL.out (HCE.out _ FW7.out) HEO.out ?c3 ?c4 ?c5 ?_)
            case c3 => unfold maxLen; omega
            case c4 => omega
            case c5 => exact Fr.size FW7.out
            intro v8 w8 hown8 hgrow8 _
            have HN : Hid (Oz w2 w2.heap.size v8 (es ++ esi) w8) := ⟨by rw [esV_app, List.length_append, HPLN.out]; exact hown8, fun x hx => by
              rcases List.mem_append.1 hx with hx | hx
              · exact OZ7.out.rows x hx
              · exact HE2.out x hx⟩
            have F8 : Hid (Fr w2 w8) := Below.grown FW7.out hgrow8 (Fr.size FW7.out) (fun k hk => (OZ7.out.own.lt k hk).1)
            have HE8 : Hid ((es ++ esi).map (·.1) = (L.take (i + 1)).flatten) := by unfold Hid; rw [List.map_append, HES.out, HE1.out, HTK.out]
            clear hown8 hgrow8
            go_wp2_with fail
            go_roundw
            case rel => exact ⟨i + 1, es ++ esi, by go_num, by omega, HE8.out, HN.out, F8.out⟩
            case measure => simp [intOf]; omega
        · have hn1 : ((i : Int) + 1 < (L.length : Int)) = False := by simp; omega
          have hn2 : (i + 1 < L.length) = False := by simp; omega
          have hn3 : (L.length : Int) ≤ (i : Int) + 1 := by omega
          clear HNX
          go_wp2_with (at_builtin; refine wpList_append_own _ rfl _ _ 22 rfl w2.heap.size 43 i0 (.agg #[.int .i64 0, .slice none 0 0]) 2 32 Try.underlying22 hi0 hz0 hz1 hz2 rfl (by decide) _ _ _ rfl OZ3.out.own ⟨bi, oi, none⟩ p.length ci (esV esi) rfl HEL.out (HCE.out _ F3.out) HEO.out ?c3 ?c4 ?c5 ?_)
          case c3 => unfold maxLen; omega
          case c4 => omega
          case c5 => exact Fr.size F3.out
          intro v8 w8 hown8 hgrow8 _
          have HN : Hid (Oz w2 w2.heap.size v8 (es ++ esi) w8) := ⟨by rw [esV_app, List.length_append, HPLN.out]; exact hown8, fun x hx => by
            rcases List.mem_append.1 hx with hx | hx
            · exact OZ3.out.rows x hx
            · exact HE2.out x hx⟩
          have F8 : Hid (Fr w2 w8) := Below.grown F3.out hgrow8 (Fr.size F3.out) (fun k hk => (OZ3.out.own.lt k hk).1)
          have HE8 : Hid ((es ++ esi).map (·.1) = (L.take (i + 1)).flatten) := by unfold Hid; rw [List.map_append, HES.out, HE1.out, HTK.out]
          clear hown8 hgrow8
          go_wp2_with fail
          go_roundw
          case rel => exact ⟨i + 1, es ++ esi, by go_num, by omega, HE8.out, HN.out, F8.out⟩
          case measure => simp [intOf]; omega
      · obtain rfl : i = L.length := by omega
        rw [List.take_of_length_le (Nat.le_refl _), HFL.out] at hes
        have hen := hoz.en hfr
        rw [hes] at hen
        have hse := sameEntries_eq _ _ l0 wr hen (IsEn.fr HV.out (Fr.trans F2.out hfr)) (by omega) HRL.out
        have HFR := hideP (Fr.trans F2.out hfr)
        obtain ⟨a5, c5, rfl, _⟩ := hen
        clear hoz hfr hes
        go_wp2_with fail
        refine hse.mono ?_
        rintro _ w9 ⟨rfl, f9⟩
        have F9 := hideP (Fr.trans HFR.out f9)
        clear f9 hse
        go_wp2_with fail
        go_ret
        exact ⟨rfl, F9.out⟩
  · simp only [FillAs, if_neg hc] at hfi
    generalize LF.chk l0 = c at *
    have q1 : ((c : Int) != 0) = true := by simp; omega
    have q2 : ¬ ((c : Int) = 0) := by omega
    clear hv hw
    go_enter Try.func7, Try.ntmps7
    go_wp2_with fail
    refine hfi.mono ?_
    rintro _ w1 ⟨rfl, f1⟩
    have F1 := hideP f1
    clear hfi f1
    go_wp2_with fail
    refine (begun_any _).mono ?_
    rintro _ w2 ⟨rfl, f2⟩
    have F2 := hideP (Fr.trans F1.out f2)
    clear f2 F1
    go_wp2_with fail
    go_ret
    exact ⟨rfl, F2.out⟩

set_option maxRecDepth 100000 in
theorem lifted (os : Go.Os) (started : os.Started) (H : Type) (enc : TypeId × Value → H) :
    ReturnsInHanded {} Try.checked os 7 .any (Rows.fillAllSpec.pre6 enc Try.prog Try.f7 Rows.fillAllRow.domain false) (Rows.fillAllSpec.post enc Try.prog Try.f7 false true false false) := by
  refine returnsInHanded_of_change_sized (C := Try.checked) own started (by kernel_rfl) Try.func7
    (ChangeSpec.witness6 (enc := enc) (C := Try.checked) false ⟨#[], #[.slice none 0 0], []⟩ 8 (by kernel_rfl) (by kernel_rfl) (by kernel_rfl) (by kernel_rfl)) ?_
  intro W base args ds gs before hval0 hW hcnd hsz0 _
  have hval : ∀ (j : Nat) t v, Try.f7.params[j]? = some t → args[j]? = some v → Value.okWide Try.prog W .any base t v := hval0
  have hsz : (DataW.weightsEach Try.prog (Try.f7.params.toList ++ Rows.fillAllSpec.plain.varTypes Try.prog) (ds ++ gs)).all (· ≤ reachBytes) = true := hsz0
  have hW' := hW
  obtain ⟨p, q, hA0, hV, rfl, hfz, hnd⟩ := hW
  have hA : DataW.TrodAll enc Try.prog W 0 (fun _ => true) true Try.f7.params.toList args.toList ds p := hA0
  rw [Try.params7] at hA hval hsz
  obtain ⟨v0, vs0, d0, ds0, p0, q0, hargs, rfl, rfl, h0, r0⟩ := trodAll_cons hA
  obtain ⟨rfl, rfl, rfl⟩ := trodAll_nil r0
  obtain rfl : args = #[v0] := by cases args; simp_all
  obtain ⟨rfl, rfl⟩ := trodVars_none hV
  obtain ⟨l0, rw0, wd0, ln0, dd0⟩ := open_ens (hval 0 22 v0 rfl rfl) h0
  have b0 : l0.length * 32 ≤ 140737488351232 := by
    rcases dd0 with ⟨_, rfl⟩ | ⟨es, sp, hd, hl⟩
    · simp
    · have h := sized_slice hsz (j := 0) (t := 22) rfl (by rw [hd]; rfl) Try.underlying22
      rw [Try.bytesEn] at h
      unfold reachBytes at h
      omega
  clear hA0 hval0 hsz0
  refine (walk v0 l0 W rw0 wd0 b0).mono fun e W' ⟨he, bel⟩ => ?_
  subst he
  exact ⟨_, rfl, _, _, _, [], _, [], hW', trodAll_mk1 (shut_bool Try.underlying4 _), (trodAll_cons_mk (shut_ens h0 bel) trodAll_mk0), rfl, Below.frame bel _, fun h => by cases h⟩

theorem over : Rows.fillAllRow.holds Try.pinned (OpenSpec.ofChange Rows.fillAllSpec) :=
  OpenClaim.holds_of_wide 7 Try.f7 rfl rfl rfl rfl rfl rfl rfl ⟨rfl, rfl, rfl, rfl, rfl⟩ rfl rfl rfl rfl rfl (by kernel_rfl) Try.func7 (by kernel_rfl)
    (of_decide_eq_true (by kernel_rfl)) (by unfold Func.isWrapper; first | (rw [if_pos (by decide +kernel)]; kernel_rfl) | (rw [if_neg (by decide +kernel)]; exact ⟨rfl, rfl⟩))
    (fun os started H enc _ => lifted os started H enc)

end Go.Proofs.Ythpcdhnaibpjnaa.FillAll
namespace Go.Proofs.Ythpcdhnaibpjnaa
theorem fillAll_holds : Rows.FillAllSaid := FillAll.over
#print axioms fillAll_holds
end Go.Proofs.Ythpcdhnaibpjnaa
