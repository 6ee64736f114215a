/-
  What walk.Up with worth answers.
-/
import Derived.Test.YtbcfdhimngoplaaGreatDoorEvK
namespace Go.Proofs.YtbcfdhimngoplaaGreatDoor
open Go.ChangeShapes Go.WideShapes Go.ChangeAt Go.RowKit
set_option linter.unusedVariables false
set_option linter.unusedSimpArgs false
set_option maxRecDepth 100000
set_option maxHeartbeats 4000000
theorem Tryz.infoVal9 : (Tryz.prog.info? 56).map (fun i => (i.zero, i.size, i.bytes)) = some (some (.agg #[.int .i64 0, .int .i64 0, .string ⟨#[]⟩]), 3, 32) := by kernel_rfl
theorem s3_fr {w w' : World} {a b c : Addr} {p q r : Value} (h9 : Fr w w') (h : w.cell? a = some p ∧ w.cell? b = some q ∧ w.cell? c = some r) : w'.cell? a = some p ∧ w'.cell? b = some q ∧ w'.cell? c = some r :=
 ⟨(Below.cell h9 (World.block_lt_of_cell? _ _ h.1)).trans h.1, (Below.cell h9 (World.block_lt_of_cell? _ _ h.2.1)).trans h.2.1, (Below.cell h9 (World.block_lt_of_cell? _ _ h.2.2)).trans h.2.2⟩
theorem s3_grown {w w1 w2 : World} {b i j k : Nat} {p q r : Value} {m : Option Nat} (f : Fr w w1) (g : w1.grownBy w2 m) (hne : some b ≠ m) (h : w.cell? ⟨b, i, none⟩ = some p ∧ w.cell? ⟨b, j, none⟩ = some q ∧ w.cell? ⟨b, k, none⟩ = some r) : w2.cell? ⟨b, i, none⟩ = some p ∧ w2.cell? ⟨b, j, none⟩ = some q ∧ w2.cell? ⟨b, k, none⟩ = some r :=
 ⟨g.cell (s3_fr f h).1 hne, g.cell (s3_fr f h).2.1 hne, g.cell (s3_fr f h).2.2 hne⟩
def UpVAns (f : List UInt8 → Option VM.Vl) (B : Nat) (e : List EX.Nd) (r : Ending) (w' : World) : Prop :=
 (∃ out u, EX.up (EV.wo f) e [] = .ok out ∧ r = .returned (.tuple #[u, .int .i64 0]) ∧ w'.ownsRow B 56 3 u out.length (flat cdV out)) ∨ (∃ c, EX.up (EV.wo f) e [] = .error c ∧ c ≠ 0 ∧ r = .returned (.tuple #[.slice none 0 0, .int .i64 (c : Int)]))
theorem upV_any (v : Value) (e : List EX.Nd) (w : World) (h : IsL cdN w v e) (hn : ∀ n ∈ e, n.nm.size ≤ 140737488355327) (hl : e.length ≤ 1000) (b0 k0 : Nat) (f : List UInt8 → Option VM.Vl) (ds : List Nat) (hM : Mp w b0 k0 f) (hTn : Tn w) (hT : Tb w) (hg : ∀ s y, f s = some y → EV.gd y) (hv : ∀ n ∈ e, EV.gd n.v) (hd : EX.up EX.dOf e [] = .ok ds) :
  Calls Tryz.prog 81 #[v, .func (.func 82) #[.map (some b0)] #[]] w fun r w' => UpVAns f w.heap.size e r w' ∧ Fr w w' := by
 obtain ⟨a, cap, rfl, hcap, hcs⟩ := h
 have HC := hideP hcs
 have HN := hideP hn
 have HMp := hideP hM
 have HTn := hideP hTn
 have HT := hideP hT
 have HG := hideP hg
 have HV := hideP hv
 have HD0 := hideP hd
 clear hcs hn hM hTn hT hg hv hd
 obtain ⟨i0, hi0, hz0, hz1, hz2⟩ := info_parts Tryz.infoVal9
 go_enter Tryz.func81, Tryz.ntmps81
 go_wp2_with fail
 go_loopw [6, 8, 9, 10, 11, 14] (fun fv _ _ _ _ iv wr => ∃ (i : Nat) (free : List VM.Vl), iv = .int .i64 i ∧ i ≤ e.length ∧ EX.up (EV.wo f) e [] = EX.up (EV.wo f) (e.drop i) free ∧ wr.ownsRow w.heap.size 56 3 fv free.length (flat cdV free) ∧ Fr w wr ∧ ((∀ x ∈ free, EV.gd x) ∧ ∃ df : List Nat, EX.up EX.dOf (e.drop i) df = .ok ds ∧ df.length = free.length) ∧ free.length ≤ i) (fun _ _ _ _ _ iv _ => e.length - (intOf iv).toNat)
 case atStart => exact ⟨0, [], rfl, Nat.zero_le _, rfl, World.ownsRow_nil _ _ _ _, Fr.refl _, ⟨fun x hx => by simp at hx, [], HD0.out, rfl⟩, Nat.le_refl _⟩
 case round =>
  obtain ⟨i, free, rfl, hi, hall, hown, hfr, hbd, hfl⟩ := hrel
  obtain ⟨fa, fc, rfl⟩ := own_slice hown
  have HA := hideP hall
  have HO := hideP hown
  have HF := hideP hfr
  have HBd := hideP hbd
  obtain ⟨L, hL⟩ : ∃ L, free.length = L := ⟨_, rfl⟩
  have HL := hideP hL
  rw [hL] at HO hfl ⊢
  clear hall hown hfr hbd hL
  by_cases hlt : i < e.length
  ·
   have hlt' : (i : Int) < (e.length : Int) := by omega
   obtain ⟨b, o, rfl, hb, hc⟩ : ∃ b o, a = some ⟨b, o, none⟩ ∧ b < w.heap.size ∧ At cdN w b o e := by
    rcases HC.out with h | h
    · rw [h] at hlt; simp at hlt
    · exact h
   obtain ⟨c0, c1, c2, c3, c4, c5⟩ := (hc.fr hb HF.out).nd i hlt
   have hn := HN.out e[i] (List.getElem_mem hlt)
   rw [List.drop_eq_getElem_cons hlt] at HA
   have hnv := HV.out e[i] (List.getElem_mem hlt)
   generalize hgen : e[i] = n at *
   have hF : ∃ F : Nat, F = L - n.kids.toNat := ⟨_, rfl⟩
   obtain ⟨F, hF⟩ := hF
   have hFL : F ≤ L := by omega
   have hfirst : (L : Int) - min (max n.kids 0) (L : Int) = (F : Int) := by omega
   have kl_ : ∃ kl, free.drop F = kl := ⟨_, rfl⟩
   obtain ⟨kl, hkl⟩ := kl_
   have hbk : ∀ x ∈ kl, EV.gd x := fun x hx => HBd.out.1 x (by rw [← hkl] at hx; exact List.mem_of_mem_drop hx)
   have hgv := hnv
   obtain ⟨df, hdf, hdl⟩ := HBd.out.2
   rw [List.drop_eq_getElem_cons hlt, hgen] at hdf
   obtain ⟨hck, hkd, y9, hy9⟩ := EX.dOf_step hdf
   have hk0 := EX.kids_nonneg hck
   have haw : EV.Aw n.op kl := EV.aw_of hck (by rw [← hkl, List.length_drop, HL.out, hF]; rw [hdl, HL.out] at hkd; omega)
   have hll : kl.length ≤ 1000 := by rw [← hkl, List.length_drop, HL.out]; omega
   have HCon := hideP (fun W v (g : Fr w W) (h : IsL cdV W v kl) => worth_any b0 k0 f n v kl W (HMp.out.fr g) hn h (by omega) (HTn.out.fr g) (HT.out.fr g) (fun x hx => (hbk x hx).1) (fun x hx => (hbk x hx).2) haw)
   have HFv := hideP hF
   have hup : EX.up (EV.wo f) (n :: e.drop (i + 1)) free = match (EV.wo f) n kl with
     | .error c => .error c
     | .ok x => EX.up (EV.wo f) (e.drop (i + 1)) (free.take F ++ [x]) := by
    rw [EX.up]
    simp only [HL.out, ← hF, hkl]
    cases (EV.wo f) n kl <;> rfl
   rw [hup] at HA
   have hokb : ∀ x, (EV.wo f) n kl = .ok x → ((∀ y ∈ free.take F ++ [x], EV.gd y) ∧ ∃ df : List Nat, EX.up EX.dOf (e.drop (i + 1)) df = .ok ds ∧ df.length = (free.take F ++ [x]).length) := fun x hx => ⟨fun y hy => by
    rcases List.mem_append.1 hy with h | h
    · exact HBd.out.1 y (List.mem_of_mem_take h)
    ·
     obtain rfl : y = x := by simpa using h
     exact EV.wo_gd HG.out hgv hbk hx, _, hy9, by have := EX.step_len (n := n) (y := y9) (x := x) hdl; rw [HL.out, ← hF] at this; exact this⟩
   have herr : ∀ c, (EV.wo f) n kl = .error c → c ≠ 0 := fun c hc => EV.wo_ne hc
   have HKl := hideP hkl
   generalize (EV.wo f) n kl = D at *
   obtain ⟨op, kids, ⟨vk, vn, vs⟩, nm⟩ := n
   simp only [EX.val] at c0 c1 c2 c3 c4 c5 hfirst HCon
   have HB1 := hideP (Blk.new wr #[.int .i64 op, .int .i64 kids, .int .i64 vk, .int .i64 vn, .string vs, .string nm] 61)
   have FW := hideP ((Fr.refl wr).alloc (.cells #[.int .i64 op, .int .i64 kids, .int .i64 vk, .int .i64 vn, .string vs, .string nm] 61))
   clear hc hn hkl hF
   go_upto_region 6 with fail
   generalize wr.alloc (.cells #[.int .i64 op, .int .i64 kids, .int .i64 vk, .int .i64 vn, .string vs, .string nm] 61) = wz at *
   have HS6 := hideP (show wz.cell? ⟨wr.heap.size, 0, none⟩ = some (.int .i64 op) ∧ wz.cell? ⟨wr.heap.size, 1, none⟩ = some (.int .i64 kids) ∧ wz.cell? ⟨wr.heap.size, 2, none⟩ = some (.int .i64 vk) ∧ wz.cell? ⟨wr.heap.size, 3, none⟩ = some (.int .i64 vn) ∧ wz.cell? ⟨wr.heap.size, 4, none⟩ = some (.string vs) ∧ wz.cell? ⟨wr.heap.size, 5, none⟩ = some (.string nm) from ⟨HB1.out.cell 0 rfl, HB1.out.cell 1 rfl, HB1.out.cell 2 rfl, HB1.out.cell 3 rfl, HB1.out.cell 4 rfl, HB1.out.cell 5 rfl⟩)
   have hz := Fr.drew (Fr.refl wz)
   have hFL' : (F : Int) ≤ (L : Int) := by omega
   have HB0 := hideP (show Blk (wz.drew.alloc (.cells #[.int .i64 0, .int .i64 0, .string ⟨#[]⟩] 56)) wz.heap.size #[.int .i64 0, .int .i64 0, .string ⟨#[]⟩] 56 from Blk.new wz.drew _ _)
   have hsh : (fa = none ∧ L = 0 ∧ fc = 0) ∨ ∃ g, fa = some ⟨g, 0, none⟩ ∧ L ≤ fc ∧ g < wz.heap.size := by
    rcases HO.out.2 with ⟨e1, h0⟩ | ⟨g, cap', cur, e1, h2, h3, h4, _⟩
    · cases e1; exact .inl ⟨rfl, h0, rfl⟩
    · cases e1; exact .inr ⟨g, rfl, h4, Nat.lt_of_lt_of_le (Array.getElem?_eq_some_iff.1 h3).1 (Fr.size FW.out)⟩
   cases D with
   | error c =>
    have HE := hideP (herr c rfl)
    have HZ := hideP HA.out
    have e1 : ((c : Int) != 0) = true := by have := HE.out; simp; omega
    have e2 : ¬ ((c : Int) = 0) := by have := HE.out; omega
    simp only [exV, vlV] at HCon
    clear hokb herr HA
    rcases hsh with ⟨rfl, rfl, rfl⟩ | ⟨g, rfl, hLc, hgz⟩
    ·
     obtain rfl : F = 0 := by omega
     have HIs := hideP (show IsL cdV wz.drew (.slice none 0 0) kl from by
      rw [← HKl.out, show free = [] from List.length_eq_zero_iff.1 HL.out]
      exact isL_nil _ _)
     go_region_held3 (fun W => W.cell? ⟨wr.heap.size, 0, none⟩ = some (.int .i64 op) ∧ W.cell? ⟨wr.heap.size, 1, none⟩ = some (.int .i64 kids) ∧ W.cell? ⟨wr.heap.size, 2, none⟩ = some (.int .i64 vk) ∧ W.cell? ⟨wr.heap.size, 3, none⟩ = some (.int .i64 vn) ∧ W.cell? ⟨wr.heap.size, 4, none⟩ = some (.string vs) ∧ W.cell? ⟨wr.heap.size, 5, none⟩ = some (.string nm)) (first | exact HS6.out | exact s6_after hz HS6.out | exact s6_after hf9 HS6.out | exact s6_after (Fr.alloc hz _) HS6.out | exact s6_after (Fr.alloc hf9 _) HS6.out | exact s6_after (Fr.put3 hf9 wz.heap.size (Nat.le_refl _) _ _ _) HS6.out | exact s6_after (Fr.put3 (Fr.alloc hf9 _) w3.heap.size hsz9 _ _ _) HS6.out) (first
      | (go_at_call 82; refine (HCon.out _ _ (HF.out.trans (FW.out.trans hz)) HIs.out).mono ?_; rintro _ w3 ⟨rfl, f3⟩; have hf9 := hz.trans f3; have hsz9 := Fr.size hf9; clear f3)
      | (go_at_call 82; refine (HCon.out _ _ (HF.out.trans (FW.out.trans (Fr.alloc hz _))) (HIs.out.fr (Fr.alloc (Fr.refl _) _))).mono ?_; rintro _ w3 ⟨rfl, f3⟩; have HB9 := hideP ((HB0.out.fr f3)); have hf9 := (Fr.alloc hz _).trans f3; have p0 := HB9.out.cell 0 rfl; have p1 := HB9.out.cell 1 rfl; have p2 := HB9.out.cell 2 rfl; have p3 := HB9.out.frozen 0; have p4 := HB9.out.frozen 1; have p5 := HB9.out.frozen 2; clear f3))
     ·
      have HQ := hideP (Blk.new w3 #[.int .i64 EX.nul.k, .int .i64 EX.nul.n, .string EX.nul.s] 56)
      have hfq := Fr.alloc hf9 (.cells #[.int .i64 EX.nul.k, .int .i64 EX.nul.n, .string EX.nul.s] 56)
      clear hsz9 hf9 HB0
      generalize w3.alloc (.cells #[.int .i64 EX.nul.k, .int .i64 EX.nul.n, .string EX.nul.s] 56) = wq at *
      generalize w3.heap.size = Bq at *
      go_wp2_with fail
      go_ret2
      exact ⟨.inr ⟨c, HZ.out, HE.out, rfl⟩, HF.out.trans (FW.out.trans hfq)⟩
     ·
      have HQ := hideP (HB9.out.put3 (.int .i64 EX.nul.k) (.int .i64 EX.nul.n) (.string EX.nul.s))
      have hfq := Fr.put3 hf9 wz.heap.size (Nat.le_refl _) (.int .i64 EX.nul.k) (.int .i64 EX.nul.n) (.string EX.nul.s)
      clear hf9 HB9 p3 p4 p5 HB0
      simp only [put3] at HQ hfq
      generalize ((w3.setCell ⟨wz.heap.size, 0, none⟩ (.int .i64 EX.nul.k)).setCell ⟨wz.heap.size, 1, none⟩ (.int .i64 EX.nul.n)).setCell ⟨wz.heap.size, 2, none⟩ (.string EX.nul.s) = wq at *
      generalize wz.heap.size = Bq at *
      go_wp2_with fail
      go_ret2
      exact ⟨.inr ⟨c, HZ.out, HE.out, rfl⟩, HF.out.trans (FW.out.trans hfq)⟩
    ·
     have hFc : (F : Int) ≤ (fc : Int) := by omega
     have hLc' : (L : Int) ≤ (fc : Int) := by omega
     have HIs := hideP (show IsL cdV wz.drew (.slice (if fc = F then some ⟨g, 0, none⟩ else some ⟨g, F * 3, none⟩) (L - F) (fc - F)) kl from by
      rw [← HKl.out]
      refine isL_drop (own_fr HO.out (FW.out.trans hz)) HL.out.symm hFL ?_
      by_cases h : fc = F
      · left; omega
      · right; exact ⟨g, rfl, by rw [if_neg h]; first | rfl | (show some (⟨g, F, none⟩ : Addr) = some ⟨g, F * 1, none⟩; rw [Nat.mul_one])⟩)
     go_region_held3 (fun W => W.cell? ⟨wr.heap.size, 0, none⟩ = some (.int .i64 op) ∧ W.cell? ⟨wr.heap.size, 1, none⟩ = some (.int .i64 kids) ∧ W.cell? ⟨wr.heap.size, 2, none⟩ = some (.int .i64 vk) ∧ W.cell? ⟨wr.heap.size, 3, none⟩ = some (.int .i64 vn) ∧ W.cell? ⟨wr.heap.size, 4, none⟩ = some (.string vs) ∧ W.cell? ⟨wr.heap.size, 5, none⟩ = some (.string nm)) (first | exact HS6.out | exact s6_after hz HS6.out | exact s6_after hf9 HS6.out | exact s6_after (Fr.alloc hz _) HS6.out | exact s6_after (Fr.alloc hf9 _) HS6.out | exact s6_after (Fr.put3 hf9 wz.heap.size (Nat.le_refl _) _ _ _) HS6.out | exact s6_after (Fr.put3 (Fr.alloc hf9 _) w3.heap.size hsz9 _ _ _) HS6.out) (first
      | (go_at_call 82; refine (HCon.out _ _ (HF.out.trans (FW.out.trans hz)) HIs.out).mono ?_; generalize (if fc = F then (some ⟨g, 0, none⟩ : Option Addr) else some ⟨g, F * 3, none⟩) = A9; rintro _ w3 ⟨rfl, f3⟩; have hf9 := hz.trans f3; have hsz9 := Fr.size hf9; clear f3)
      | (go_at_call 82; refine (HCon.out _ _ (HF.out.trans (FW.out.trans (Fr.alloc hz _))) (HIs.out.fr (Fr.alloc (Fr.refl _) _))).mono ?_; generalize (if fc = F then (some ⟨g, 0, none⟩ : Option Addr) else some ⟨g, F * 3, none⟩) = A9; rintro _ w3 ⟨rfl, f3⟩; have HB9 := hideP ((HB0.out.fr f3)); have hf9 := (Fr.alloc hz _).trans f3; have p0 := HB9.out.cell 0 rfl; have p1 := HB9.out.cell 1 rfl; have p2 := HB9.out.cell 2 rfl; have p3 := HB9.out.frozen 0; have p4 := HB9.out.frozen 1; have p5 := HB9.out.frozen 2; clear f3))
     ·
      have HQ := hideP (Blk.new w3 #[.int .i64 EX.nul.k, .int .i64 EX.nul.n, .string EX.nul.s] 56)
      have hfq := Fr.alloc hf9 (.cells #[.int .i64 EX.nul.k, .int .i64 EX.nul.n, .string EX.nul.s] 56)
      have hgq := Nat.lt_of_lt_of_le hgz hsz9
      clear hsz9 hf9 HB0
      generalize w3.alloc (.cells #[.int .i64 EX.nul.k, .int .i64 EX.nul.n, .string EX.nul.s] 56) = wq at *
      generalize w3.heap.size = Bq at *
      go_wp2_with fail
      go_ret2
      exact ⟨.inr ⟨c, HZ.out, HE.out, rfl⟩, HF.out.trans (FW.out.trans hfq)⟩
     ·
      have HQ := hideP (HB9.out.put3 (.int .i64 EX.nul.k) (.int .i64 EX.nul.n) (.string EX.nul.s))
      have hfq := Fr.put3 hf9 wz.heap.size (Nat.le_refl _) (.int .i64 EX.nul.k) (.int .i64 EX.nul.n) (.string EX.nul.s)
      have hgq := hgz
      clear hf9 HB9 p3 p4 p5 HB0
      simp only [put3] at HQ hfq
      generalize ((w3.setCell ⟨wz.heap.size, 0, none⟩ (.int .i64 EX.nul.k)).setCell ⟨wz.heap.size, 1, none⟩ (.int .i64 EX.nul.n)).setCell ⟨wz.heap.size, 2, none⟩ (.string EX.nul.s) = wq at *
      generalize wz.heap.size = Bq at *
      go_wp2_with fail
      go_ret2
      exact ⟨.inr ⟨c, HZ.out, HE.out, rfl⟩, HF.out.trans (FW.out.trans hfq)⟩
   | ok x =>
    have HOk := hideP (hokb x rfl)
    have HZ := hideP HA.out
    simp only [exV, vlV] at HCon
    clear hokb herr HA
    have HTk := hideP (show wr.ownsRow w.heap.size 56 3 (.slice fa F fc) F (flat cdV (free.take F)) from by
     have h := own_take (m := F) HO.out hFL (by decide)
     have e := flat_take cdV free F (by rw [HL.out]; exact hFL)
     rw [← e]
     exact h)
    rcases hsh with ⟨rfl, rfl, rfl⟩ | ⟨g, rfl, hLc, hgz⟩
    ·
     obtain rfl : F = 0 := by omega
     have HIs := hideP (show IsL cdV wz.drew (.slice none 0 0) kl from by
      rw [← HKl.out, show free = [] from List.length_eq_zero_iff.1 HL.out]
      exact isL_nil _ _)
     go_region_held3 (fun W => W.cell? ⟨wr.heap.size, 0, none⟩ = some (.int .i64 op) ∧ W.cell? ⟨wr.heap.size, 1, none⟩ = some (.int .i64 kids) ∧ W.cell? ⟨wr.heap.size, 2, none⟩ = some (.int .i64 vk) ∧ W.cell? ⟨wr.heap.size, 3, none⟩ = some (.int .i64 vn) ∧ W.cell? ⟨wr.heap.size, 4, none⟩ = some (.string vs) ∧ W.cell? ⟨wr.heap.size, 5, none⟩ = some (.string nm)) (first | exact HS6.out | exact s6_after hz HS6.out | exact s6_after hf9 HS6.out | exact s6_after (Fr.alloc hz _) HS6.out | exact s6_after (Fr.alloc hf9 _) HS6.out | exact s6_after (Fr.put3 hf9 wz.heap.size (Nat.le_refl _) _ _ _) HS6.out | exact s6_after (Fr.put3 (Fr.alloc hf9 _) w3.heap.size hsz9 _ _ _) HS6.out) (first
      | (go_at_call 82; refine (HCon.out _ _ (HF.out.trans (FW.out.trans hz)) HIs.out).mono ?_; rintro _ w3 ⟨rfl, f3⟩; have hf9 := hz.trans f3; have hsz9 := Fr.size hf9; clear f3)
      | (go_at_call 82; refine (HCon.out _ _ (HF.out.trans (FW.out.trans (Fr.alloc hz _))) (HIs.out.fr (Fr.alloc (Fr.refl _) _))).mono ?_; rintro _ w3 ⟨rfl, f3⟩; have HB9 := hideP ((HB0.out.fr f3)); have hf9 := (Fr.alloc hz _).trans f3; have p0 := HB9.out.cell 0 rfl; have p1 := HB9.out.cell 1 rfl; have p2 := HB9.out.cell 2 rfl; have p3 := HB9.out.frozen 0; have p4 := HB9.out.frozen 1; have p5 := HB9.out.frozen 2; clear f3))
     ·
      have HQ := hideP (Blk.new w3 #[.int .i64 x.k, .int .i64 x.n, .string x.s] 56)
      have hfq := Fr.alloc hf9 (.cells #[.int .i64 x.k, .int .i64 x.n, .string x.s] 56)
      clear hsz9 hf9 HB0
      generalize w3.alloc (.cells #[.int .i64 x.k, .int .i64 x.n, .string x.s] 56) = wq at *
      generalize w3.heap.size = Bq at *
      have k0 := HQ.out.cell 0 rfl
      have k1 := HQ.out.cell 1 rfl
      have k2 := HQ.out.cell 2 rfl
      have hfw := HF.out.trans (FW.out.trans hfq)
      have HLit := hideP (show IsL cdV (wq.drew.alloc (.cells #[.int .i64 x.k, .int .i64 x.n, .string x.s] 56)) (.slice (some ⟨wq.heap.size, 0, none⟩) 1 1) [x] from lit_one cdV wq.drew x 56)
      have HO3 := hideP (own_fr (own_fr (w := wr) HTk.out (FW.out.trans hfq)) (Fr.alloc (Fr.drew (Fr.refl wq)) (.cells #[.int .i64 x.k, .int .i64 x.n, .string x.s] 56)))
      have HFW := hideP hfw
      have hsz : w.heap.size ≤ wq.heap.size := hfw.size
      have HS3 := hideP (show wq.cell? ⟨Bq, 0, none⟩ = some (.int .i64 x.k) ∧ wq.cell? ⟨Bq, 1, none⟩ = some (.int .i64 x.n) ∧ wq.cell? ⟨Bq, 2, none⟩ = some (.string x.s) from ⟨k0, k1, k2⟩)
      have HNe := hideP (show some Bq ≠ (Value.slice none 0 0).ownBlock from by simp [Value.ownBlock] <;> omega)
      have HM3 := hideP (show 0 + [x].length ≤ maxLen from by unfold maxLen; simp <;> omega)
      have HM4 := hideP (show (0 + [x].length) * 32 ≤ 140737488355328 from by simp <;> omega)
      have HM5 := hideP (show w.heap.size ≤ (wq.drew.alloc (.cells #[.int .i64 x.k, .int .i64 x.n, .string x.s] 56)).heap.size from Nat.le_trans hsz (Fr.size (Fr.alloc (Fr.drew (Fr.refl wq)) _)))
      clear hfw HS6 hz k0 k1 k2
      go_wp2_with fail
      go_region_held3 (fun W => W.cell? ⟨Bq, 0, none⟩ = some (.int .i64 x.k) ∧ W.cell? ⟨Bq, 1, none⟩ = some (.int .i64 x.n) ∧ W.cell? ⟨Bq, 2, none⟩ = some (.string x.s)) (first | exact HS3.out | exact s3_fr (Fr.drew (Fr.refl _)) HS3.out | exact s3_fr (Fr.alloc (Fr.drew (Fr.refl _)) _) HS3.out | exact s3_grown (Fr.alloc (Fr.drew (Fr.refl _)) _) gr2 HNe.out HS3.out) (first
       | (refine step_append_L cdV rfl _ _ 31 56 i0 _ 32 rfl Tryz.underlying31 hi0 hz0 hz1 hz2 rfl w.heap.size _ 0 _ rfl HO3.out (.slice (some ⟨wq.heap.size, 0, none⟩) 1 1) [x] rfl HLit.out HM3.out HM4.out HM5.out ?_; intro v2 wB own2 gr2))
      have HN2 := hideP (show wB.ownsRow w.heap.size 56 3 v2 (free.take 0 ++ [x]).length (flat cdV (free.take 0 ++ [x])) from by
       have e9 : (free.take 0 ++ [x]).length = 0 + 1 := by rw [List.length_append, List.length_take, HL.out, Nat.zero_min]; rfl
       rw [e9]
       first | exact own2 | simpa using own2)
      have FB := hideP (show Fr w wB from Below.grown (Fr.alloc (Fr.drew HFW.out) _) gr2 (by simp; omega) (own_base HO3.out))
      clear own2 gr2
      go_wp2_with fail
      go_roundw
      case rel => exact ⟨i + 1, free.take 0 ++ [x], by go_num, by omega, HZ.out, HN2.out, FB.out, HOk.out, by rw [List.length_append, List.length_take, HL.out]; simp <;> omega⟩
      case measure => simp [intOf]; omega
     ·
      have HQ := hideP (HB9.out.put3 (.int .i64 x.k) (.int .i64 x.n) (.string x.s))
      have hfq := Fr.put3 hf9 wz.heap.size (Nat.le_refl _) (.int .i64 x.k) (.int .i64 x.n) (.string x.s)
      clear hf9 HB9 p3 p4 p5 HB0
      simp only [put3] at HQ hfq
      generalize ((w3.setCell ⟨wz.heap.size, 0, none⟩ (.int .i64 x.k)).setCell ⟨wz.heap.size, 1, none⟩ (.int .i64 x.n)).setCell ⟨wz.heap.size, 2, none⟩ (.string x.s) = wq at *
      generalize wz.heap.size = Bq at *
      have k0 := HQ.out.cell 0 rfl
      have k1 := HQ.out.cell 1 rfl
      have k2 := HQ.out.cell 2 rfl
      have hfw := HF.out.trans (FW.out.trans hfq)
      have HLit := hideP (show IsL cdV (wq.drew.alloc (.cells #[.int .i64 x.k, .int .i64 x.n, .string x.s] 56)) (.slice (some ⟨wq.heap.size, 0, none⟩) 1 1) [x] from lit_one cdV wq.drew x 56)
      have HO3 := hideP (own_fr (own_fr (w := wr) HTk.out (FW.out.trans hfq)) (Fr.alloc (Fr.drew (Fr.refl wq)) (.cells #[.int .i64 x.k, .int .i64 x.n, .string x.s] 56)))
      have HFW := hideP hfw
      have hsz : w.heap.size ≤ wq.heap.size := hfw.size
      have HS3 := hideP (show wq.cell? ⟨Bq, 0, none⟩ = some (.int .i64 x.k) ∧ wq.cell? ⟨Bq, 1, none⟩ = some (.int .i64 x.n) ∧ wq.cell? ⟨Bq, 2, none⟩ = some (.string x.s) from ⟨k0, k1, k2⟩)
      have HNe := hideP (show some Bq ≠ (Value.slice none 0 0).ownBlock from by simp [Value.ownBlock] <;> omega)
      have HM3 := hideP (show 0 + [x].length ≤ maxLen from by unfold maxLen; simp <;> omega)
      have HM4 := hideP (show (0 + [x].length) * 32 ≤ 140737488355328 from by simp <;> omega)
      have HM5 := hideP (show w.heap.size ≤ (wq.drew.alloc (.cells #[.int .i64 x.k, .int .i64 x.n, .string x.s] 56)).heap.size from Nat.le_trans hsz (Fr.size (Fr.alloc (Fr.drew (Fr.refl wq)) _)))
      clear hfw HS6 hz k0 k1 k2
      go_wp2_with fail
      go_region_held3 (fun W => W.cell? ⟨Bq, 0, none⟩ = some (.int .i64 x.k) ∧ W.cell? ⟨Bq, 1, none⟩ = some (.int .i64 x.n) ∧ W.cell? ⟨Bq, 2, none⟩ = some (.string x.s)) (first | exact HS3.out | exact s3_fr (Fr.drew (Fr.refl _)) HS3.out | exact s3_fr (Fr.alloc (Fr.drew (Fr.refl _)) _) HS3.out | exact s3_grown (Fr.alloc (Fr.drew (Fr.refl _)) _) gr2 HNe.out HS3.out) (first
       | (refine step_append_L cdV rfl _ _ 31 56 i0 _ 32 rfl Tryz.underlying31 hi0 hz0 hz1 hz2 rfl w.heap.size _ 0 _ rfl HO3.out (.slice (some ⟨wq.heap.size, 0, none⟩) 1 1) [x] rfl HLit.out HM3.out HM4.out HM5.out ?_; intro v2 wB own2 gr2))
      have HN2 := hideP (show wB.ownsRow w.heap.size 56 3 v2 (free.take 0 ++ [x]).length (flat cdV (free.take 0 ++ [x])) from by
       have e9 : (free.take 0 ++ [x]).length = 0 + 1 := by rw [List.length_append, List.length_take, HL.out, Nat.zero_min]; rfl
       rw [e9]
       first | exact own2 | simpa using own2)
      have FB := hideP (show Fr w wB from Below.grown (Fr.alloc (Fr.drew HFW.out) _) gr2 (by simp; omega) (own_base HO3.out))
      clear own2 gr2
      go_wp2_with fail
      go_roundw
      case rel => exact ⟨i + 1, free.take 0 ++ [x], by go_num, by omega, HZ.out, HN2.out, FB.out, HOk.out, by rw [List.length_append, List.length_take, HL.out]; simp <;> omega⟩
      case measure => simp [intOf]; omega
    ·
     have hFc : (F : Int) ≤ (fc : Int) := by omega
     have hLc' : (L : Int) ≤ (fc : Int) := by omega
     have HIs := hideP (show IsL cdV wz.drew (.slice (if fc = F then some ⟨g, 0, none⟩ else some ⟨g, F * 3, none⟩) (L - F) (fc - F)) kl from by
      rw [← HKl.out]
      refine isL_drop (own_fr HO.out (FW.out.trans hz)) HL.out.symm hFL ?_
      by_cases h : fc = F
      · left; omega
      · right; exact ⟨g, rfl, by rw [if_neg h]; first | rfl | (show some (⟨g, F, none⟩ : Addr) = some ⟨g, F * 1, none⟩; rw [Nat.mul_one])⟩)
     go_region_held3 (fun W => W.cell? ⟨wr.heap.size, 0, none⟩ = some (.int .i64 op) ∧ W.cell? ⟨wr.heap.size, 1, none⟩ = some (.int .i64 kids) ∧ W.cell? ⟨wr.heap.size, 2, none⟩ = some (.int .i64 vk) ∧ W.cell? ⟨wr.heap.size, 3, none⟩ = some (.int .i64 vn) ∧ W.cell? ⟨wr.heap.size, 4, none⟩ = some (.string vs) ∧ W.cell? ⟨wr.heap.size, 5, none⟩ = some (.string nm)) (first | exact HS6.out | exact s6_after hz HS6.out | exact s6_after hf9 HS6.out | exact s6_after (Fr.alloc hz _) HS6.out | exact s6_after (Fr.alloc hf9 _) HS6.out | exact s6_after (Fr.put3 hf9 wz.heap.size (Nat.le_refl _) _ _ _) HS6.out | exact s6_after (Fr.put3 (Fr.alloc hf9 _) w3.heap.size hsz9 _ _ _) HS6.out) (first
      | (go_at_call 82; refine (HCon.out _ _ (HF.out.trans (FW.out.trans hz)) HIs.out).mono ?_; generalize (if fc = F then (some ⟨g, 0, none⟩ : Option Addr) else some ⟨g, F * 3, none⟩) = A9; rintro _ w3 ⟨rfl, f3⟩; have hf9 := hz.trans f3; have hsz9 := Fr.size hf9; clear f3)
      | (go_at_call 82; refine (HCon.out _ _ (HF.out.trans (FW.out.trans (Fr.alloc hz _))) (HIs.out.fr (Fr.alloc (Fr.refl _) _))).mono ?_; generalize (if fc = F then (some ⟨g, 0, none⟩ : Option Addr) else some ⟨g, F * 3, none⟩) = A9; rintro _ w3 ⟨rfl, f3⟩; have HB9 := hideP ((HB0.out.fr f3)); have hf9 := (Fr.alloc hz _).trans f3; have p0 := HB9.out.cell 0 rfl; have p1 := HB9.out.cell 1 rfl; have p2 := HB9.out.cell 2 rfl; have p3 := HB9.out.frozen 0; have p4 := HB9.out.frozen 1; have p5 := HB9.out.frozen 2; clear f3))
     ·
      have HQ := hideP (Blk.new w3 #[.int .i64 x.k, .int .i64 x.n, .string x.s] 56)
      have hfq := Fr.alloc hf9 (.cells #[.int .i64 x.k, .int .i64 x.n, .string x.s] 56)
      have hgq := Nat.lt_of_lt_of_le hgz hsz9
      clear hsz9 hf9 HB0
      generalize w3.alloc (.cells #[.int .i64 x.k, .int .i64 x.n, .string x.s] 56) = wq at *
      generalize w3.heap.size = Bq at *
      have k0 := HQ.out.cell 0 rfl
      have k1 := HQ.out.cell 1 rfl
      have k2 := HQ.out.cell 2 rfl
      have hfw := HF.out.trans (FW.out.trans hfq)
      have HLit := hideP (show IsL cdV (wq.drew.alloc (.cells #[.int .i64 x.k, .int .i64 x.n, .string x.s] 56)) (.slice (some ⟨wq.heap.size, 0, none⟩) 1 1) [x] from lit_one cdV wq.drew x 56)
      have HO3 := hideP (own_fr (own_fr (w := wr) HTk.out (FW.out.trans hfq)) (Fr.alloc (Fr.drew (Fr.refl wq)) (.cells #[.int .i64 x.k, .int .i64 x.n, .string x.s] 56)))
      have HFW := hideP hfw
      have hsz : w.heap.size ≤ wq.heap.size := hfw.size
      have HS3 := hideP (show wq.cell? ⟨Bq, 0, none⟩ = some (.int .i64 x.k) ∧ wq.cell? ⟨Bq, 1, none⟩ = some (.int .i64 x.n) ∧ wq.cell? ⟨Bq, 2, none⟩ = some (.string x.s) from ⟨k0, k1, k2⟩)
      have HNe := hideP (show some Bq ≠ (Value.slice (some ⟨g, 0, none⟩) F fc).ownBlock from by simp [Value.ownBlock] <;> omega)
      have HM3 := hideP (show F + [x].length ≤ maxLen from by unfold maxLen; simp <;> omega)
      have HM4 := hideP (show (F + [x].length) * 32 ≤ 140737488355328 from by simp <;> omega)
      have HM5 := hideP (show w.heap.size ≤ (wq.drew.alloc (.cells #[.int .i64 x.k, .int .i64 x.n, .string x.s] 56)).heap.size from Nat.le_trans hsz (Fr.size (Fr.alloc (Fr.drew (Fr.refl wq)) _)))
      clear hfw HS6 hz k0 k1 k2
      go_wp2_with fail
      go_region_held3 (fun W => W.cell? ⟨Bq, 0, none⟩ = some (.int .i64 x.k) ∧ W.cell? ⟨Bq, 1, none⟩ = some (.int .i64 x.n) ∧ W.cell? ⟨Bq, 2, none⟩ = some (.string x.s)) (first | exact HS3.out | exact s3_fr (Fr.drew (Fr.refl _)) HS3.out | exact s3_fr (Fr.alloc (Fr.drew (Fr.refl _)) _) HS3.out | exact s3_grown (Fr.alloc (Fr.drew (Fr.refl _)) _) gr2 HNe.out HS3.out) (first
       | (refine step_append_L cdV rfl _ _ 31 56 i0 _ 32 rfl Tryz.underlying31 hi0 hz0 hz1 hz2 rfl w.heap.size _ F _ rfl HO3.out (.slice (some ⟨wq.heap.size, 0, none⟩) 1 1) [x] rfl HLit.out HM3.out HM4.out HM5.out ?_; intro v2 wB own2 gr2))
      have HN2 := hideP (show wB.ownsRow w.heap.size 56 3 v2 (free.take F ++ [x]).length (flat cdV (free.take F ++ [x])) from by
       have e9 : (free.take F ++ [x]).length = F + 1 := by rw [List.length_append, List.length_take, HL.out, Nat.min_eq_left hFL]; rfl
       rw [e9]
       first | exact own2 | simpa using own2)
      have FB := hideP (show Fr w wB from Below.grown (Fr.alloc (Fr.drew HFW.out) _) gr2 (by simp; omega) (own_base HO3.out))
      clear own2 gr2
      go_wp2_with fail
      go_roundw
      case rel => exact ⟨i + 1, free.take F ++ [x], by go_num, by omega, HZ.out, HN2.out, FB.out, HOk.out, by rw [List.length_append, List.length_take, HL.out]; simp <;> omega⟩
      case measure => simp [intOf]; omega
     ·
      have HQ := hideP (HB9.out.put3 (.int .i64 x.k) (.int .i64 x.n) (.string x.s))
      have hfq := Fr.put3 hf9 wz.heap.size (Nat.le_refl _) (.int .i64 x.k) (.int .i64 x.n) (.string x.s)
      have hgq := hgz
      clear hf9 HB9 p3 p4 p5 HB0
      simp only [put3] at HQ hfq
      generalize ((w3.setCell ⟨wz.heap.size, 0, none⟩ (.int .i64 x.k)).setCell ⟨wz.heap.size, 1, none⟩ (.int .i64 x.n)).setCell ⟨wz.heap.size, 2, none⟩ (.string x.s) = wq at *
      generalize wz.heap.size = Bq at *
      have k0 := HQ.out.cell 0 rfl
      have k1 := HQ.out.cell 1 rfl
      have k2 := HQ.out.cell 2 rfl
      have hfw := HF.out.trans (FW.out.trans hfq)
      have HLit := hideP (show IsL cdV (wq.drew.alloc (.cells #[.int .i64 x.k, .int .i64 x.n, .string x.s] 56)) (.slice (some ⟨wq.heap.size, 0, none⟩) 1 1) [x] from lit_one cdV wq.drew x 56)
      have HO3 := hideP (own_fr (own_fr (w := wr) HTk.out (FW.out.trans hfq)) (Fr.alloc (Fr.drew (Fr.refl wq)) (.cells #[.int .i64 x.k, .int .i64 x.n, .string x.s] 56)))
      have HFW := hideP hfw
      have hsz : w.heap.size ≤ wq.heap.size := hfw.size
      have HS3 := hideP (show wq.cell? ⟨Bq, 0, none⟩ = some (.int .i64 x.k) ∧ wq.cell? ⟨Bq, 1, none⟩ = some (.int .i64 x.n) ∧ wq.cell? ⟨Bq, 2, none⟩ = some (.string x.s) from ⟨k0, k1, k2⟩)
      have HNe := hideP (show some Bq ≠ (Value.slice (some ⟨g, 0, none⟩) F fc).ownBlock from by simp [Value.ownBlock] <;> omega)
      have HM3 := hideP (show F + [x].length ≤ maxLen from by unfold maxLen; simp <;> omega)
      have HM4 := hideP (show (F + [x].length) * 32 ≤ 140737488355328 from by simp <;> omega)
      have HM5 := hideP (show w.heap.size ≤ (wq.drew.alloc (.cells #[.int .i64 x.k, .int .i64 x.n, .string x.s] 56)).heap.size from Nat.le_trans hsz (Fr.size (Fr.alloc (Fr.drew (Fr.refl wq)) _)))
      clear hfw HS6 hz k0 k1 k2
      go_wp2_with fail
      go_region_held3 (fun W => W.cell? ⟨Bq, 0, none⟩ = some (.int .i64 x.k) ∧ W.cell? ⟨Bq, 1, none⟩ = some (.int .i64 x.n) ∧ W.cell? ⟨Bq, 2, none⟩ = some (.string x.s)) (first | exact HS3.out | exact s3_fr (Fr.drew (Fr.refl _)) HS3.out | exact s3_fr (Fr.alloc (Fr.drew (Fr.refl _)) _) HS3.out | exact s3_grown (Fr.alloc (Fr.drew (Fr.refl _)) _) gr2 HNe.out HS3.out) (first
       | (refine step_append_L cdV rfl _ _ 31 56 i0 _ 32 rfl Tryz.underlying31 hi0 hz0 hz1 hz2 rfl w.heap.size _ F _ rfl HO3.out (.slice (some ⟨wq.heap.size, 0, none⟩) 1 1) [x] rfl HLit.out HM3.out HM4.out HM5.out ?_; intro v2 wB own2 gr2))
      have HN2 := hideP (show wB.ownsRow w.heap.size 56 3 v2 (free.take F ++ [x]).length (flat cdV (free.take F ++ [x])) from by
       have e9 : (free.take F ++ [x]).length = F + 1 := by rw [List.length_append, List.length_take, HL.out, Nat.min_eq_left hFL]; rfl
       rw [e9]
       first | exact own2 | simpa using own2)
      have FB := hideP (show Fr w wB from Below.grown (Fr.alloc (Fr.drew HFW.out) _) gr2 (by simp; omega) (own_base HO3.out))
      clear own2 gr2
      go_wp2_with fail
      go_roundw
      case rel => exact ⟨i + 1, free.take F ++ [x], by go_num, by omega, HZ.out, HN2.out, FB.out, HOk.out, by rw [List.length_append, List.length_take, HL.out]; simp <;> omega⟩
      case measure => simp [intOf]; omega
  ·
   obtain rfl : i = e.length := by omega
   have hlt' : ((e.length : Int) < (e.length : Int)) = False := by simp
   have HZ : Hid (EX.up (EV.wo f) e [] = .ok free) := by
    unfold Hid
    rw [HA.out, List.drop_length]
    rfl
   go_wp2_with fail
   go_ret2
   refine ⟨.inl ⟨free, _, HZ.out, rfl, ?_⟩, HF.out⟩
   rw [HL.out]
   exact HO.out
end Go.Proofs.YtbcfdhimngoplaaGreatDoor
