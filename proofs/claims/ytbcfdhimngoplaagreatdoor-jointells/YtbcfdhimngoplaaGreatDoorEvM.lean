/-
  What Eval of package eval answers.
-/
import Derived.Test.YtbcfdhimngoplaaGreatDoorEvL
import Derived.Test.YtbcfdhimngoplaaGreatDoorExP
namespace Go.Proofs.YtbcfdhimngoplaaGreatDoor
open Go.ChangeShapes Go.WideShapes Go.ChangeAt Go.RowKit
set_option linter.unusedVariables false
set_option linter.unusedSimpArgs false
set_option maxRecDepth 100000
set_option maxHeartbeats 2000000
namespace EV
def ev (e : List EX.Nd) (cs : List ByteArray) (l : List VM.Vl) : Except Nat VM.Vl := if EX.ck e ≠ 0 then .error (EX.ck e) else if coE cs l ≠ 0 then .error (coE cs l) else
 match EX.up (wo (fnd (cs.zip l))) e [] with
 | .error c => .error c
 | .ok out => .ok (out.headD EX.nul)
theorem fnd_mem {ps : List (ByteArray × VM.Vl)} {s : List UInt8} {y : VM.Vl} (h : fnd ps s = some y) : ∃ c, (c, y) ∈ ps := by
 unfold fnd at h
 cases hf : ps.find? (fun p => decide (p.1.data.toList = s)) with
 | none => rw [hf] at h; cases h
 | some p =>
  rw [hf] at h
  cases h
  exact ⟨p.1, List.mem_of_find?_eq_some hf⟩
theorem fnd_gd {cs : List ByteArray} {l : List VM.Vl} (h : ∀ x ∈ l, gd x) (s : List UInt8) (y : VM.Vl) (hy : fnd (cs.zip l) s = some y) : gd y := by
 obtain ⟨c, hc⟩ := fnd_mem hy
 exact h y (List.of_mem_zip hc).2
end EV
namespace EX
theorem ck_ok {e : List Nd} (h : ck e = 0) : e.length ≤ 60 ∧ e ≠ [] ∧ ∃ ds, up dOf e [] = .ok ds := by
 unfold ck at h
 split at h
 ·
  rename_i c hc
  exact absurd h (dep_ne hc)
 ·
  rename_i y hy
  unfold dep at hy
  split at hy
  · cases hy
  split at hy
  · cases hy
  split at hy
  · cases hy
  ·
   rename_i h1 h2 _ ds hds
   exact ⟨by omega, fun h => h2 (by rw [h]; rfl), ds, hds⟩
end EX
theorem eval_any (va ua ra : Value) (e : List EX.Nd) (cs : List ByteArray) (l : List VM.Vl) (w : World) (he : IsL cdN w va e) (hu : IsL cdB w ua cs) (hv : IsL cdV w ra l) (hn : ∀ n ∈ e, n.nm.size ≤ 140737488355327) (hl : e.length ≤ 9223372036854775806)
  (hs : ∀ c ∈ cs, c.size ≤ 140737488355327) (hTn : Tn w) (hT : Tb w) (hgn : ∀ n ∈ e, EV.gd n.v) (hgl : ∀ x ∈ l, EV.gd x) :
  Calls Tryz.prog 61 #[va, ua, ra] w fun r w' => r = .returned (exV (EV.ev e cs l)) ∧ Fr w w' := by
 have HK : Hid (EV.ev e cs l = if EX.ck e ≠ 0 then .error (EX.ck e) else if EV.coE cs l ≠ 0 then .error (EV.coE cs l) else
  match EX.up (EV.wo (EV.fnd (cs.zip l))) e [] with
  | .error c => .error c
  | .ok out => .ok (out.headD EX.nul)) := rfl
 have HC := hideP (fun W (g : Fr w W) => xcheck_any va e W (he.fr g) hn hl)
 have HCo := hideP (fun W (g : Fr w W) => columnsOf_any ua ra cs l W (hu.fr g) (hv.fr g) hs)
 have HUp := hideP (fun W (g : Fr w W) b n ds (hm : Mp W b n (EV.fnd (cs.zip l))) (h6 : e.length ≤ 1000) (hd : EX.up EX.dOf e [] = .ok ds) => upV_any va e W (he.fr g) hn h6 b n (EV.fnd (cs.zip l)) ds hm (hTn.fr g) (hT.fr g) (EV.fnd_gd hgl) hgn hd)
 have HOk := hideP (@EX.ck_ok e)
 have HPos := hideP (fun out (h : EX.up (EV.wo (EV.fnd (cs.zip l))) e [] = .ok out) (h0 : e ≠ []) => EX.up_pos e [] out h (.inl h0))
 obtain ⟨a1, n1, c1, rfl⟩ : ∃ a n c, va = .slice a n c := by obtain ⟨a, c, h, _⟩ := he; exact ⟨a, _, c, h⟩
 obtain ⟨a2, n2, c2, rfl⟩ : ∃ a n c, ua = .slice a n c := by obtain ⟨a, c, h, _⟩ := hu; exact ⟨a, _, c, h⟩
 obtain ⟨a3, n3, c3, rfl⟩ : ∃ a n c, ra = .slice a n c := by obtain ⟨a, c, h, _⟩ := hv; exact ⟨a, _, c, h⟩
 have HR0 := hideP (Blk.new w #[.int .i64 0, .int .i64 0, .string ⟨#[]⟩] 56)
 have F0 := hideP ((Fr.refl w).alloc (.cells #[.int .i64 0, .int .i64 0, .string ⟨#[]⟩] 56))
 clear he hu hv hn hl hs hTn hT hgn hgl
 unfold UpVAns CoAns at *
 generalize EV.ev e cs l = R at *
 generalize EV.coE cs l = co at *
 generalize EV.fnd (cs.zip l) = f at *
 generalize EX.ck e = ck at *
 by_cases h0 : ck = 0
 ·
  subst h0
  replace HK := hideP (HK.out.trans (if_neg (by simp)))
  obtain ⟨h60, hnil, ds, hds⟩ := HOk.out rfl
  have HNil := hideP hnil
  have HDs := hideP hds
  clear hnil hds
  go_enter Tryz.func61, Tryz.ntmps61
  go_wp2_with fail
  refine (HC.out _ F0.out).mono ?_
  rintro _ w1 ⟨rfl, f1⟩
  have F1 := hideP (F0.out.trans f1)
  have HR1 := hideP (HR0.out.fr f1)
  clear f1
  go_wp2_with fail
  refine (HCo.out _ F1.out).mono ?_
  rintro _ w2 ⟨hco | hco, f2⟩
  ·
   obtain ⟨rfl, b, n, rfl, hm, hb⟩ := hco
   replace HK := hideP (HK.out.trans (if_neg (by simp)))
   have F2 := hideP (F1.out.trans f2)
   have HR2 := hideP (HR1.out.fr f2)
   have HCall := hideP (HUp.out _ F2.out b n ds hm (by omega) HDs.out)
   clear f2 hm hb
   go_wp2_with fail
   refine HCall.out.mono ?_
   rintro _ w3 ⟨hup | hup, f3⟩
   ·
    obtain ⟨out, u, hout, rfl, hown⟩ := hup
    obtain ⟨fa, fc, rfl⟩ := own_slice hown
    have hpos := HPos.out out hout HNil.out
    have F3 := hideP (F2.out.trans f3)
    have HR3 := HR2.out.fr f3
    rw [hout] at HK
    obtain ⟨a, cap, h, hcap, hcs⟩ := isL_own hown
    obtain ⟨b5, o5, rfl, hb5, hc5⟩ : ∃ b o, a = some ⟨b, o, none⟩ ∧ b < w3.heap.size ∧ At cdV w3 b o out := by
     rcases hcs with h | h
     · exact absurd h hpos
     · exact h
    cases h
    obtain ⟨x, r, rfl⟩ : ∃ x r, out = x :: r := by
     cases out with
     | nil => exact absurd rfl hpos
     | cons x r => exact ⟨x, r, rfl⟩
    obtain ⟨q0, q1, q2⟩ := hc5.v3 0 (by simp)
    simp only [List.getElem_cons_zero, Nat.zero_mul, Nat.add_zero] at q0 q1 q2
    have HB3 := hideP HR3
    have v0 := HR3.cell 0 rfl
    have v1 := HR3.cell 1 rfl
    have v2 := HR3.cell 2 rfl
    have y0 := HR3.frozen 0
    have y1 := HR3.frozen 1
    have y2 := HR3.frozen 2
    have HKx := hideP (show R = .ok x from HK.out)
    clear hout hown hpos hcs hc5 HR3 HK f3
    have hlp : (0 : Int) < ((x :: r).length : Int) := by simp <;> omega
    generalize (x :: r).length = m5 at *
    go_wp2_with fail
    refine bodyPost_ret (v := .tuple #[.agg #[(.int .i64 x.k), (.int .i64 x.n), (.string x.s)], .int .i64 0]) ?_ rfl ⟨by rw [HKx.out]; rfl, F3.out.put3 w.heap.size (Nat.le_refl _) _ _ _⟩
    obtain ⟨r0, r1, r2⟩ : (put3 w3 w.heap.size (.int .i64 x.k) (.int .i64 x.n) (.string x.s)).cell? ⟨w.heap.size, 0, none⟩ = _ ∧ (put3 w3 w.heap.size (.int .i64 x.k) (.int .i64 x.n) (.string x.s)).cell? ⟨w.heap.size, 1, none⟩ = _ ∧ (put3 w3 w.heap.size (.int .i64 x.k) (.int .i64 x.n) (.string x.s)).cell? ⟨w.heap.size, 2, none⟩ = _ := ⟨(HB3.out.put3 _ _ _).cell 0 rfl, (HB3.out.put3 _ _ _).cell 1 rfl, (HB3.out.put3 _ _ _).cell 2 rfl⟩
    change (results Tryz.f61 _).run Tryz.prog (put3 w3 _ _ _ _) = .ok _ (put3 w3 _ _ _ _)
    simp [results, Tryz.results61, go_sem, r0, r1, r2]
   ·
    obtain ⟨c, hc, hc0, rfl⟩ := hup
    have F3 := hideP (F2.out.trans f3)
    have HR3 := HR2.out.fr f3
    have HB3 := hideP HR3
    have v0 := HR3.cell 0 rfl
    have v1 := HR3.cell 1 rfl
    have v2 := HR3.cell 2 rfl
    have y0 := HR3.frozen 0
    have y1 := HR3.frozen 1
    have y2 := HR3.frozen 2
    have HKx := hideP (show R = .error c from by rw [HK.out, hc])
    have e1 : ((c : Int) != 0) = true := by simp; omega
    have e2 : ¬ ((c : Int) = 0) := by omega
    clear hc HR3 HK f3
    go_wp2_with fail
    refine bodyPost_ret (v := .tuple #[.agg #[(.int .i64 0), (.int .i64 0), (.string ⟨#[]⟩)], .int .i64 (c : Int)]) ?_ rfl ⟨by rw [HKx.out]; rfl, F3.out.put3 w.heap.size (Nat.le_refl _) _ _ _⟩
    obtain ⟨r0, r1, r2⟩ : (put3 w3 w.heap.size (.int .i64 0) (.int .i64 0) (.string ⟨#[]⟩)).cell? ⟨w.heap.size, 0, none⟩ = _ ∧ (put3 w3 w.heap.size (.int .i64 0) (.int .i64 0) (.string ⟨#[]⟩)).cell? ⟨w.heap.size, 1, none⟩ = _ ∧ (put3 w3 w.heap.size (.int .i64 0) (.int .i64 0) (.string ⟨#[]⟩)).cell? ⟨w.heap.size, 2, none⟩ = _ := ⟨(HB3.out.put3 _ _ _).cell 0 rfl, (HB3.out.put3 _ _ _).cell 1 rfl, (HB3.out.put3 _ _ _).cell 2 rfl⟩
    change (results Tryz.f61 _).run Tryz.prog (put3 w3 _ _ _ _) = .ok _ (put3 w3 _ _ _ _)
    simp [results, Tryz.results61, go_sem, r0, r1, r2]
  ·
   obtain ⟨hc0, rfl⟩ := hco
   replace HK := hideP (HK.out.trans (if_pos hc0))
   have F2 := hideP (F1.out.trans f2)
   have HR2 := HR1.out.fr f2
   have HB2 := hideP HR2
   have v0 := HR2.cell 0 rfl
   have v1 := HR2.cell 1 rfl
   have v2 := HR2.cell 2 rfl
   have y0 := HR2.frozen 0
   have y1 := HR2.frozen 1
   have y2 := HR2.frozen 2
   have e1 : ((co : Int) != 0) = true := by simp; omega
   have e2 : ¬ ((co : Int) = 0) := by omega
   clear HR2 f2
   go_wp2_with fail
   refine bodyPost_ret (v := .tuple #[.agg #[(.int .i64 0), (.int .i64 0), (.string ⟨#[]⟩)], .int .i64 (co : Int)]) ?_ rfl ⟨by rw [HK.out]; rfl, F2.out.put3 w.heap.size (Nat.le_refl _) _ _ _⟩
   obtain ⟨r0, r1, r2⟩ : (put3 w2 w.heap.size (.int .i64 0) (.int .i64 0) (.string ⟨#[]⟩)).cell? ⟨w.heap.size, 0, none⟩ = _ ∧ (put3 w2 w.heap.size (.int .i64 0) (.int .i64 0) (.string ⟨#[]⟩)).cell? ⟨w.heap.size, 1, none⟩ = _ ∧ (put3 w2 w.heap.size (.int .i64 0) (.int .i64 0) (.string ⟨#[]⟩)).cell? ⟨w.heap.size, 2, none⟩ = _ := ⟨(HB2.out.put3 _ _ _).cell 0 rfl, (HB2.out.put3 _ _ _).cell 1 rfl, (HB2.out.put3 _ _ _).cell 2 rfl⟩
   change (results Tryz.f61 _).run Tryz.prog (put3 w2 _ _ _ _) = .ok _ (put3 w2 _ _ _ _)
   simp [results, Tryz.results61, go_sem, r0, r1, r2]
 ·
  replace HK := hideP (HK.out.trans (if_pos h0))
  have e1 : ((ck : Int) != 0) = true := by simp; omega
  have e2 : ¬ ((ck : Int) = 0) := by omega
  go_enter Tryz.func61, Tryz.ntmps61
  go_wp2_with fail
  refine (HC.out _ F0.out).mono ?_
  rintro _ w1 ⟨rfl, f1⟩
  have F1 := hideP (F0.out.trans f1)
  have HR1 := HR0.out.fr f1
  have HB1 := hideP HR1
  have v0 := HR1.cell 0 rfl
  have v1 := HR1.cell 1 rfl
  have v2 := HR1.cell 2 rfl
  have y0 := HR1.frozen 0
  have y1 := HR1.frozen 1
  have y2 := HR1.frozen 2
  clear f1 HR1
  go_wp2_with fail
  refine bodyPost_ret (v := .tuple #[.agg #[(.int .i64 0), (.int .i64 0), (.string ⟨#[]⟩)], .int .i64 (ck : Int)]) ?_ rfl ⟨by rw [HK.out]; rfl, F1.out.put3 w.heap.size (Nat.le_refl _) _ _ _⟩
  obtain ⟨r0, r1, r2⟩ : (put3 w1 w.heap.size (.int .i64 0) (.int .i64 0) (.string ⟨#[]⟩)).cell? ⟨w.heap.size, 0, none⟩ = _ ∧ (put3 w1 w.heap.size (.int .i64 0) (.int .i64 0) (.string ⟨#[]⟩)).cell? ⟨w.heap.size, 1, none⟩ = _ ∧ (put3 w1 w.heap.size (.int .i64 0) (.int .i64 0) (.string ⟨#[]⟩)).cell? ⟨w.heap.size, 2, none⟩ = _ := ⟨(HB1.out.put3 _ _ _).cell 0 rfl, (HB1.out.put3 _ _ _).cell 1 rfl, (HB1.out.put3 _ _ _).cell 2 rfl⟩
  change (results Tryz.f61 _).run Tryz.prog (put3 w1 _ _ _ _) = .ok _ (put3 w1 _ _ _ _)
  simp [results, Tryz.results61, go_sem, r0, r1, r2]
end Go.Proofs.YtbcfdhimngoplaaGreatDoor
