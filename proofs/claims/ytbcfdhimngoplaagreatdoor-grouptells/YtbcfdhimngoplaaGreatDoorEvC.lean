/-
  What reckoned of package eval answers.
-/
import Derived.Test.YtbcfdhimngoplaaGreatDoorEvB
namespace Go.Proofs.YtbcfdhimngoplaaGreatDoor
open Go.ChangeShapes Go.WideShapes Go.ChangeAt Go.RowKit
set_option linter.unusedVariables false
set_option linter.unusedSimpArgs false
set_option maxRecDepth 100000
set_option maxHeartbeats 2000000
namespace EV
open VM
def rck (op : Int) (l : List Vl) : Except Nat Vl := if l.any isT = true then .error 7 else if l.any EX.isNul = true then .ok EX.nul else
 match num op (l.headD EX.nul).n (l.getLastD EX.nul).n with
 | .error c => .error c
 | .ok n => .ok ⟨1, n, ⟨#[]⟩⟩
theorem num_ne {op a b : Int} {c : Nat} (h : num op a b = .error c) : c ≠ 0 := by
 have hov : ∀ (x : Int) (c : Nat), ov x = .error c → c ≠ 0 := by
  intro x c h
  unfold ov at h
  split at h
  · cases h
  · cases h; decide
 unfold num at h
 split at h
 · exact hov _ _ h
 split at h
 · exact hov _ _ h
 split at h
 · exact hov _ _ h
 split at h
 · exact hov _ _ h
 split at h
 ·
  split at h
  · cases h; decide
  · exact hov _ _ h
 ·
  split at h
  · cases h; decide
  · cases h
end EV
theorem s2_after {w w' : World} {a b : Addr} {u v : Value} (f : Fr w w') (h : w.cell? a = some u ∧ w.cell? b = some v) : w'.cell? a = some u ∧ w'.cell? b = some v :=
 ⟨(Below.cell f (World.block_lt_of_cell? _ _ h.1)).trans h.1, (Below.cell f (World.block_lt_of_cell? _ _ h.2)).trans h.2⟩
theorem reckoned_any (op : Int) (v : Value) (l : List VM.Vl) (w : World) (h : IsL cdV w v l) (hp : 0 < l.length) (hl : l.length ≤ 1000000) (hb : ∀ x ∈ l, WH.Ok x.n) :
  Calls Tryz.prog 96 #[.int .i64 op, v] w fun e w' => e = .returned (exV (EV.rck op l)) ∧ Fr w w' := by
 have HK : Hid (EV.rck op l = if l.any EV.isT = true then .error 7 else if l.any EX.isNul = true then .ok EX.nul else
  match EV.num op (l.headD EX.nul).n (l.getLastD EX.nul).n with
  | .error c => .error c
  | .ok n => .ok ⟨1, n, ⟨#[]⟩⟩) := rfl
 have HCF := hideP (fun W (f : Fr w W) => contF_any v l W (h.fr f) hl)
 have HCN := hideP (fun W (f : Fr w W) => cont_any v l W (h.fr f) hl)
 generalize EV.rck op l = R at *
 generalize l.any EV.isT = b1 at *
 generalize l.any EX.isNul = b2 at *
 have hne : EV.num op (l.headD EX.nul).n (l.getLastD EX.nul).n = EV.num op (l[0]'hp).n (l[l.length - 1]'(by omega)).n := by
  congr 1
  ·
   cases l with
   | nil => simp at hp
   | cons x r => rfl
  ·
   congr 1
   rw [List.getLastD_eq_getLast?, List.getLast?_eq_getElem?, List.getElem?_eq_getElem (by omega)]
   rfl
 have hn1 := hb (l[0]'hp) (List.getElem_mem _)
 have hn2 := hb (l[l.length - 1]'(by omega)) (List.getElem_mem _)
 have HNum := hideP (fun W => number_any op (l[0]'hp).n (l[l.length - 1]'(by omega)).n W hn1 hn2)
 have HErr := hideP (fun c (h : EV.num op (l[0]'hp).n (l[l.length - 1]'(by omega)).n = .error c) => EV.num_ne h)
 rw [hne] at HK
 obtain ⟨a, cap, rfl, hcap, hcs⟩ := h
 obtain ⟨b, o, rfl, hbb, hc⟩ : ∃ b o, a = some ⟨b, o, none⟩ ∧ b < w.heap.size ∧ At cdV w b o l := by
  rcases hcs with h | h
  · rw [h] at hp; simp at hp
  · exact h
 have HAt := hideP (fun W (f : Fr w W) => (show W.cell? ⟨b, o + 1, none⟩ = some (.int .i64 (l[0]'hp).n) ∧ W.cell? ⟨b, o + (l.length - 1) * 3 + 1, none⟩ = some (.int .i64 (l[l.length - 1]'(by omega)).n) from ⟨by have := ((hc.fr hbb f).v3 0 hp).2.1; simpa using this, ((hc.fr hbb f).v3 (l.length - 1) (by omega)).2.1⟩))
 generalize (l[0]'hp).n = n0 at *
 generalize (l[l.length - 1]'(by omega)).n = n1 at *
 generalize EV.num op n0 n1 = D at *
 obtain ⟨m, hm⟩ : ∃ m, l.length = m + 1 := ⟨l.length - 1, by omega⟩
 rw [hm] at hcap HAt HCF HCN ⊢
 simp only [Nat.add_sub_cancel] at HAt
 have hlm : m ≤ 1000000 := by omega
 have HR0 := hideP (Blk.new w #[.int .i64 0, .int .i64 0, .string ⟨#[]⟩] 56)
 have F0 := hideP ((Fr.refl w).alloc (.cells #[.int .i64 0, .int .i64 0, .string ⟨#[]⟩] 56))
 clear hne hb hn1 hn2 hcs hc hl hm hp
 cases b1 with
 | true =>
  replace HK := hideP (HK.out.trans (if_pos rfl))
  go_enter Tryz.func96, Tryz.ntmps96
  go_wp2_with fail
  refine (HCF.out _ F0.out).mono ?_
  rintro _ w1 ⟨rfl, f1⟩
  have HR := hideP (HR0.out.fr f1)
  have FW := hideP (F0.out.trans f1)
  clear f1
  have v0 := HR.out.cell 0 rfl
  have v1 := HR.out.cell 1 rfl
  have v2 := HR.out.cell 2 rfl
  have y0 := HR.out.frozen 0
  have y1 := HR.out.frozen 1
  have y2 := HR.out.frozen 2
  go_wp2_with fail
  refine bodyPost_ret (v := .tuple #[.agg #[.int .i64 0, .int .i64 0, .string ⟨#[]⟩], .int .i64 7]) ?_ rfl ⟨by rw [HK.out]; rfl, FW.out.put3 w.heap.size (Nat.le_refl _) _ _ _⟩
  obtain ⟨r0, r1, r2⟩ : (put3 w1 w.heap.size (.int .i64 0) (.int .i64 0) (.string ⟨#[]⟩)).cell? ⟨w.heap.size, 0, none⟩ = _ ∧ (put3 w1 w.heap.size (.int .i64 0) (.int .i64 0) (.string ⟨#[]⟩)).cell? ⟨w.heap.size, 1, none⟩ = _ ∧ (put3 w1 w.heap.size (.int .i64 0) (.int .i64 0) (.string ⟨#[]⟩)).cell? ⟨w.heap.size, 2, none⟩ = _ := ⟨(HR.out.put3 _ _ _).cell 0 rfl, (HR.out.put3 _ _ _).cell 1 rfl, (HR.out.put3 _ _ _).cell 2 rfl⟩
  change (results Tryz.f96 _).run Tryz.prog (put3 w1 _ _ _ _) = .ok _ (put3 w1 _ _ _ _)
  simp [results, Tryz.results96, go_sem, r0, r1, r2]
 | false =>
  replace HK := hideP (HK.out.trans (if_neg (by decide)))
  cases b2 with
  | true =>
   replace HK := hideP (HK.out.trans (if_pos rfl))
   go_enter Tryz.func96, Tryz.ntmps96
   go_wp2_with fail
   refine (HCF.out _ F0.out).mono ?_
   rintro _ w1 ⟨rfl, f1⟩
   have HR1 := hideP (HR0.out.fr f1)
   have FW1 := hideP (F0.out.trans f1)
   clear f1
   go_wp2_with fail
   refine (HCN.out _ FW1.out).mono ?_
   rintro _ w2 ⟨rfl, f2⟩
   have HR := hideP (HR1.out.fr f2)
   have FW := hideP (FW1.out.trans f2)
   clear f2
   have v0 := HR.out.cell 0 rfl
   have v1 := HR.out.cell 1 rfl
   have v2 := HR.out.cell 2 rfl
   have y0 := HR.out.frozen 0
   have y1 := HR.out.frozen 1
   have y2 := HR.out.frozen 2
   go_wp2_with fail
   refine bodyPost_ret (v := .tuple #[.agg #[.int .i64 0, .int .i64 0, .string ⟨#[]⟩], .int .i64 0]) ?_ rfl ⟨by rw [HK.out]; rfl, FW.out.put3 w.heap.size (Nat.le_refl _) _ _ _⟩
   obtain ⟨r0, r1, r2⟩ : (put3 w2 w.heap.size (.int .i64 0) (.int .i64 0) (.string ⟨#[]⟩)).cell? ⟨w.heap.size, 0, none⟩ = _ ∧ (put3 w2 w.heap.size (.int .i64 0) (.int .i64 0) (.string ⟨#[]⟩)).cell? ⟨w.heap.size, 1, none⟩ = _ ∧ (put3 w2 w.heap.size (.int .i64 0) (.int .i64 0) (.string ⟨#[]⟩)).cell? ⟨w.heap.size, 2, none⟩ = _ := ⟨(HR.out.put3 _ _ _).cell 0 rfl, (HR.out.put3 _ _ _).cell 1 rfl, (HR.out.put3 _ _ _).cell 2 rfl⟩
   change (results Tryz.f96 _).run Tryz.prog (put3 w2 _ _ _ _) = .ok _ (put3 w2 _ _ _ _)
   simp [results, Tryz.results96, go_sem, r0, r1, r2]
  | false =>
   replace HK := hideP (HK.out.trans (if_neg (by decide)))
   go_enter Tryz.func96, Tryz.ntmps96
   go_wp2_with fail
   refine (HCF.out _ F0.out).mono ?_
   rintro _ w1 ⟨rfl, f1⟩
   have HR1 := hideP (HR0.out.fr f1)
   have FW1 := hideP (F0.out.trans f1)
   clear f1
   go_wp2_with fail
   refine (HCN.out _ FW1.out).mono ?_
   rintro _ w2 ⟨rfl, f2⟩
   have HR2 := hideP (HR1.out.fr f2)
   have FW2 := hideP (FW1.out.trans f2)
   clear f2
   have hz := Fr.drew (Fr.refl w2)
   have HS2 := hideP (HAt.out w2 FW2.out)
   have hm1 : (0 : Int) < (m : Int) + 1 := by omega
   have hm2 : IntKind.i64.wrap ((m : Int) + 1 - 1) = (m : Int) := by
    simp only [IntKind.wrap]; simp [IntKind.min, IntKind.max, IntKind.signed, IntKind.bits]; omega
   have hm4 : IntKind.i64.wrap (m : Int) = (m : Int) := by
    simp only [IntKind.wrap]; simp [IntKind.min, IntKind.max, IntKind.signed, IntKind.bits]; omega
   have hm3 : (m : Int) < (m : Int) + 1 := by omega
   have hm5 : (0 : Int) ≤ (m : Int) := by omega
   cases D with
   | error c =>
    have HC := hideP (HErr.out c rfl)
    have e1 : ((c : Int) != 0) = true := by have := HC.out; simp; omega
    have e2 : ¬ ((c : Int) = 0) := by have := HC.out; omega
    simp only [exT] at HNum
    go_upto_region 5 with fail
    go_region_held3 (fun W => W.cell? ⟨b, o + 1, none⟩ = some (.int .i64 n0) ∧ W.cell? ⟨b, o + m * 3 + 1, none⟩ = some (.int .i64 n1)) (first | exact HS2.out | exact s2_after hz HS2.out) (first
     | (go_at_call 108; refine (HNum.out _).mono ?_; rintro _ w3 ⟨rfl, rfl⟩))
    all_goals (
     have HR := hideP (HR2.out.fr hz)
     have FW := hideP (FW2.out.trans hz)
     clear hz
     generalize w2.drew = w4 at *
     have v0 := HR.out.cell 0 rfl
     have v1 := HR.out.cell 1 rfl
     have v2 := HR.out.cell 2 rfl
     have y0 := HR.out.frozen 0
     have y1 := HR.out.frozen 1
     have y2 := HR.out.frozen 2
     go_wp2_with fail
     refine bodyPost_ret (v := .tuple #[.agg #[.int .i64 0, .int .i64 0, .string ⟨#[]⟩], .int .i64 (c : Int)]) ?_ rfl ⟨by rw [HK.out]; rfl, FW.out.put3 w.heap.size (Nat.le_refl _) _ _ _⟩
     obtain ⟨r0, r1, r2⟩ : (put3 w4 w.heap.size (.int .i64 0) (.int .i64 0) (.string ⟨#[]⟩)).cell? ⟨w.heap.size, 0, none⟩ = _ ∧ (put3 w4 w.heap.size (.int .i64 0) (.int .i64 0) (.string ⟨#[]⟩)).cell? ⟨w.heap.size, 1, none⟩ = _ ∧ (put3 w4 w.heap.size (.int .i64 0) (.int .i64 0) (.string ⟨#[]⟩)).cell? ⟨w.heap.size, 2, none⟩ = _ := ⟨(HR.out.put3 _ _ _).cell 0 rfl, (HR.out.put3 _ _ _).cell 1 rfl, (HR.out.put3 _ _ _).cell 2 rfl⟩
     change (results Tryz.f96 _).run Tryz.prog (put3 w4 _ _ _ _) = .ok _ (put3 w4 _ _ _ _)
     simp [results, Tryz.results96, go_sem, r0, r1, r2]
    )
   | ok x =>
    simp only [exT] at HNum
    go_upto_region 5 with fail
    go_region_held3 (fun W => W.cell? ⟨b, o + 1, none⟩ = some (.int .i64 n0) ∧ W.cell? ⟨b, o + m * 3 + 1, none⟩ = some (.int .i64 n1)) (first | exact HS2.out | exact s2_after hz HS2.out) (first
     | (go_at_call 108; refine (HNum.out _).mono ?_; rintro _ w3 ⟨rfl, rfl⟩))
    all_goals (
     have HR := hideP (HR2.out.fr hz)
     have FW := hideP (FW2.out.trans hz)
     clear hz
     generalize w2.drew = w4 at *
     have v0 := HR.out.cell 0 rfl
     have v1 := HR.out.cell 1 rfl
     have v2 := HR.out.cell 2 rfl
     have y0 := HR.out.frozen 0
     have y1 := HR.out.frozen 1
     have y2 := HR.out.frozen 2
     go_wp2_with fail
     refine bodyPost_ret (v := .tuple #[.agg #[.int .i64 1, .int .i64 x, .string ⟨#[]⟩], .int .i64 0]) ?_ rfl ⟨by rw [HK.out]; rfl, FW.out.put3 w.heap.size (Nat.le_refl _) _ _ _⟩
     obtain ⟨r0, r1, r2⟩ : (put3 w4 w.heap.size (.int .i64 1) (.int .i64 x) (.string ⟨#[]⟩)).cell? ⟨w.heap.size, 0, none⟩ = _ ∧ (put3 w4 w.heap.size (.int .i64 1) (.int .i64 x) (.string ⟨#[]⟩)).cell? ⟨w.heap.size, 1, none⟩ = _ ∧ (put3 w4 w.heap.size (.int .i64 1) (.int .i64 x) (.string ⟨#[]⟩)).cell? ⟨w.heap.size, 2, none⟩ = _ := ⟨(HR.out.put3 _ _ _).cell 0 rfl, (HR.out.put3 _ _ _).cell 1 rfl, (HR.out.put3 _ _ _).cell 2 rfl⟩
     change (results Tryz.f96 _).run Tryz.prog (put3 w4 _ _ _ _) = .ok _ (put3 w4 _ _ _ _)
     simp [results, Tryz.results96, go_sem, r0, r1, r2]
    )
end Go.Proofs.YtbcfdhimngoplaaGreatDoor
