/-
  What the document's own kidsOf and nodeCheck answer.
-/
import Derived.Test.YtjljohmflhmkmaaGreatDoorExC
import Derived.Test.YtjljohmflhmkmaaGreatDoorRfV
import Derived.Test.YtjljohmflhmkmaaGreatDoorCtQ
namespace Go.Proofs.YtjljohmflhmkmaaGreatDoor
open Go.ChangeShapes Go.WideShapes Go.ChangeAt Go.RowKit
set_option linter.unusedVariables false
set_option linter.unusedSimpArgs false
set_option maxRecDepth 100000
set_option maxHeartbeats 2000000

theorem least_cell (w : World) (op : Int) (h : 1 ≤ op ∧ op ≤ 25) (h2 : op ≠ 22) (h3 : op ≠ 23) : (w.alloc (.cells #[.int .i64 (-1), .int .i64 0, .int .i64 0, .int .i64 1, .int .i64 1, .int .i64 2, .int .i64 2, .int .i64 2, .int .i64 2, .int .i64 2, .int .i64 2, .int .i64 2, .int .i64 2, .int .i64 2, .int .i64 2, .int .i64 2, .int .i64 2, .int .i64 2, .int .i64 1, .int .i64 1, .int .i64 2, .int .i64 2, .int .i64 2, .int .i64 2, .int .i64 3, .int .i64 3] 3)).cell? ⟨w.heap.size, op.toNat, none⟩ = some (.int .i64 (EX.kl op)) ∧ EX.km op = EX.kl op := by
  have hop : op = 1 ∨ op = 2 ∨ op = 3 ∨ op = 4 ∨ op = 5 ∨ op = 6 ∨ op = 7 ∨ op = 8 ∨ op = 9 ∨ op = 10 ∨ op = 11 ∨ op = 12 ∨ op = 13 ∨ op = 14 ∨ op = 15 ∨ op = 16 ∨ op = 17 ∨ op = 18 ∨ op = 19 ∨ op = 20 ∨ op = 21 ∨ op = 24 ∨ op = 25 := by omega
  have HB := fun i (u : Value) => (Blk.new w #[.int .i64 (-1), .int .i64 0, .int .i64 0, .int .i64 1, .int .i64 1, .int .i64 2, .int .i64 2, .int .i64 2, .int .i64 2, .int .i64 2, .int .i64 2, .int .i64 2, .int .i64 2, .int .i64 2, .int .i64 2, .int .i64 2, .int .i64 2, .int .i64 2, .int .i64 1, .int .i64 1, .int .i64 2, .int .i64 2, .int .i64 2, .int .i64 2, .int .i64 3, .int .i64 3] 3).cell i (u := u)
  clear h h2 h3
  rcases hop with rfl | rfl | rfl | rfl | rfl | rfl | rfl | rfl | rfl | rfl | rfl | rfl | rfl | rfl | rfl | rfl | rfl | rfl | rfl | rfl | rfl | rfl | rfl <;> exact ⟨HB _ _ rfl, by decide⟩
theorem rkidsOf_in (op : Int) (w : World) (h : 1 ≤ op ∧ op ≤ 25) : Calls Tryz.prog 67 #[.int .i64 op] w fun e w' => e = .returned (.tuple #[.int .i64 (EX.kl op), .int .i64 (EX.km op)]) ∧ Fr w w' := by
  have g1 : ¬ op < 1 := by omega
  have g2 : ¬ 25 < op := by omega
  by_cases h22 : op = 22
  · subst h22
    go_enter Tryz.func67, Tryz.ntmps67
    go_wp2_with fail
    go_ret2
    exact ⟨rfl, (Fr.refl _).alloc _⟩
  by_cases h23 : op = 23
  · subst h23
    go_enter Tryz.func67, Tryz.ntmps67
    go_wp2_with fail
    go_ret2
    exact ⟨rfl, (Fr.refl _).alloc _⟩
  obtain ⟨hc, hkm⟩ := least_cell w op h h22 h23
  rw [hkm]
  have e22 : (op == 22) = false := by simpa using h22
  have e23 : (op == 23) = false := by simpa using h23
  have F1 := hideP ((Fr.refl w).alloc (.cells #[.int .i64 (-1), .int .i64 0, .int .i64 0, .int .i64 1, .int .i64 1, .int .i64 2, .int .i64 2, .int .i64 2, .int .i64 2, .int .i64 2, .int .i64 2, .int .i64 2, .int .i64 2, .int .i64 2, .int .i64 2, .int .i64 2, .int .i64 2, .int .i64 2, .int .i64 1, .int .i64 1, .int .i64 2, .int .i64 2, .int .i64 2, .int .i64 2, .int .i64 3, .int .i64 3] 3))
  generalize EX.kl op = kl at *
  have g3 : 0 ≤ op := by omega
  have g4 : op < 26 := by omega
  clear h hkm
  go_enter Tryz.func67, Tryz.ntmps67
  go_upto_region 6 with fail
  generalize w.alloc (.cells #[.int .i64 (-1), .int .i64 0, .int .i64 0, .int .i64 1, .int .i64 1, .int .i64 2, .int .i64 2, .int .i64 2, .int .i64 2, .int .i64 2, .int .i64 2, .int .i64 2, .int .i64 2, .int .i64 2, .int .i64 2, .int .i64 2, .int .i64 2, .int .i64 2, .int .i64 1, .int .i64 1, .int .i64 2, .int .i64 2, .int .i64 2, .int .i64 2, .int .i64 3, .int .i64 3] 3) = W at *
  go_region
  all_goals (
    go_wp2_with fail
    go_ret2
    exact ⟨rfl, by first | exact F1.out.drew | exact F1.out⟩)
theorem rkidsOf_out (op : Int) (w : World) (h : op < 1 ∨ 25 < op) : Calls Tryz.prog 67 #[.int .i64 op] w fun e w' => e = .returned (.tuple #[.int .i64 (-1), .int .i64 (-1)]) ∧ Fr w w' := by
  rcases h with h | h
  · go_enter Tryz.func67, Tryz.ntmps67
    go_wp2_with fail
    go_ret2
    exact ⟨rfl, (Fr.refl _).alloc _⟩
  · have h0 : ¬ op < 1 := by omega
    go_enter Tryz.func67, Tryz.ntmps67
    go_wp2_with fail
    go_ret2
    exact ⟨rfl, (Fr.refl _).alloc _⟩
theorem nodeCheck_any (n : EX.Nd) (w : World) (hn : n.nm.size ≤ 140737488355327) :
    Calls Tryz.prog 48 #[EX.val n] w fun e w' => e = .returned (.int .i64 (EX.nchk n)) ∧ Fr w w' := by
  have hw := nchk_ways n _ rfl
  have hlc : EX.lchk n.v = if VM.chk n.v ≠ 0 then VM.chk n.v else if n.v.n < 0 then 3 else 0 := rfl
  have cl := fun W => rcheck_any n.v.k n.v.n n.v.s W
  have ck := fun W h => rkidsOf_in n.op W h
  have cko := fun W h => rkidsOf_out n.op W h
  have cn := fun W => nameCheck_any n.nm W hn
  rw [show VM.chk ⟨n.v.k, n.v.n, n.v.s⟩ = VM.chk n.v from rfl] at cl
  have hkl : (1 ≤ n.op ∧ n.op ≤ 25) → 0 ≤ EX.kl n.op := fun _ => by unfold EX.kl; (repeat' split) <;> decide
  generalize EX.nchk n = z at *
  generalize VM.chk n.v = vc at *
  generalize EX.lchk n.v = lc at *
  obtain ⟨op, kids, ⟨vk, vn, vs⟩, nm⟩ := n
  simp only [EX.val] at *
  generalize EX.kl op = kl at *
  generalize EX.km op = km at *
  generalize LX.nm nm.data.toList = q at *
  have F0 := fun (o : Obj) => hideP ((Fr.refl w).alloc o)
  rcases hw with ⟨h1, rfl⟩ | ⟨h1, rfl⟩ | ⟨h1, h2, h3, rfl⟩ | ⟨h1, h2, h3, h4, rfl⟩ | ⟨⟨h1, h2, h3, h4⟩, hw⟩
  · have CK := hideP (fun W => cko W (.inl h1))
    clear ck cko hkl hlc
    go_enter Tryz.func48, Tryz.ntmps48
    go_wp2_with fail
    refine (CK.out _).mono ?_
    rintro _ w1 ⟨rfl, f1⟩
    go_wp2_with fail
    go_ret
    exact ⟨rfl, (F0 _).out.trans f1⟩
  · have CK := hideP (fun W => cko W (.inr h1))
    clear ck cko hkl hlc
    go_enter Tryz.func48, Tryz.ntmps48
    go_wp2_with fail
    refine (CK.out _).mono ?_
    rintro _ w1 ⟨rfl, f1⟩
    go_wp2_with fail
    go_ret
    exact ⟨rfl, (F0 _).out.trans f1⟩
  · have CK := hideP (fun W => ck W (by constructor <;> omega))
    have hk0 : ¬ kl < 0 := by have := hkl (by constructor <;> omega); omega
    have HB := hideP (Blk.new w #[.int .i64 op, .int .i64 kids, .int .i64 vk, .int .i64 vn, .string vs, .string nm] 38)
    clear ck cko hkl hlc
    go_enter Tryz.func48, Tryz.ntmps48
    go_wp2_with fail
    refine (CK.out _).mono ?_
    rintro _ w1 ⟨rfl, f1⟩
    have x0 := (HB.out.fr f1).cell 0 rfl
    have x1 := (HB.out.fr f1).cell 1 rfl
    have x2 := (HB.out.fr f1).cell 2 rfl
    have x3 := (HB.out.fr f1).cell 3 rfl
    have x4 := (HB.out.fr f1).cell 4 rfl
    have x5 := (HB.out.fr f1).cell 5 rfl
    have F1 := hideP ((F0 _).out.trans f1)
    go_wp2_with fail
    go_ret
    exact ⟨rfl, F1.out⟩
  · have h3' : ¬ kids < kl := by omega
    have CK := hideP (fun W => ck W (by constructor <;> omega))
    have hk0 : ¬ kl < 0 := by have := hkl (by constructor <;> omega); omega
    have HB := hideP (Blk.new w #[.int .i64 op, .int .i64 kids, .int .i64 vk, .int .i64 vn, .string vs, .string nm] 38)
    clear ck cko hkl hlc
    go_enter Tryz.func48, Tryz.ntmps48
    go_wp2_with fail
    refine (CK.out _).mono ?_
    rintro _ w1 ⟨rfl, f1⟩
    have x0 := (HB.out.fr f1).cell 0 rfl
    have x1 := (HB.out.fr f1).cell 1 rfl
    have x2 := (HB.out.fr f1).cell 2 rfl
    have x3 := (HB.out.fr f1).cell 3 rfl
    have x4 := (HB.out.fr f1).cell 4 rfl
    have x5 := (HB.out.fr f1).cell 5 rfl
    have F1 := hideP ((F0 _).out.trans f1)
    go_wp2_with fail
    go_ret
    exact ⟨rfl, F1.out⟩
  · have h3' : ¬ kids < kl := by omega
    have h4' : ¬ km < kids := by omega
    rcases hw with ⟨a1, a2, rfl⟩ | ⟨rfl, a2, rfl⟩ | ⟨a1, a2, a3, a4, rfl⟩ | ⟨rfl, a2, rfl⟩ | ⟨rfl, a2, rfl⟩ | ⟨a1, a2, a3, a4, rfl⟩
    · have b1 : (op != 1) = true := by simpa using a1
      have b2 : (op == 1) = false := by simpa using a1
      rcases nul_not a2 with c1 | ⟨c1, c2⟩ | ⟨c1, c2, c3⟩
      · simp only at c1
        have d1 : (vk == 0) = false := by simpa using c1
        have d2 : (vk != 0) = true := by simpa using c1
        clear a2
        have CK := hideP (fun W => ck W (by constructor <;> omega))
        have hk0 : ¬ kl < 0 := by have := hkl (by constructor <;> omega); omega
        have HB := hideP (Blk.new w #[.int .i64 op, .int .i64 kids, .int .i64 vk, .int .i64 vn, .string vs, .string nm] 38)
        clear ck cko hkl hlc
        go_enter Tryz.func48, Tryz.ntmps48
        go_wp2_with fail
        refine (CK.out _).mono ?_
        rintro _ w1 ⟨rfl, f1⟩
        have x0 := (HB.out.fr f1).cell 0 rfl
        have x1 := (HB.out.fr f1).cell 1 rfl
        have x2 := (HB.out.fr f1).cell 2 rfl
        have x3 := (HB.out.fr f1).cell 3 rfl
        have x4 := (HB.out.fr f1).cell 4 rfl
        have x5 := (HB.out.fr f1).cell 5 rfl
        have F1 := hideP ((F0 _).out.trans f1)
        go_wp2_with fail
        go_ret
        exact ⟨rfl, F1.out⟩
      · simp only at c1 c2
        subst c1
        have d1 : (vn == 0) = false := by simpa using c2
        have d2 : (vn != 0) = true := by simpa using c2
        clear a2
        have CK := hideP (fun W => ck W (by constructor <;> omega))
        have hk0 : ¬ kl < 0 := by have := hkl (by constructor <;> omega); omega
        have HB := hideP (Blk.new w #[.int .i64 op, .int .i64 kids, .int .i64 0, .int .i64 vn, .string vs, .string nm] 38)
        clear ck cko hkl hlc
        go_enter Tryz.func48, Tryz.ntmps48
        go_wp2_with fail
        refine (CK.out _).mono ?_
        rintro _ w1 ⟨rfl, f1⟩
        have x0 := (HB.out.fr f1).cell 0 rfl
        have x1 := (HB.out.fr f1).cell 1 rfl
        have x2 := (HB.out.fr f1).cell 2 rfl
        have x3 := (HB.out.fr f1).cell 3 rfl
        have x4 := (HB.out.fr f1).cell 4 rfl
        have x5 := (HB.out.fr f1).cell 5 rfl
        have F1 := hideP ((F0 _).out.trans f1)
        go_wp2_with fail
        go_ret
        exact ⟨rfl, F1.out⟩
      · simp only at c1 c2 c3
        subst c1 c2
        obtain ⟨d1, d2, d3⟩ := size_some c3
        clear a2
        have CK := hideP (fun W => ck W (by constructor <;> omega))
        have hk0 : ¬ kl < 0 := by have := hkl (by constructor <;> omega); omega
        have HB := hideP (Blk.new w #[.int .i64 op, .int .i64 kids, .int .i64 0, .int .i64 0, .string vs, .string nm] 38)
        clear ck cko hkl hlc
        go_enter Tryz.func48, Tryz.ntmps48
        go_wp2_with fail
        refine (CK.out _).mono ?_
        rintro _ w1 ⟨rfl, f1⟩
        have x0 := (HB.out.fr f1).cell 0 rfl
        have x1 := (HB.out.fr f1).cell 1 rfl
        have x2 := (HB.out.fr f1).cell 2 rfl
        have x3 := (HB.out.fr f1).cell 3 rfl
        have x4 := (HB.out.fr f1).cell 4 rfl
        have x5 := (HB.out.fr f1).cell 5 rfl
        have F1 := hideP ((F0 _).out.trans f1)
        go_wp2_with fail
        go_ret
        exact ⟨rfl, F1.out⟩
    · obtain ⟨d1, d2, d3⟩ := size_some a2
      clear a2
      have CK := hideP (fun W => ck W (by constructor <;> omega))
      have hk0 : ¬ kl < 0 := by have := hkl (by constructor <;> omega); omega
      have HB := hideP (Blk.new w #[.int .i64 1, .int .i64 kids, .int .i64 vk, .int .i64 vn, .string vs, .string nm] 38)
      clear ck cko hkl hlc
      go_enter Tryz.func48, Tryz.ntmps48
      go_wp2_with fail
      refine (CK.out _).mono ?_
      rintro _ w1 ⟨rfl, f1⟩
      have x0 := (HB.out.fr f1).cell 0 rfl
      have x1 := (HB.out.fr f1).cell 1 rfl
      have x2 := (HB.out.fr f1).cell 2 rfl
      have x3 := (HB.out.fr f1).cell 3 rfl
      have x4 := (HB.out.fr f1).cell 4 rfl
      have x5 := (HB.out.fr f1).cell 5 rfl
      have F1 := hideP ((F0 _).out.trans f1)
      go_wp2_with fail
      go_ret
      exact ⟨rfl, F1.out⟩
    · obtain ⟨d1, d2, d3⟩ := size_some a4
      have hv := nul_of a3
      simp only [EX.nul, VM.Vl.mk.injEq] at hv
      obtain ⟨rfl, rfl, rfl⟩ := hv
      have b1 : (op != 1) = true := by simpa using a1
      have b3 : (op != 2) = true := by simpa using a2
      clear a3 a4
      have CK := hideP (fun W => ck W (by constructor <;> omega))
      have hk0 : ¬ kl < 0 := by have := hkl (by constructor <;> omega); omega
      have HB := hideP (Blk.new w #[.int .i64 op, .int .i64 kids, .int .i64 0, .int .i64 0, .string ⟨#[]⟩, .string nm] 38)
      clear ck cko hkl hlc
      go_enter Tryz.func48, Tryz.ntmps48
      go_wp2_with fail
      refine (CK.out _).mono ?_
      rintro _ w1 ⟨rfl, f1⟩
      have x0 := (HB.out.fr f1).cell 0 rfl
      have x1 := (HB.out.fr f1).cell 1 rfl
      have x2 := (HB.out.fr f1).cell 2 rfl
      have x3 := (HB.out.fr f1).cell 3 rfl
      have x4 := (HB.out.fr f1).cell 4 rfl
      have x5 := (HB.out.fr f1).cell 5 rfl
      have F1 := hideP ((F0 _).out.trans f1)
      go_wp2_with fail
      go_ret
      exact ⟨rfl, F1.out⟩
    · obtain rfl := size_nil a2
      clear a2
      by_cases hv0 : vc = 0
      · subst hv0
        by_cases hvn : vn < 0
        · obtain rfl : z = 3 := hlc.trans ((if_neg (by simp)).trans (if_pos hvn))
          have CK := hideP (fun W => ck W (by constructor <;> omega))
          have hk0 : ¬ kl < 0 := by have := hkl (by constructor <;> omega); omega
          have HB := hideP (Blk.new w #[.int .i64 1, .int .i64 kids, .int .i64 vk, .int .i64 vn, .string vs, .string ⟨#[]⟩] 38)
          clear ck cko hkl hlc
          go_enter Tryz.func48, Tryz.ntmps48
          go_wp2_with fail
          refine (CK.out _).mono ?_
          rintro _ w1 ⟨rfl, f1⟩
          have x0 := (HB.out.fr f1).cell 0 rfl
          have x1 := (HB.out.fr f1).cell 1 rfl
          have x2 := (HB.out.fr f1).cell 2 rfl
          have x3 := (HB.out.fr f1).cell 3 rfl
          have x4 := (HB.out.fr f1).cell 4 rfl
          have x5 := (HB.out.fr f1).cell 5 rfl
          have F1 := hideP ((F0 _).out.trans f1)
          go_wp2_with fail
          refine (cl _).mono ?_
          rintro _ w2 ⟨rfl, f2⟩
          have y0 := (HB.out.fr (f1.trans f2)).cell 0 rfl
          have y3 := (HB.out.fr (f1.trans f2)).cell 3 rfl
          have F2 := hideP (F1.out.trans f2)
          clear f2
          go_wp2_with fail
          go_ret
          exact ⟨rfl, F2.out⟩
        · obtain rfl : z = 0 := hlc.trans ((if_neg (by simp)).trans (if_neg hvn))
          have CK := hideP (fun W => ck W (by constructor <;> omega))
          have hk0 : ¬ kl < 0 := by have := hkl (by constructor <;> omega); omega
          have HB := hideP (Blk.new w #[.int .i64 1, .int .i64 kids, .int .i64 vk, .int .i64 vn, .string vs, .string ⟨#[]⟩] 38)
          clear ck cko hkl hlc
          go_enter Tryz.func48, Tryz.ntmps48
          go_wp2_with fail
          refine (CK.out _).mono ?_
          rintro _ w1 ⟨rfl, f1⟩
          have x0 := (HB.out.fr f1).cell 0 rfl
          have x1 := (HB.out.fr f1).cell 1 rfl
          have x2 := (HB.out.fr f1).cell 2 rfl
          have x3 := (HB.out.fr f1).cell 3 rfl
          have x4 := (HB.out.fr f1).cell 4 rfl
          have x5 := (HB.out.fr f1).cell 5 rfl
          have F1 := hideP ((F0 _).out.trans f1)
          go_wp2_with fail
          refine (cl _).mono ?_
          rintro _ w2 ⟨rfl, f2⟩
          have y0 := (HB.out.fr (f1.trans f2)).cell 0 rfl
          have y3 := (HB.out.fr (f1.trans f2)).cell 3 rfl
          have F2 := hideP (F1.out.trans f2)
          clear f2
          go_wp2_with fail
          go_ret
          exact ⟨rfl, F2.out⟩
      · obtain rfl : z = vc := hlc.trans (if_pos hv0)
        have e1 : ((z : Int) != 0) = true := by simp; omega
        have e2 : ¬ ((z : Int) = 0) := by omega
        have CK := hideP (fun W => ck W (by constructor <;> omega))
        have hk0 : ¬ kl < 0 := by have := hkl (by constructor <;> omega); omega
        have HB := hideP (Blk.new w #[.int .i64 1, .int .i64 kids, .int .i64 vk, .int .i64 vn, .string vs, .string ⟨#[]⟩] 38)
        clear ck cko hkl hlc
        go_enter Tryz.func48, Tryz.ntmps48
        go_wp2_with fail
        refine (CK.out _).mono ?_
        rintro _ w1 ⟨rfl, f1⟩
        have x0 := (HB.out.fr f1).cell 0 rfl
        have x1 := (HB.out.fr f1).cell 1 rfl
        have x2 := (HB.out.fr f1).cell 2 rfl
        have x3 := (HB.out.fr f1).cell 3 rfl
        have x4 := (HB.out.fr f1).cell 4 rfl
        have x5 := (HB.out.fr f1).cell 5 rfl
        have F1 := hideP ((F0 _).out.trans f1)
        go_wp2_with fail
        refine (cl _).mono ?_
        rintro _ w2 ⟨rfl, f2⟩
        have y0 := (HB.out.fr (f1.trans f2)).cell 0 rfl
        have y3 := (HB.out.fr (f1.trans f2)).cell 3 rfl
        have F2 := hideP (F1.out.trans f2)
        clear f2
        go_wp2_with fail
        go_ret
        exact ⟨rfl, F2.out⟩
    · have hv := nul_of a2
      simp only [EX.nul, VM.Vl.mk.injEq] at hv
      obtain ⟨rfl, rfl, rfl⟩ := hv
      clear a2
      cases q
      · have CK := hideP (fun W => ck W (by constructor <;> omega))
        have hk0 : ¬ kl < 0 := by have := hkl (by constructor <;> omega); omega
        have HB := hideP (Blk.new w #[.int .i64 2, .int .i64 kids, .int .i64 0, .int .i64 0, .string ⟨#[]⟩, .string nm] 38)
        clear ck cko hkl hlc
        go_enter Tryz.func48, Tryz.ntmps48
        go_wp2_with fail
        refine (CK.out _).mono ?_
        rintro _ w1 ⟨rfl, f1⟩
        have x0 := (HB.out.fr f1).cell 0 rfl
        have x1 := (HB.out.fr f1).cell 1 rfl
        have x2 := (HB.out.fr f1).cell 2 rfl
        have x3 := (HB.out.fr f1).cell 3 rfl
        have x4 := (HB.out.fr f1).cell 4 rfl
        have x5 := (HB.out.fr f1).cell 5 rfl
        have F1 := hideP ((F0 _).out.trans f1)
        go_wp2_with fail
        refine (cn _).mono ?_
        rintro _ w2 ⟨rfl, f2⟩
        have y0 := (HB.out.fr (f1.trans f2)).cell 0 rfl
        have y3 := (HB.out.fr (f1.trans f2)).cell 3 rfl
        have F2 := hideP (F1.out.trans f2)
        clear f2
        go_wp2_with fail
        go_ret
        exact ⟨rfl, F2.out⟩
      · have CK := hideP (fun W => ck W (by constructor <;> omega))
        have hk0 : ¬ kl < 0 := by have := hkl (by constructor <;> omega); omega
        have HB := hideP (Blk.new w #[.int .i64 2, .int .i64 kids, .int .i64 0, .int .i64 0, .string ⟨#[]⟩, .string nm] 38)
        clear ck cko hkl hlc
        go_enter Tryz.func48, Tryz.ntmps48
        go_wp2_with fail
        refine (CK.out _).mono ?_
        rintro _ w1 ⟨rfl, f1⟩
        have x0 := (HB.out.fr f1).cell 0 rfl
        have x1 := (HB.out.fr f1).cell 1 rfl
        have x2 := (HB.out.fr f1).cell 2 rfl
        have x3 := (HB.out.fr f1).cell 3 rfl
        have x4 := (HB.out.fr f1).cell 4 rfl
        have x5 := (HB.out.fr f1).cell 5 rfl
        have F1 := hideP ((F0 _).out.trans f1)
        go_wp2_with fail
        refine (cn _).mono ?_
        rintro _ w2 ⟨rfl, f2⟩
        have y0 := (HB.out.fr (f1.trans f2)).cell 0 rfl
        have y3 := (HB.out.fr (f1.trans f2)).cell 3 rfl
        have F2 := hideP (F1.out.trans f2)
        clear f2
        go_wp2_with fail
        go_ret
        exact ⟨rfl, F2.out⟩
    · obtain rfl := size_nil a4
      have hv := nul_of a3
      simp only [EX.nul, VM.Vl.mk.injEq] at hv
      obtain ⟨rfl, rfl, rfl⟩ := hv
      have b1 : (op != 1) = true := by simpa using a1
      have b2 : (op == 1) = false := by simpa using a1
      have b3 : (op != 2) = true := by simpa using a2
      have b4 : (op == 2) = false := by simpa using a2
      clear a3 a4
      have CK := hideP (fun W => ck W (by constructor <;> omega))
      have hk0 : ¬ kl < 0 := by have := hkl (by constructor <;> omega); omega
      have HB := hideP (Blk.new w #[.int .i64 op, .int .i64 kids, .int .i64 0, .int .i64 0, .string ⟨#[]⟩, .string ⟨#[]⟩] 38)
      clear ck cko hkl hlc
      go_enter Tryz.func48, Tryz.ntmps48
      go_wp2_with fail
      refine (CK.out _).mono ?_
      rintro _ w1 ⟨rfl, f1⟩
      have x0 := (HB.out.fr f1).cell 0 rfl
      have x1 := (HB.out.fr f1).cell 1 rfl
      have x2 := (HB.out.fr f1).cell 2 rfl
      have x3 := (HB.out.fr f1).cell 3 rfl
      have x4 := (HB.out.fr f1).cell 4 rfl
      have x5 := (HB.out.fr f1).cell 5 rfl
      have F1 := hideP ((F0 _).out.trans f1)
      go_wp2_with fail
      go_ret
      exact ⟨rfl, F1.out⟩
end Go.Proofs.YtjljohmflhmkmaaGreatDoor
