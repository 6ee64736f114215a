/-
  What worth of package eval answers: a node's value by its kids' values.
-/
import Derived.Test.YtbcfdhimngoplaaGreatDoorEvI
import Derived.Test.YtbcfdhimngoplaaGreatDoorEvG
namespace Go.Proofs.YtbcfdhimngoplaaGreatDoor
open Go.ChangeShapes Go.WideShapes Go.ChangeAt Go.RowKit
set_option linter.unusedVariables false
set_option linter.unusedSimpArgs false
set_option maxRecDepth 100000
set_option maxHeartbeats 2000000
namespace EV
def tl (p : Int × Nat) : Except Nat VM.Vl := if p.2 ≠ 0 then .error p.2 else .ok (vt p.1)
def wo (f : List UInt8 → Option VM.Vl) (n : EX.Nd) (l : List VM.Vl) : Except Nat VM.Vl :=
 if n.op = 1 then .ok n.v
 else if n.op = 2 then (match f n.nm.data.toList with | some y => .ok y | none => .error 5)
 else if n.op = 3 ∨ (5 ≤ n.op ∧ n.op ≤ 9) then rck n.op l
 else if n.op = 16 ∨ n.op = 17 ∨ n.op = 4 then tl (two_ (jn n.op l))
 else tl (cmp n.op l)
end EV
theorem worth_lit (b ln cp : Nat) (a : Option Addr) (kids vk vn : Int) (vs nm : ByteArray) (w : World) : Calls Tryz.prog 82 #[.map (some b), .agg #[.int .i64 1, .int .i64 kids, .int .i64 vk, .int .i64 vn, .string vs, .string nm], .slice a ln cp] w fun e w' => e = .returned (.tuple #[.agg #[.int .i64 vk, .int .i64 vn, .string vs], .int .i64 0]) ∧ Fr w w' := by
 obtain ⟨W0, hW0⟩ : ∃ W0, (w.alloc (.cells #[.int .i64 1, .int .i64 kids, .int .i64 vk, .int .i64 vn, .string vs, .string nm] 61)).alloc (.cells #[.int .i64 0, .int .i64 0, .string ⟨#[]⟩] 56) = W0 := ⟨_, rfl⟩
 have bn : Blk W0 w.heap.size #[.int .i64 1, .int .i64 kids, .int .i64 vk, .int .i64 vn, .string vs, .string nm] 61 := by rw [← hW0]; exact (Blk.new w _ _).old _
 have b1 : Blk W0 (w.heap.size + 1) #[.int .i64 0, .int .i64 0, .string ⟨#[]⟩] 56 := by rw [← hW0]; have := Blk.new (w.alloc (.cells #[.int .i64 1, .int .i64 kids, .int .i64 vk, .int .i64 vn, .string vs, .string nm] 61)) #[.int .i64 0, .int .i64 0, .string ⟨#[]⟩] 56; simpa using this
 have f0 : Fr w W0 := by rw [← hW0]; exact ((Fr.refl w).alloc _).alloc _
 have HN := hideP bn
 have HB1 := hideP b1
 have HF0 := hideP f0
 have hle0 := Fr.size f0
 have u0 := bn.cell 0 rfl
 have u1 := bn.cell 1 rfl
 have u2 := bn.cell 2 rfl
 have u3 := bn.cell 3 rfl
 have u4 := bn.cell 4 rfl
 have u5 := bn.cell 5 rfl
 have v0 := b1.cell 0 rfl
 have v1 := b1.cell 1 rfl
 have v2 := b1.cell 2 rfl
 have y0 := b1.frozen 0
 have y1 := b1.frozen 1
 have y2 := b1.frozen 2
 clear bn b1 f0
 go_enter Tryz.func82, Tryz.ntmps82
 go_wp2_with fail
 refine bodyPost_ret (v := .tuple #[.agg #[(.int .i64 vk), (.int .i64 vn), (.string vs)], .int .i64 0]) ?_ rfl ⟨rfl, HF0.out.put3 (w.heap.size + 1) (by omega) _ _ _⟩
 obtain ⟨r0, r1, r2⟩ : (put3 W0 (w.heap.size + 1) (.int .i64 vk) (.int .i64 vn) (.string vs)).cell? ⟨w.heap.size + 1, 0, none⟩ = _ ∧ (put3 W0 (w.heap.size + 1) (.int .i64 vk) (.int .i64 vn) (.string vs)).cell? ⟨w.heap.size + 1, 1, none⟩ = _ ∧ (put3 W0 (w.heap.size + 1) (.int .i64 vk) (.int .i64 vn) (.string vs)).cell? ⟨w.heap.size + 1, 2, none⟩ = _ := ⟨(HB1.out.put3 _ _ _).cell 0 rfl, (HB1.out.put3 _ _ _).cell 1 rfl, (HB1.out.put3 _ _ _).cell 2 rfl⟩
 change (results Tryz.f82 _).run Tryz.prog (put3 W0 _ _ _ _) = .ok _ (put3 W0 _ _ _ _)
 simp [results, Tryz.results82, go_sem, r0, r1, r2]
theorem worth_col (b ln cp : Nat) (a : Option Addr) (kids vk vn : Int) (vs nm : ByteArray) (w : World) (k : Nat) (f : List UInt8 → Option VM.Vl) (yk yn : Int) (ys : ByteArray) (hm : Mp w b k f) (hnm : nm.size ≤ 140737488355327) (hf : f nm.data.toList = some ⟨yk, yn, ys⟩) : Calls Tryz.prog 82 #[.map (some b), .agg #[.int .i64 2, .int .i64 kids, .int .i64 vk, .int .i64 vn, .string vs, .string nm], .slice a ln cp] w fun e w' => e = .returned (.tuple #[.agg #[.int .i64 yk, .int .i64 yn, .string ys], .int .i64 0]) ∧ Fr w w' := by
 obtain ⟨W0, hW0⟩ : ∃ W0, (w.alloc (.cells #[.int .i64 2, .int .i64 kids, .int .i64 vk, .int .i64 vn, .string vs, .string nm] 61)).alloc (.cells #[.int .i64 0, .int .i64 0, .string ⟨#[]⟩] 56) = W0 := ⟨_, rfl⟩
 have bn : Blk W0 w.heap.size #[.int .i64 2, .int .i64 kids, .int .i64 vk, .int .i64 vn, .string vs, .string nm] 61 := by rw [← hW0]; exact (Blk.new w _ _).old _
 have b1 : Blk W0 (w.heap.size + 1) #[.int .i64 0, .int .i64 0, .string ⟨#[]⟩] 56 := by rw [← hW0]; have := Blk.new (w.alloc (.cells #[.int .i64 2, .int .i64 kids, .int .i64 vk, .int .i64 vn, .string vs, .string nm] 61)) #[.int .i64 0, .int .i64 0, .string ⟨#[]⟩] 56; simpa using this
 have f0 : Fr w W0 := by rw [← hW0]; exact ((Fr.refl w).alloc _).alloc _
 have HN := hideP bn
 have HB1 := hideP b1
 have HF0 := hideP f0
 have hle0 := Fr.size f0
 have u0 := bn.cell 0 rfl
 have u1 := bn.cell 1 rfl
 have u2 := bn.cell 2 rfl
 have u3 := bn.cell 3 rfl
 have u4 := bn.cell 4 rfl
 have u5 := bn.cell 5 rfl
 have HM := hideP (hm.fr f0)
 have HK := hideP hf
 obtain ⟨W1, hW1⟩ : ∃ W1, W0.alloc (.cells #[.int .i64 yk, .int .i64 yn, .string ys] 56) = W1 := ⟨_, rfl⟩
 have f1 : Fr W0 W1 := by rw [← hW1]; exact (Fr.refl _).alloc _
 have bd : Blk W1 W0.heap.size #[.int .i64 yk, .int .i64 yn, .string ys] 56 := by rw [← hW1]; exact Blk.new _ _ _
 have z0 := bd.cell 0 rfl
 have z1 := bd.cell 1 rfl
 have z2 := bd.cell 2 rfl
 have b2 := b1.fr f1
 have HB2 := hideP b2
 have HF1 := hideP (f0.trans f1)
 have v0 := b2.cell 0 rfl
 have v1 := b2.cell 1 rfl
 have v2 := b2.cell 2 rfl
 have y0 := b2.frozen 0
 have y1 := b2.frozen 1
 have y2 := b2.frozen 2
 clear bn b1 f0 hf hm b2 f1 bd
 go_enter Tryz.func82, Tryz.ntmps82
 go_wp2_with (first
  | (at_lookup; refine wp_lookup_Mp rfl _ _ rfl b k f rfl HM.out nm rfl hnm ?_; rw [HK.out]; simp only [vlV, Option.getD_some, Option.getD_none, Option.isSome_some, Option.isSome_none, EX.nul])
  | go_in)
 refine bodyPost_ret (v := .tuple #[.agg #[(.int .i64 yk), (.int .i64 yn), (.string ys)], .int .i64 0]) ?_ rfl ⟨rfl, HF1.out.put3 (w.heap.size + 1) (by omega) _ _ _⟩
 obtain ⟨r0, r1, r2⟩ : (put3 W1 (w.heap.size + 1) (.int .i64 yk) (.int .i64 yn) (.string ys)).cell? ⟨w.heap.size + 1, 0, none⟩ = _ ∧ (put3 W1 (w.heap.size + 1) (.int .i64 yk) (.int .i64 yn) (.string ys)).cell? ⟨w.heap.size + 1, 1, none⟩ = _ ∧ (put3 W1 (w.heap.size + 1) (.int .i64 yk) (.int .i64 yn) (.string ys)).cell? ⟨w.heap.size + 1, 2, none⟩ = _ := ⟨(HB2.out.put3 _ _ _).cell 0 rfl, (HB2.out.put3 _ _ _).cell 1 rfl, (HB2.out.put3 _ _ _).cell 2 rfl⟩
 change (results Tryz.f82 _).run Tryz.prog (put3 W1 _ _ _ _) = .ok _ (put3 W1 _ _ _ _)
 simp [results, Tryz.results82, go_sem, r0, r1, r2]
theorem worth_none (b ln cp : Nat) (a : Option Addr) (kids vk vn : Int) (vs nm : ByteArray) (w : World) (k : Nat) (f : List UInt8 → Option VM.Vl) (hm : Mp w b k f) (hnm : nm.size ≤ 140737488355327) (hf : f nm.data.toList = none) : Calls Tryz.prog 82 #[.map (some b), .agg #[.int .i64 2, .int .i64 kids, .int .i64 vk, .int .i64 vn, .string vs, .string nm], .slice a ln cp] w fun e w' => e = .returned (.tuple #[.agg #[.int .i64 0, .int .i64 0, .string ⟨#[]⟩], .int .i64 5]) ∧ Fr w w' := by
 obtain ⟨dk, dn, ds, hd⟩ : ∃ dk dn ds, EX.nul = ⟨dk, dn, ds⟩ := ⟨_, _, _, rfl⟩
 have HD := hideP hd
 clear hd
 obtain ⟨W0, hW0⟩ : ∃ W0, (w.alloc (.cells #[.int .i64 2, .int .i64 kids, .int .i64 vk, .int .i64 vn, .string vs, .string nm] 61)).alloc (.cells #[.int .i64 0, .int .i64 0, .string ⟨#[]⟩] 56) = W0 := ⟨_, rfl⟩
 have bn : Blk W0 w.heap.size #[.int .i64 2, .int .i64 kids, .int .i64 vk, .int .i64 vn, .string vs, .string nm] 61 := by rw [← hW0]; exact (Blk.new w _ _).old _
 have b1 : Blk W0 (w.heap.size + 1) #[.int .i64 0, .int .i64 0, .string ⟨#[]⟩] 56 := by rw [← hW0]; have := Blk.new (w.alloc (.cells #[.int .i64 2, .int .i64 kids, .int .i64 vk, .int .i64 vn, .string vs, .string nm] 61)) #[.int .i64 0, .int .i64 0, .string ⟨#[]⟩] 56; simpa using this
 have f0 : Fr w W0 := by rw [← hW0]; exact ((Fr.refl w).alloc _).alloc _
 have HN := hideP bn
 have HB1 := hideP b1
 have HF0 := hideP f0
 have hle0 := Fr.size f0
 have u0 := bn.cell 0 rfl
 have u1 := bn.cell 1 rfl
 have u2 := bn.cell 2 rfl
 have u3 := bn.cell 3 rfl
 have u4 := bn.cell 4 rfl
 have u5 := bn.cell 5 rfl
 have HM := hideP (hm.fr f0)
 have HK := hideP hf
 obtain ⟨W1, hW1⟩ : ∃ W1, W0.alloc (.cells #[.int .i64 dk, .int .i64 dn, .string ds] 56) = W1 := ⟨_, rfl⟩
 have f1 : Fr W0 W1 := by rw [← hW1]; exact (Fr.refl _).alloc _
 have bd : Blk W1 W0.heap.size #[.int .i64 dk, .int .i64 dn, .string ds] 56 := by rw [← hW1]; exact Blk.new _ _ _
 have z0 := bd.cell 0 rfl
 have z1 := bd.cell 1 rfl
 have z2 := bd.cell 2 rfl
 have b2 := b1.fr f1
 have HB2 := hideP b2
 have HF1 := hideP (f0.trans f1)
 have v0 := b2.cell 0 rfl
 have v1 := b2.cell 1 rfl
 have v2 := b2.cell 2 rfl
 have y0 := b2.frozen 0
 have y1 := b2.frozen 1
 have y2 := b2.frozen 2
 clear bn b1 f0 hf hm b2 f1 bd
 go_enter Tryz.func82, Tryz.ntmps82
 go_wp2_with (first
  | (at_lookup; refine wp_lookup_Mp rfl _ _ rfl b k f rfl HM.out nm rfl hnm ?_; rw [HK.out, HD.out]; simp only [vlV, Option.getD_some, Option.getD_none, Option.isSome_some, Option.isSome_none])
  | go_in)
 refine bodyPost_ret (v := .tuple #[.agg #[(.int .i64 0), (.int .i64 0), (.string ⟨#[]⟩)], .int .i64 5]) ?_ rfl ⟨rfl, HF1.out.put3 (w.heap.size + 1) (by omega) _ _ _⟩
 obtain ⟨r0, r1, r2⟩ : (put3 W1 (w.heap.size + 1) (.int .i64 0) (.int .i64 0) (.string ⟨#[]⟩)).cell? ⟨w.heap.size + 1, 0, none⟩ = _ ∧ (put3 W1 (w.heap.size + 1) (.int .i64 0) (.int .i64 0) (.string ⟨#[]⟩)).cell? ⟨w.heap.size + 1, 1, none⟩ = _ ∧ (put3 W1 (w.heap.size + 1) (.int .i64 0) (.int .i64 0) (.string ⟨#[]⟩)).cell? ⟨w.heap.size + 1, 2, none⟩ = _ := ⟨(HB2.out.put3 _ _ _).cell 0 rfl, (HB2.out.put3 _ _ _).cell 1 rfl, (HB2.out.put3 _ _ _).cell 2 rfl⟩
 change (results Tryz.f82 _).run Tryz.prog (put3 W1 _ _ _ _) = .ok _ (put3 W1 _ _ _ _)
 simp [results, Tryz.results82, go_sem, r0, r1, r2]
theorem worth_rck (b ln cp : Nat) (a : Option Addr) (kids vk vn : Int) (vs nm : ByteArray) (w : World) (op rk rn rc : Int) (rs : ByteArray) (hop : op = 3 ∨ op = 5 ∨ op = 6 ∨ op = 7 ∨ op = 8 ∨ op = 9)
  (hc : ∀ W, Fr w W → Calls Tryz.prog 96 #[.int .i64 op, .slice a ln cp] W fun e w' => e = .returned (.tuple #[.agg #[.int .i64 rk, .int .i64 rn, .string rs], .int .i64 rc]) ∧ Fr W w') : Calls Tryz.prog 82 #[.map (some b), .agg #[.int .i64 op, .int .i64 kids, .int .i64 vk, .int .i64 vn, .string vs, .string nm], .slice a ln cp] w fun e w' => e = .returned (.tuple #[.agg #[.int .i64 rk, .int .i64 rn, .string rs], .int .i64 rc]) ∧ Fr w w' := by
 obtain ⟨W0, hW0⟩ : ∃ W0, (w.alloc (.cells #[.int .i64 op, .int .i64 kids, .int .i64 vk, .int .i64 vn, .string vs, .string nm] 61)).alloc (.cells #[.int .i64 0, .int .i64 0, .string ⟨#[]⟩] 56) = W0 := ⟨_, rfl⟩
 have bn : Blk W0 w.heap.size #[.int .i64 op, .int .i64 kids, .int .i64 vk, .int .i64 vn, .string vs, .string nm] 61 := by rw [← hW0]; exact (Blk.new w _ _).old _
 have b1 : Blk W0 (w.heap.size + 1) #[.int .i64 0, .int .i64 0, .string ⟨#[]⟩] 56 := by rw [← hW0]; have := Blk.new (w.alloc (.cells #[.int .i64 op, .int .i64 kids, .int .i64 vk, .int .i64 vn, .string vs, .string nm] 61)) #[.int .i64 0, .int .i64 0, .string ⟨#[]⟩] 56; simpa using this
 have f0 : Fr w W0 := by rw [← hW0]; exact ((Fr.refl w).alloc _).alloc _
 have HN := hideP bn
 have HB1 := hideP b1
 have HF0 := hideP f0
 have hle0 := Fr.size f0
 have u0 := bn.cell 0 rfl
 have u1 := bn.cell 1 rfl
 have u2 := bn.cell 2 rfl
 have u3 := bn.cell 3 rfl
 have u4 := bn.cell 4 rfl
 have u5 := bn.cell 5 rfl
 have HC := hideP (hc W0 f0)
 clear bn b1 f0 hc
 rcases hop with rfl | rfl | rfl | rfl | rfl | rfl
 all_goals (
  go_enter Tryz.func82, Tryz.ntmps82
  go_wp2_with fail
  refine HC.out.mono ?_
  rintro _ w1 ⟨rfl, f1⟩
  have b2 := HB1.out.fr f1
  have HB2 := hideP b2
  have HF1 := hideP (HF0.out.trans f1)
  have v0 := b2.cell 0 rfl
  have v1 := b2.cell 1 rfl
  have v2 := b2.cell 2 rfl
  have y0 := b2.frozen 0
  have y1 := b2.frozen 1
  have y2 := b2.frozen 2
  clear b2 f1
  go_wp2_with fail
  refine bodyPost_ret (v := .tuple #[.agg #[(.int .i64 rk), (.int .i64 rn), (.string rs)], .int .i64 rc]) ?_ rfl ⟨rfl, HF1.out.put3 (w.heap.size + 1) (by omega) _ _ _⟩
  obtain ⟨r0, r1, r2⟩ : (put3 w1 (w.heap.size + 1) (.int .i64 rk) (.int .i64 rn) (.string rs)).cell? ⟨w.heap.size + 1, 0, none⟩ = _ ∧ (put3 w1 (w.heap.size + 1) (.int .i64 rk) (.int .i64 rn) (.string rs)).cell? ⟨w.heap.size + 1, 1, none⟩ = _ ∧ (put3 w1 (w.heap.size + 1) (.int .i64 rk) (.int .i64 rn) (.string rs)).cell? ⟨w.heap.size + 1, 2, none⟩ = _ := ⟨(HB2.out.put3 _ _ _).cell 0 rfl, (HB2.out.put3 _ _ _).cell 1 rfl, (HB2.out.put3 _ _ _).cell 2 rfl⟩
  change (results Tryz.f82 _).run Tryz.prog (put3 w1 _ _ _ _) = .ok _ (put3 w1 _ _ _ _)
  simp [results, Tryz.results82, go_sem, r0, r1, r2])
theorem worth_jn (b ln cp : Nat) (a : Option Addr) (kids vk vn : Int) (vs nm : ByteArray) (w : World) (op rk rn rc t : Int) (c : Nat) (rs : ByteArray) (hop : op = 16 ∨ op = 17 ∨ op = 4)
  (hc : ∀ W, Fr w W → Calls Tryz.prog 98 #[.int .i64 op, .slice a ln cp] W fun e w' => e = .returned (.tuple #[.int .i64 t, .int .i64 (c : Int)]) ∧ Fr W w')
  (ht : ∀ W, Calls Tryz.prog 97 #[.int .i64 t, .int .i64 (c : Int)] W fun e w' => e = .returned (.tuple #[.agg #[.int .i64 rk, .int .i64 rn, .string rs], .int .i64 rc]) ∧ Fr W w') : Calls Tryz.prog 82 #[.map (some b), .agg #[.int .i64 op, .int .i64 kids, .int .i64 vk, .int .i64 vn, .string vs, .string nm], .slice a ln cp] w fun e w' => e = .returned (.tuple #[.agg #[.int .i64 rk, .int .i64 rn, .string rs], .int .i64 rc]) ∧ Fr w w' := by
 obtain ⟨W0, hW0⟩ : ∃ W0, (w.alloc (.cells #[.int .i64 op, .int .i64 kids, .int .i64 vk, .int .i64 vn, .string vs, .string nm] 61)).alloc (.cells #[.int .i64 0, .int .i64 0, .string ⟨#[]⟩] 56) = W0 := ⟨_, rfl⟩
 have bn : Blk W0 w.heap.size #[.int .i64 op, .int .i64 kids, .int .i64 vk, .int .i64 vn, .string vs, .string nm] 61 := by rw [← hW0]; exact (Blk.new w _ _).old _
 have b1 : Blk W0 (w.heap.size + 1) #[.int .i64 0, .int .i64 0, .string ⟨#[]⟩] 56 := by rw [← hW0]; have := Blk.new (w.alloc (.cells #[.int .i64 op, .int .i64 kids, .int .i64 vk, .int .i64 vn, .string vs, .string nm] 61)) #[.int .i64 0, .int .i64 0, .string ⟨#[]⟩] 56; simpa using this
 have f0 : Fr w W0 := by rw [← hW0]; exact ((Fr.refl w).alloc _).alloc _
 have HN := hideP bn
 have HB1 := hideP b1
 have HF0 := hideP f0
 have hle0 := Fr.size f0
 have u0 := bn.cell 0 rfl
 have u1 := bn.cell 1 rfl
 have u2 := bn.cell 2 rfl
 have u3 := bn.cell 3 rfl
 have u4 := bn.cell 4 rfl
 have u5 := bn.cell 5 rfl
 have HC := hideP (hc W0 f0)
 have HT := hideP ht
 clear bn b1 f0 hc ht
 rcases hop with rfl | rfl | rfl
 all_goals (
  go_enter Tryz.func82, Tryz.ntmps82
  go_wp2_with fail
  refine HC.out.mono ?_
  rintro _ w1 ⟨rfl, f1⟩
  go_wp2_with fail
  refine (HT.out w1).mono ?_
  rintro _ w2 ⟨rfl, f2⟩
  have b2 := (HB1.out.fr f1).fr f2
  have HB2 := hideP b2
  have HF1 := hideP ((HF0.out.trans f1).trans f2)
  have v0 := b2.cell 0 rfl
  have v1 := b2.cell 1 rfl
  have v2 := b2.cell 2 rfl
  have y0 := b2.frozen 0
  have y1 := b2.frozen 1
  have y2 := b2.frozen 2
  clear b2 f1 f2
  go_wp2_with fail
  refine bodyPost_ret (v := .tuple #[.agg #[(.int .i64 rk), (.int .i64 rn), (.string rs)], .int .i64 rc]) ?_ rfl ⟨rfl, HF1.out.put3 (w.heap.size + 1) (by omega) _ _ _⟩
  obtain ⟨r0, r1, r2⟩ : (put3 w2 (w.heap.size + 1) (.int .i64 rk) (.int .i64 rn) (.string rs)).cell? ⟨w.heap.size + 1, 0, none⟩ = _ ∧ (put3 w2 (w.heap.size + 1) (.int .i64 rk) (.int .i64 rn) (.string rs)).cell? ⟨w.heap.size + 1, 1, none⟩ = _ ∧ (put3 w2 (w.heap.size + 1) (.int .i64 rk) (.int .i64 rn) (.string rs)).cell? ⟨w.heap.size + 1, 2, none⟩ = _ := ⟨(HB2.out.put3 _ _ _).cell 0 rfl, (HB2.out.put3 _ _ _).cell 1 rfl, (HB2.out.put3 _ _ _).cell 2 rfl⟩
  change (results Tryz.f82 _).run Tryz.prog (put3 w2 _ _ _ _) = .ok _ (put3 w2 _ _ _ _)
  simp [results, Tryz.results82, go_sem, r0, r1, r2])
theorem worth_cmp (b ln cp : Nat) (a : Option Addr) (kids vk vn : Int) (vs nm : ByteArray) (w : World) (op rk rn rc t : Int) (c : Nat) (rs : ByteArray) (hop : op ≠ 1 ∧ op ≠ 2 ∧ op ≠ 3 ∧ op ≠ 5 ∧ op ≠ 6 ∧ op ≠ 7 ∧ op ≠ 8 ∧ op ≠ 9 ∧ op ≠ 16 ∧ op ≠ 17 ∧ op ≠ 4)
  (hc : ∀ W, Fr w W → Calls Tryz.prog 99 #[.int .i64 op, .slice a ln cp] W fun e w' => e = .returned (.tuple #[.int .i64 t, .int .i64 (c : Int)]) ∧ Fr W w')
  (ht : ∀ W, Calls Tryz.prog 97 #[.int .i64 t, .int .i64 (c : Int)] W fun e w' => e = .returned (.tuple #[.agg #[.int .i64 rk, .int .i64 rn, .string rs], .int .i64 rc]) ∧ Fr W w') : Calls Tryz.prog 82 #[.map (some b), .agg #[.int .i64 op, .int .i64 kids, .int .i64 vk, .int .i64 vn, .string vs, .string nm], .slice a ln cp] w fun e w' => e = .returned (.tuple #[.agg #[.int .i64 rk, .int .i64 rn, .string rs], .int .i64 rc]) ∧ Fr w w' := by
 obtain ⟨W0, hW0⟩ : ∃ W0, (w.alloc (.cells #[.int .i64 op, .int .i64 kids, .int .i64 vk, .int .i64 vn, .string vs, .string nm] 61)).alloc (.cells #[.int .i64 0, .int .i64 0, .string ⟨#[]⟩] 56) = W0 := ⟨_, rfl⟩
 have bn : Blk W0 w.heap.size #[.int .i64 op, .int .i64 kids, .int .i64 vk, .int .i64 vn, .string vs, .string nm] 61 := by rw [← hW0]; exact (Blk.new w _ _).old _
 have b1 : Blk W0 (w.heap.size + 1) #[.int .i64 0, .int .i64 0, .string ⟨#[]⟩] 56 := by rw [← hW0]; have := Blk.new (w.alloc (.cells #[.int .i64 op, .int .i64 kids, .int .i64 vk, .int .i64 vn, .string vs, .string nm] 61)) #[.int .i64 0, .int .i64 0, .string ⟨#[]⟩] 56; simpa using this
 have f0 : Fr w W0 := by rw [← hW0]; exact ((Fr.refl w).alloc _).alloc _
 have HN := hideP bn
 have HB1 := hideP b1
 have HF0 := hideP f0
 have hle0 := Fr.size f0
 have u0 := bn.cell 0 rfl
 have u1 := bn.cell 1 rfl
 have u2 := bn.cell 2 rfl
 have u3 := bn.cell 3 rfl
 have u4 := bn.cell 4 rfl
 have u5 := bn.cell 5 rfl
 have HC := hideP (hc W0 f0)
 have HT := hideP ht
 obtain ⟨q1, q2, q3, q5, q6, q7, q8, q9, q16, q17, q4⟩ := hop
 replace q1 : (op == 1) = false := by simpa using q1
 replace q2 : (op == 2) = false := by simpa using q2
 replace q3 : (op == 3) = false := by simpa using q3
 replace q5 : (op == 5) = false := by simpa using q5
 replace q6 : (op == 6) = false := by simpa using q6
 replace q7 : (op == 7) = false := by simpa using q7
 replace q8 : (op == 8) = false := by simpa using q8
 replace q9 : (op == 9) = false := by simpa using q9
 replace q16 : (op == 16) = false := by simpa using q16
 replace q17 : (op == 17) = false := by simpa using q17
 replace q4 : (op == 4) = false := by simpa using q4
 clear bn b1 f0 hc ht
 go_enter Tryz.func82, Tryz.ntmps82
 go_wp2_with fail
 refine HC.out.mono ?_
 rintro _ w1 ⟨rfl, f1⟩
 go_wp2_with fail
 refine (HT.out w1).mono ?_
 rintro _ w2 ⟨rfl, f2⟩
 have b2 := (HB1.out.fr f1).fr f2
 have HB2 := hideP b2
 have HF1 := hideP ((HF0.out.trans f1).trans f2)
 have v0 := b2.cell 0 rfl
 have v1 := b2.cell 1 rfl
 have v2 := b2.cell 2 rfl
 have y0 := b2.frozen 0
 have y1 := b2.frozen 1
 have y2 := b2.frozen 2
 clear b2 f1 f2
 go_wp2_with fail
 refine bodyPost_ret (v := .tuple #[.agg #[(.int .i64 rk), (.int .i64 rn), (.string rs)], .int .i64 rc]) ?_ rfl ⟨rfl, HF1.out.put3 (w.heap.size + 1) (by omega) _ _ _⟩
 obtain ⟨r0, r1, r2⟩ : (put3 w2 (w.heap.size + 1) (.int .i64 rk) (.int .i64 rn) (.string rs)).cell? ⟨w.heap.size + 1, 0, none⟩ = _ ∧ (put3 w2 (w.heap.size + 1) (.int .i64 rk) (.int .i64 rn) (.string rs)).cell? ⟨w.heap.size + 1, 1, none⟩ = _ ∧ (put3 w2 (w.heap.size + 1) (.int .i64 rk) (.int .i64 rn) (.string rs)).cell? ⟨w.heap.size + 1, 2, none⟩ = _ := ⟨(HB2.out.put3 _ _ _).cell 0 rfl, (HB2.out.put3 _ _ _).cell 1 rfl, (HB2.out.put3 _ _ _).cell 2 rfl⟩
 change (results Tryz.f82 _).run Tryz.prog (put3 w2 _ _ _ _) = .ok _ (put3 w2 _ _ _ _)
 simp [results, Tryz.results82, go_sem, r0, r1, r2]
theorem exV_form (R : Except Nat VM.Vl) : ∃ (k n : Int) (s : ByteArray) (c : Int), exV R = .tuple #[.agg #[.int .i64 k, .int .i64 n, .string s], .int .i64 c] := by
 cases R with
 | ok y => exact ⟨_, _, _, _, rfl⟩
 | error c => exact ⟨_, _, _, _, rfl⟩
def EV.Aw (op : Int) (l : List VM.Vl) : Prop := op = 1 ∨ op = 2 ∨ ((op = 3 ∨ op = 4 ∨ (5 ≤ op ∧ op ≤ 9) ∨ op = 16 ∨ op = 17) ∧ 0 < l.length) ∨ EV.Ar op l
theorem worth_any (b k : Nat) (f : List UInt8 → Option VM.Vl) (n : EX.Nd) (v : Value) (l : List VM.Vl) (w : World) (hm : Mp w b k f) (hn : n.nm.size ≤ 140737488355327) (h : IsL cdV w v l) (hl : l.length ≤ 1000000)
  (hTn : Tn w) (hT : Tb w) (hb : ∀ x ∈ l, WH.Ok x.n) (hs : ∀ x ∈ l, x.s.size ≤ 9223372036854775807) (ha : EV.Aw n.op l) :
  Calls Tryz.prog 82 #[.map (some b), EX.val n, v] w fun e w' => e = .returned (exV (EV.wo f n l)) ∧ Fr w w' := by
 have h0 := h
 obtain ⟨a, cp, rfl, hcap, hcs⟩ := h0
 obtain ⟨op, kids, ⟨vk, vn, vs⟩, nm⟩ := n
 simp only [EX.val] at *
 unfold EV.wo
 simp only
 by_cases h1 : op = 1
 ·
  subst h1
  rw [if_pos rfl]
  exact worth_lit b l.length cp a kids vk vn vs nm w
 rw [if_neg h1]
 by_cases h2 : op = 2
 ·
  subst h2
  rw [if_pos rfl]
  cases hf : f nm.data.toList with
  | some y => exact worth_col b l.length cp a kids vk vn vs nm w k f y.k y.n y.s hm hn hf
  | none => exact worth_none b l.length cp a kids vk vn vs nm w k f hm hn hf
 rw [if_neg h2]
 by_cases h3 : op = 3 ∨ (5 ≤ op ∧ op ≤ 9)
 ·
  rw [if_pos h3]
  have hp : 0 < l.length := by
   rcases ha with h | h | h | h
   · omega
   · omega
   · exact h.2
   · unfold EV.Ar at h; omega
  have hc := fun W (g : Fr w W) => reckoned_any op _ l W (h.fr g) hp hl hb
  obtain ⟨rk, rn, rs, rc, e⟩ := exV_form (EV.rck op l)
  rw [e] at hc ⊢
  exact worth_rck b l.length cp a kids vk vn vs nm w op rk rn rc rs (by omega) hc
 rw [if_neg h3]
 by_cases h4 : op = 16 ∨ op = 17 ∨ op = 4
 ·
  rw [if_pos h4]
  have hp : 0 < l.length := by
   rcases ha with h | h | h | h
   · omega
   · omega
   · exact h.2
   · unfold EV.Ar at h; omega
  have hc := fun W (g : Fr w W) => joined_any op _ l W (h.fr g) hp hl
  rw [ex_two] at hc
  have ht := fun W => told_any (EV.two_ (EV.jn op l)).1 (EV.two_ (EV.jn op l)).2 W
  obtain ⟨rk, rn, rs, rc, e⟩ := exV_form (EV.tl (EV.two_ (EV.jn op l)))
  unfold EV.tl at e
  unfold EV.tl
  rw [e] at ht ⊢
  exact worth_jn b l.length cp a kids vk vn vs nm w op rk rn rc _ _ rs h4 hc ht
 rw [if_neg h4]
 have hr : EV.Ar op l := by
  rcases ha with h | h | h | h
  · omega
  · omega
  · omega
  · exact h
 have hc := fun W (g : Fr w W) => compared_any op l _ W (h.fr g) (hTn.fr g) (hT.fr g) hs hr
 have ht := fun W => told_any (EV.cmp op l).1 (EV.cmp op l).2 W
 obtain ⟨rk, rn, rs, rc, e⟩ := exV_form (EV.tl (EV.cmp op l))
 unfold EV.tl at e
 unfold EV.tl
 rw [e] at ht ⊢
 exact worth_cmp b l.length cp a kids vk vn vs nm w op rk rn rc _ _ rs (by omega) hc ht
end Go.Proofs.YtbcfdhimngoplaaGreatDoor
