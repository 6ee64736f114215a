/-
  What depthOf of package expr answers.
-/
import Derived.Test.YtbcfdhimngoplaaGreatDoorExC
namespace Go.Proofs.YtbcfdhimngoplaaGreatDoor
open Go.ChangeShapes Go.WideShapes Go.ChangeAt Go.RowKit
set_option linter.unusedVariables false
set_option linter.unusedSimpArgs false
set_option maxRecDepth 100000
set_option maxHeartbeats 2000000
namespace EX
def mx (l : List Nat) : Nat := l.foldl max 0
def dOf (n : Nd) (l : List Nat) : Except Nat Nat := if nchk n ≠ 0 then .error (nchk n) else if (l.length : Int) < n.kids then .error 1 else .ok (mx l + 1)
theorem mx_snoc (l : List Nat) (x : Nat) : mx (l ++ [x]) = max (mx l) x := by unfold mx; rw [List.foldl_append]; rfl
theorem mx_le {l : List Nat} {b : Nat} (h : ∀ x ∈ l, x ≤ b) : mx l ≤ b := by
 have key : ∀ (l : List Nat) (a : Nat), a ≤ b → (∀ x ∈ l, x ≤ b) → l.foldl max a ≤ b := by
  intro l
  induction l with
  | nil => intro a ha _; exact ha
  | cons x l ih => intro a ha h; exact ih (max a x) (by have := h x (by simp); omega) (fun y hy => h y (by simp [hy]))
 exact key l 0 (Nat.zero_le _) h
end EX
def cdI : Cd Nat := ⟨1, fun x => [.int .i64 (x : Int)], by decide, fun _ => rfl, fun x u h => by simp at h; subst h; rfl⟩
theorem At.i1 {w : World} {b o : Nat} {l : List Nat} (h : At cdI w b o l) (i : Nat) (hi : i < l.length) : w.cell? ⟨b, o + i, none⟩ = some (.int .i64 (l[i] : Int)) :=
 h i _ (by have := flat_get cdI l i 0 hi (by decide); simpa [cdI] using this)
def exI (e : Except Nat Nat) : Value := match e with
 | .ok x => .tuple #[.int .i64 (x : Int), .int .i64 0]
 | .error c => .tuple #[.int .i64 0, .int .i64 (c : Int)]
theorem depthOf_any (n : EX.Nd) (v : Value) (l : List Nat) (w : World) (hn : n.nm.size ≤ 140737488355327) (h : IsL cdI w v l) (hl : l.length ≤ 1000000) (hb : ∀ x ∈ l, x ≤ 1000000) :
  Calls Tryz.prog 84 #[EX.val n, v] w fun e w' => e = .returned (exI (EX.dOf n l)) ∧ Fr w w' := by
 have cc := fun W => checkNode_any n W hn
 have HD : Hid (EX.dOf n l = if EX.nchk n ≠ 0 then .error (EX.nchk n) else if (l.length : Int) < n.kids then .error 1 else .ok (EX.mx l + 1)) := rfl
 generalize EX.dOf n l = D at *
 generalize EX.nchk n = z at *
 obtain ⟨op, kids, ⟨vk, vn, vs⟩, nm⟩ := n
 simp only [EX.val] at *
 obtain ⟨a, cap, rfl, hcap, hcs⟩ := h
 have HC := hideP hcs
 have HBd := hideP (fun i => EX.mx_le (l := l.take i) (b := 1000000) (fun x hx => hb x (List.mem_of_mem_take hx)))
 have HB := hideP (Blk.new w #[.int .i64 op, .int .i64 kids, .int .i64 vk, .int .i64 vn, .string vs, .string nm] 61)
 have F0 := hideP ((Fr.refl w).alloc (.cells #[.int .i64 op, .int .i64 kids, .int .i64 vk, .int .i64 vn, .string vs, .string nm] 61))
 clear hcs hb
 by_cases h0 : z = 0
 ·
  subst h0
  replace HD := hideP (HD.out.trans (if_neg (by simp)))
  by_cases h1 : (l.length : Int) < kids
  ·
   replace HD := hideP (HD.out.trans (if_pos h1))
   rw [HD.out]
   go_enter Tryz.func84, Tryz.ntmps84
   go_wp2_with fail
   refine (cc _).mono ?_
   rintro _ w1 ⟨rfl, f1⟩
   have q1 := (HB.out.fr f1).cell 1 rfl
   go_wp2_with fail
   go_ret2
   exact ⟨rfl, F0.out.trans f1⟩
  ·
   replace HD := hideP (HD.out.trans (if_neg h1))
   rw [HD.out]
   go_enter Tryz.func84, Tryz.ntmps84
   go_wp2_with fail
   refine (cc _).mono ?_
   rintro _ w1 ⟨rfl, f1⟩
   have q1 := (HB.out.fr f1).cell 1 rfl
   have F1 := hideP (F0.out.trans f1)
   clear f1
   go_wp2_with fail
   clear q1
   go_loopw [7, 9, 22] (fun dv _ iv wr => ∃ i : Nat, iv = .int .i64 i ∧ i ≤ l.length ∧ dv = .int .i64 ((EX.mx (l.take i) : Nat) : Int) ∧ wr = w1) (fun _ _ iv _ => l.length - (intOf iv).toNat)
   case atStart => exact ⟨0, rfl, Nat.zero_le _, rfl, rfl⟩
   case round =>
    obtain ⟨i, rfl, hi, rfl, rfl⟩ := hrel
    by_cases hlt : i < l.length
    ·
     have hlt' : (i : Int) < (l.length : Int) := by omega
     obtain ⟨b, o, rfl, hb, hc⟩ : ∃ b o, a = some ⟨b, o, none⟩ ∧ b < w.heap.size ∧ At cdI w b o l := by
      rcases HC.out with h | h
      · rw [h] at hlt; simp at hlt
      · exact h
     have c0 := (hc.fr hb F1.out).i1 i hlt
     have htk : EX.mx (l.take (i + 1)) = max (EX.mx (l.take i)) l[i] := by
      rw [List.take_succ_eq_append_getElem hlt, EX.mx_snoc]
     generalize l[i] = y at *
     generalize EX.mx (l.take i) = m at *
     generalize htk2 : EX.mx (l.take (i + 1)) = m' at *
     have HT := hideP htk
     have HT2 := hideP htk2
     clear hc htk htk2
     go_wp2_with fail
     go_roundw
     case rel => exact ⟨i + 1, by go_num, by omega, by rw [HT2.out, HT.out]; simp; omega, by first | rfl | trivial⟩
     case measure => simp [intOf]; omega
    ·
     obtain rfl : i = l.length := by omega
     have hlt' : ((l.length : Int) < (l.length : Int)) = False := by simp
     have hbd := HBd.out l.length
     rw [List.take_length] at hbd ⊢
     have hbd' : ((EX.mx l : Nat) : Int) ≤ 1000000 := by omega
     go_wp2_with fail
     go_ret2
     exact ⟨by simp [exI], F1.out⟩
 ·
  replace HD := hideP (HD.out.trans (if_pos h0))
  rw [HD.out]
  have e1 : ((z : Int) != 0) = true := by simp; omega
  have e2 : ¬ ((z : Int) = 0) := by omega
  go_enter Tryz.func84, Tryz.ntmps84
  go_wp2_with fail
  refine (cc _).mono ?_
  rintro _ w1 ⟨rfl, f1⟩
  go_wp2_with fail
  go_ret2
  exact ⟨rfl, F0.out.trans f1⟩
end Go.Proofs.YtbcfdhimngoplaaGreatDoor
