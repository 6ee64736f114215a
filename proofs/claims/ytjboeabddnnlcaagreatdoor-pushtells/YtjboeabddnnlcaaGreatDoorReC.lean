/-
  What the document's own ExprBegin answers.
-/
import Derived.Test.YtjboeabddnnlcaaGreatDoorReB
import Derived.Test.YtjboeabddnnlcaaGreatDoorGpG
namespace Go.Proofs.YtjboeabddnnlcaaGreatDoor
open Go.ChangeShapes Go.WideShapes Go.ChangeAt Go.RowKit
set_option linter.unusedVariables false
set_option linter.unusedSimpArgs false
set_option maxRecDepth 100000
set_option maxHeartbeats 2000000

namespace EX
theorem take_succ : ∀ (m : Nat) (t : F), m < t.len → t.good → ∃ n k, F.take (m + 1) t = F.app (F.take m t) (.nd n k .nil) ∧ (F.nd n k .nil).good ∧ t.parts[m]? = some (k.flat ++ [n])
  | m, .nil, h, _ => by simp [F.len] at h
  | 0, .nd n k s, _, hg => ⟨n, k, by simp [F.take, F.app], ⟨hg.1, hg.2.1, hg.2.2.1, trivial⟩, rfl⟩
  | m + 1, .nd n k s, h, hg => by
    obtain ⟨n', k', h1, h2, h3⟩ := take_succ m s (by simp only [F.len] at h; omega) hg.2.2.2
    exact ⟨n', k', by rw [F.take, h1]; rfl, h2, by simpa [F.parts] using h3⟩
theorem take_full : ∀ (t : F), F.take t.len t = t
  | .nil => rfl
  | .nd n k s => by simp only [F.len, F.take, take_full s]
end EX
/-- ExprBegin keeps its word of trees that have fewer nodes -/
def BgTo (N : Nat) : Prop := ∀ (n : EX.Nd) (k : EX.F) (A R : List EX.Nd) (v : Value) (W : World), (k.flat ++ [n]).length < N → (EX.F.nd n k .nil).good → (A ++ (k.flat ++ [n]) ++ R).length ≤ 1000 → IsL cdN W v (A ++ (k.flat ++ [n]) ++ R) →
  Calls Tryz.prog 68 #[v, .int .i64 (((A.length + (k.flat ++ [n]).length : Nat)) : Int)] W fun r w' => r = .returned (.int .i64 (A.length : Int)) ∧ Fr W w'
theorem begin_core (n : EX.Nd) (k : EX.F) (A R : List EX.Nd) (v : Value) (w : World) (HP : BgTo (k.flat ++ [n]).length) (hg : (EX.F.nd n k .nil).good) (hl : (A ++ (k.flat ++ [n]) ++ R).length ≤ 1000) (h : IsL cdN w v (A ++ (k.flat ++ [n]) ++ R)) :
    Calls Tryz.prog 68 #[v, .int .i64 (((A.length + (k.flat ++ [n]).length : Nat)) : Int)] w fun r w' => r = .returned (.int .i64 (A.length : Int)) ∧ Fr w w' := by
  have HSt : Hid (∀ m, m < k.len → ∀ W, Fr w W → Calls Tryz.prog 68 #[v, .int .i64 (((A.length + (EX.F.take (m + 1) k).flat.length : Nat)) : Int)] W fun r w' => r = .returned (.int .i64 ((A.length + (EX.F.take m k).flat.length : Nat) : Int)) ∧ Fr W w') := by
    intro m hm W g
    obtain ⟨n', k', h1, h2, _⟩ := EX.take_succ m k hm hg.2.2.1
    have hf : (EX.F.take (m + 1) k).flat = (EX.F.take m k).flat ++ (k'.flat ++ [n']) := by rw [h1, EX.F.flat_app]; rfl
    have hk : k.flat = (EX.F.take m k).flat ++ (k'.flat ++ [n']) ++ (EX.F.drop (m + 1) k).flat := by
      rw [← hf, ← EX.F.flat_app, EX.F.take_drop]
    have he : A ++ (k.flat ++ [n]) ++ R = (A ++ (EX.F.take m k).flat) ++ (k'.flat ++ [n']) ++ ((EX.F.drop (m + 1) k).flat ++ [n] ++ R) := by
      rw [hk]
      simp only [List.append_assoc]
    have hc := HP n' k' (A ++ (EX.F.take m k).flat) ((EX.F.drop (m + 1) k).flat ++ [n] ++ R) v W (by
      have := congrArg List.length hk
      simp only [List.length_append, List.length_cons, List.length_nil] at this ⊢
      omega) h2 (by rw [← he]; exact hl) (by rw [← he]; exact h.fr g)
    rw [List.length_append] at hc
    have e1 : A.length + (EX.F.take (m + 1) k).flat.length = A.length + (EX.F.take m k).flat.length + (k'.flat ++ [n']).length := by
      rw [hf, List.length_append]
      omega
    rw [e1]
    exact hc
  have hkk := hg.2.1
  obtain ⟨a, cap, rfl, hcap, hcs⟩ := h
  obtain ⟨b, o, rfl, hb, hat⟩ : ∃ b o, a = some ⟨b, o, none⟩ ∧ b < w.heap.size ∧ At cdN w b o (A ++ (k.flat ++ [n]) ++ R) := by
    rcases hcs with h | h
    · simp at h
    · exact h
  have HC := hideP (fun W (g : Fr w W) => ((hat.fr hb g).nd (A.length + k.flat.length) (by simp <;> omega)).2.1)
  have hget : (A ++ (k.flat ++ [n]) ++ R)[A.length + k.flat.length]'(by simp <;> omega) = n := by
    simp [List.getElem_append]
  rw [hget, hkk] at HC
  have hfull := EX.take_full k
  have hlen : (A ++ (k.flat ++ [n]) ++ R).length = A.length + k.flat.length + 1 + R.length := by simp; omega
  rw [hlen] at hl hcap HSt ⊢
  have e0 : A.length + (k.flat ++ [n]).length = A.length + k.flat.length + 1 := by simp; omega
  rw [e0]
  have HFu : Hid ((EX.F.take (k.len - 0) k).flat.length = k.flat.length) := by unfold Hid; rw [Nat.sub_zero, hfull]
  have HZe : Hid ((EX.F.take 0 k).flat.length = 0) := by unfold Hid; cases k <;> rfl
  have hlk : k.len ≤ 1000 := by
    have : k.len ≤ k.flat.length := by
      have key : ∀ (t : EX.F), t.len ≤ t.flat.length := by
        intro t
        induction t with
        | nil => exact Nat.le_refl _
        | nd n k s _ ih => simp only [EX.F.len, EX.F.flat, List.length_append, List.length_cons]; omega
      exact key k
    omega
  clear hcs hat hget hlen e0 HP hg hkk hfull
  generalize A.length = p at *
  generalize k.flat.length = kf at *
  generalize R.length = r0 at *
  have hx1 : (1 : Int) ≤ (p : Int) + (kf : Int) + 1 := by omega
  have hx2 : (p : Int) + (kf : Int) ≤ 1000 := by omega
  have hx3 : 0 ≤ (p : Int) + (kf : Int) := by omega
  have hx4 : (p : Int) + (kf : Int) < (p : Int) + (kf : Int) + 1 + (r0 : Int) := by omega
  generalize k.len = K at *
  rw [show (((p + kf + 1 : Nat)) : Int) = (p : Int) + (kf : Int) + 1 by omega]
  go_enter Tryz.func68, Tryz.ntmps68
  go_wp2_with fail
  go_loopw [5, 6] (fun av kv wr => ∃ j : Nat, kv = .int .i64 j ∧ j ≤ K ∧ av = .int .i64 ((p + (EX.F.take (K - j) k).flat.length : Nat) : Int) ∧ Fr w wr) (fun _ kv _ => K - (intOf kv).toNat)
  case atStart => exact ⟨0, rfl, Nat.zero_le _, by rw [HFu.out]; simp, Fr.refl _⟩
  case round =>
    obtain ⟨j, rfl, hj, rfl, hfr⟩ := hrel
    have HF := hideP hfr
    clear hfr
    have c1 := HC.out wr HF.out
    by_cases hlt : j < K
    · have hlt' : (j : Int) < (K : Int) := by omega
      have hst := HSt.out (K - (j + 1)) (by omega) wr HF.out
      rw [show K - (j + 1) + 1 = K - j by omega] at hst
      have HS := hideP hst
      clear hst
      generalize (EX.F.take (K - j) k).flat.length = x at *
      generalize hy : (EX.F.take (K - (j + 1)) k).flat.length = y at *
      have HY := hideP hy
      clear hy
      simp only [Int.natCast_add] at HS ⊢
      go_wp2_with fail
      refine HS.out.mono ?_
      rintro _ w2 ⟨rfl, f2⟩
      have F2 := hideP (HF.out.trans f2)
      clear f2
      go_wp2_with fail
      go_roundw
      case rel => exact ⟨j + 1, by go_num, by omega, by rw [HY.out], F2.out⟩
      case measure => simp [intOf]; omega
    · obtain rfl : j = K := by omega
      have hlt' : ((j : Int) < (j : Int)) = False := by simp
      rw [Nat.sub_self, HZe.out, Nat.add_zero]
      go_wp2_with fail
      go_ret
      exact ⟨rfl, HF.out⟩
theorem bgTo : ∀ N, BgTo N
  | 0 => fun n k A R v W h => by simp at h
  | N + 1 => fun n k A R v W h hg hl hi => begin_core n k A R v W (fun n' k' A' R' v' W' h' => bgTo N n' k' A' R' v' W' (by omega)) hg hl hi
end Go.Proofs.YtjboeabddnnlcaaGreatDoor
