/-
  What Limit of package bag answers.
-/
import Derived.Test.YtoepifbpchpfkaaGreatDoorBgH
namespace Go.Proofs.YtoepifbpchpfkaaGreatDoor
open Go.ChangeShapes Go.WideShapes Go.ChangeAt Go.RowKit
set_option linter.unusedVariables false
set_option linter.unusedSimpArgs false
set_option maxRecDepth 100000
set_option maxHeartbeats 2000000
namespace BG
/-- what Limit answers -/
def lim (ls : List (List VM.Vl)) (skip most : Int) : Except Nat (List (List VM.Vl)) := if chk ls ≠ 0 then .error (chk ls) else if skip < 0 ∨ most < 0 then .error 3 else .ok ((ls.drop skip.toNat).take most.toNat)
theorem lim_part (ls : List (List VM.Vl)) (skip most : Int) (K M : Nat) (hKe : K = min skip.toNat ls.length) (hMe : M = min most.toNat (ls.length - K)) : (ls.drop skip.toNat).take most.toNat = (ls.drop K).take M := by
  rw [hMe, hKe]
  by_cases h1 : skip.toNat ≤ ls.length
  · rw [Nat.min_eq_left h1]
    by_cases h2 : most.toNat ≤ ls.length - skip.toNat
    · rw [Nat.min_eq_left h2]
    · rw [Nat.min_eq_right (by omega), List.take_of_length_le (by simp; omega), List.take_of_length_le (by simp)]
  · have e1 : min skip.toNat ls.length = ls.length := by omega
    rw [e1, List.drop_of_length_le (show ls.length ≤ skip.toNat by omega), List.drop_length]
    simp
end BG
theorem limit_any (v : Value) (ls : List (List VM.Vl)) (skip most : Int) (w : World) (h : IsRR w v ls) (hL : ls.length ≤ 9223372036854775806) (hR : ∀ r ∈ ls, r.length ≤ 9223372036854775806) :
    Calls Tryz.prog 41 #[v, .int .i64 skip, .int .i64 most] w fun e w' => RA w.heap.size (BG.lim ls skip most) e w' ∧ Fr w w' := by
  have HK : Hid (BG.lim ls skip most = if BG.chk ls ≠ 0 then .error (BG.chk ls) else if skip < 0 ∨ most < 0 then .error 3 else .ok ((ls.drop skip.toNat).take most.toNat)) := rfl
  have HCk := hideP (bagCheck_any v ls w h hL hR)
  by_cases hc0 : BG.chk ls = 0
  · replace HK := hideP (HK.out.trans (if_neg (by simpa using hc0)))
    obtain ⟨h40, hall⟩ := BG.chk_all hc0
    rw [hc0] at HCk
    obtain ⟨a, c, rfl⟩ := h.slice
    have hcc : ls.length ≤ c := by obtain ⟨_, _, _, hc, _⟩ := h.at; exact hc
    by_cases hneg : skip < 0 ∨ most < 0
    · replace HK := hideP (HK.out.trans (if_pos hneg))
      generalize BG.lim ls skip most = R at *
      clear hall h hc0 hR hL
      by_cases hs : skip < 0
      · go_enter Tryz.func41, Tryz.ntmps41
        go_wp2_with fail
        refine HCk.out.mono ?_
        rintro _ w1 ⟨rfl, f1⟩
        have F1 := hideP f1
        clear f1 HCk
        go_wp2_with fail
        go_ret2
        exact ⟨by rw [HK.out]; rfl, F1.out⟩
      · have hm : most < 0 := by omega
        go_enter Tryz.func41, Tryz.ntmps41
        go_wp2_with fail
        refine HCk.out.mono ?_
        rintro _ w1 ⟨rfl, f1⟩
        have F1 := hideP f1
        clear f1 HCk
        go_wp2_with fail
        go_ret2
        exact ⟨by rw [HK.out]; rfl, F1.out⟩
    · replace HK := hideP (HK.out.trans (if_neg hneg))
      have hs : 0 ≤ skip := by omega
      have hm : 0 ≤ most := by omega
      obtain ⟨K, hKn, hmin, hKe⟩ := min_k skip ls.length hs
      obtain ⟨M, hMn, hmin2, hMe⟩ := min_k most (ls.length - K) hm
      rw [BG.lim_part ls skip most K M hKe hMe] at HK
      have hkc : K ≤ c := by omega
      have HCp := hideP (fun (W : World) (A : Option Addr) (f : Fr w W) (hA : ∀ b o, a = some ⟨b, o, none⟩ → M = 0 ∨ A = some ⟨b, o + K, none⟩) => copied_any (.slice A M (c - K)) ((ls.drop K).take M) W (isRR_cut (h.fr f) K M (by omega) A hA) (by simp; omega) (fun r hr => by have := (hall r (List.mem_of_mem_drop (List.mem_of_mem_take hr))).1; omega))
      have HPl := hideP (show ((ls.drop K).take M).length ≤ 40 by simp; omega)
      generalize (ls.drop K).take M = part at *
      generalize BG.lim ls skip most = R at *
      have hs' : ¬ skip < 0 := by omega
      have hm' : ¬ most < 0 := by omega
      have hkc' : (K : Int) ≤ (c : Int) := by omega
      have hkn : (K : Int) ≤ (ls.length : Int) := by omega
      have hmm : (M : Int) ≤ (c : Int) - (K : Int) := by omega
      clear hall hKe hMe h hc0 hL hR hneg hs hm
      generalize ls.length = n at *
      go_enter Tryz.func41, Tryz.ntmps41
      go_wp2_with fail
      refine HCk.out.mono ?_
      rintro _ w1 ⟨rfl, f1⟩
      have F1 := hideP f1
      clear f1 HCk
      go_wp2_with fail
      · have hck : c = K := by assumption
        subst hck
        have cc := HCp.out w1 a F1.out (fun b o e => .inl (by omega))
        rw [Nat.sub_self] at cc
        refine cc.mono ?_
        rintro _ w2 ⟨⟨u, rfl, hO⟩, f2⟩
        obtain ⟨ua, un, uc, rfl⟩ : ∃ a n c, u = .slice a n c := by obtain ⟨G, _, _, e, _⟩ := hO; exact ⟨_, _, _, e⟩
        have HO := hideP ((hO.orr (by unfold maxLen; have := HPl.out; omega)).low F1.out.size)
        have F2 := hideP (F1.out.trans f2)
        clear hO f2
        go_wp2_with fail
        go_ret2
        exact ⟨by rw [HK.out]; exact ⟨_, rfl, HO.out⟩, F2.out⟩
      · have cc := HCp.out w1 (Option.map (fun x => x.add K) a) F1.out (fun b o e => .inr (by rw [e]; simp [Addr.add_lit]))
        refine cc.mono ?_
        rintro _ w2 ⟨⟨u, rfl, hO⟩, f2⟩
        obtain ⟨ua, un, uc, rfl⟩ : ∃ a n c, u = .slice a n c := by obtain ⟨G, _, _, e, _⟩ := hO; exact ⟨_, _, _, e⟩
        have HO := hideP ((hO.orr (by unfold maxLen; have := HPl.out; omega)).low F1.out.size)
        have F2 := hideP (F1.out.trans f2)
        clear hO f2
        go_wp2_with fail
        go_ret2
        exact ⟨by rw [HK.out]; exact ⟨_, rfl, HO.out⟩, F2.out⟩
  · replace HK := hideP (HK.out.trans (if_pos hc0))
    obtain ⟨a, c, rfl⟩ := h.slice
    generalize BG.lim ls skip most = R at *
    generalize BG.chk ls = z at *
    have e1 : ((z : Int) != 0) = true := by simp; omega
    have e2 : ¬ ((z : Int) = 0) := by omega
    clear h hL hR
    go_enter Tryz.func41, Tryz.ntmps41
    go_wp2_with fail
    refine HCk.out.mono ?_
    rintro _ w1 ⟨rfl, f1⟩
    have F1 := hideP f1
    clear f1 HCk
    go_wp2_with fail
    go_ret2
    exact ⟨by rw [HK.out]; rfl, F1.out⟩
end Go.Proofs.YtoepifbpchpfkaaGreatDoor
