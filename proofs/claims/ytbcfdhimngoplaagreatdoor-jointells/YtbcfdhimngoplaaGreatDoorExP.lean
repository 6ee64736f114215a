/-
  What Depth and Check of package expr answer.
-/
import Derived.Test.YtbcfdhimngoplaaGreatDoorExU
namespace Go.Proofs.YtbcfdhimngoplaaGreatDoor
open Go.ChangeShapes Go.WideShapes Go.ChangeAt Go.RowKit
set_option linter.unusedVariables false
set_option linter.unusedSimpArgs false
set_option maxRecDepth 100000
set_option maxHeartbeats 2000000
namespace EX
theorem up_pos {α : Type} {f : Nd → List α → Except Nat α} : ∀ (e : List Nd) (free out : List α), up f e free = .ok out → (e ≠ [] ∨ free ≠ []) → out ≠ []
 | [], free, out, h, hp => by
  cases h
  rcases hp with h | h
  · exact absurd rfl h
  · exact h
 | n :: e, free, out, h, _ => by
  unfold up at h
  split at h
  · cases h
  · exact up_pos e _ out h (.inr (by simp))
def dep (e : List Nd) : Except Nat Nat := if 60 < e.length then .error 2 else if e.length = 0 then .error 1 else
 match up dOf e [] with
 | .error c => .error c
 | .ok out => if 1 < out.length then .error 1 else if 12 < out.headD 0 then .error 10 else .ok (out.headD 0)
def ck (e : List Nd) : Nat := match dep e with
 | .error c => c
 | .ok _ => 0
theorem dep_ne {e : List Nd} {c : Nat} (h : dep e = .error c) : c ≠ 0 := by
 unfold dep at h
 split at h
 · cases h; decide
 ·
  split at h
  · cases h; decide
  ·
   split at h
   ·
    rename_i hu
    cases h
    have key : ∀ (e : List Nd) (free : List Nat) (c : Nat), up dOf e free = .error c → c ≠ 0 := by
     intro e
     induction e with
     | nil => intro free c h; cases h
     | cons n e ih =>
      intro free c h
      unfold up at h
      split at h
      ·
       rename_i hx
       cases h
       exact dOf_ne hx
      · exact ih _ _ h
    exact key _ _ _ hu
   ·
    split at h
    · cases h; decide
    ·
     split at h
     · cases h; decide
     · cases h
end EX
theorem depth_any (v : Value) (e : List EX.Nd) (w : World) (h : IsL cdN w v e) (hn : ∀ n ∈ e, n.nm.size ≤ 140737488355327) (hl : e.length ≤ 9223372036854775806) :
  Calls Tryz.prog 63 #[v] w fun r w' => r = .returned (exI (EX.dep e)) ∧ Fr w w' := by
 have HD : Hid (EX.dep e = if 60 < e.length then .error 2 else if e.length = 0 then .error 1 else
  match EX.up EX.dOf e [] with
  | .error c => .error c
  | .ok out => if 1 < out.length then .error 1 else if 12 < out.headD 0 then .error 10 else .ok (out.headD 0)) := rfl
 generalize EX.dep e = D at *
 have hu := fun (hs : e.length ≤ 1000) => upD_any v e w h hn hs
 obtain ⟨a, cap, rfl, hcap, hcs⟩ := h
 have HPos := hideP (fun out (h1 : EX.up EX.dOf e [] = .ok out) (h2 : ¬ e.length = 0) => EX.up_pos e [] out h1 (.inl (fun h3 => h2 (by rw [h3]; rfl))))
 clear hcs hn
 by_cases h60 : 60 < e.length
 ·
  have h60' : (60 : Int) < (e.length : Int) := by omega
  replace HD := hideP (HD.out.trans (if_pos h60))
  rw [HD.out]
  go_enter Tryz.func63, Tryz.ntmps63
  go_wp2_with fail
  go_ret2
  exact ⟨rfl, Fr.refl _⟩
 have h60' : ¬ (60 : Int) < (e.length : Int) := by omega
 replace HD := hideP (HD.out.trans (if_neg h60))
 have hu' := hu (by omega)
 clear hu h60
 by_cases h0 : e.length = 0
 ·
  replace HD := hideP (HD.out.trans (if_pos h0))
  rw [HD.out]
  rw [h0] at h60' ⊢
  go_enter Tryz.func63, Tryz.ntmps63
  go_wp2_with fail
  go_ret2
  exact ⟨rfl, Fr.refl _⟩
 have h0' : ¬ ((e.length : Int) = 0) := by omega
 have h0b : ((e.length : Int) == 0) = false := by rw [beq_eq_false_iff_ne]; exact h0'
 replace HD := hideP (HD.out.trans (if_neg h0))
 have H0 := hideP h0
 generalize e.length = el at *
 clear h0
 go_enter Tryz.func63, Tryz.ntmps63
 go_wp2_with fail
 refine hu'.mono ?_
 rintro r1 w1 ⟨ha, f1⟩
 have F1 := hideP f1
 clear f1 hu'
 rcases ha with ⟨out, u, hup, rfl, hown⟩ | ⟨c, hup, hc, rfl⟩
 ·
  rw [hup] at HD
  simp only at HD
  have hpos := HPos.out out hup H0.out
  obtain ⟨ua, uc, rfl⟩ := own_slice hown
  cases out with
  | nil => exact absurd rfl hpos
  | cons x rest =>
   obtain ⟨ga, gc, hge, hgc, hgg⟩ := isL_own hown
   cases hge
   obtain ⟨g, o, rfl, hgb, hgat⟩ : ∃ b o, ua = some ⟨b, o, none⟩ ∧ b < w1.heap.size ∧ At cdI w1 b o (x :: rest) := by
    rcases hgg with h | h
    · cases h
    · exact h
   have c0 := hgat.i1 0 (by simp)
   simp only [List.getElem_cons_zero, Nat.add_zero] at c0
   simp only [List.length_cons, List.headD_cons] at HD ⊢
   clear hgat hgg hown hpos HPos hup
   by_cases h1 : 1 < rest.length + 1
   ·
    have h1' : (1 : Int) < (rest.length : Int) + 1 := by omega
    replace HD := hideP (HD.out.trans (if_pos h1))
    go_wp2_with fail
    go_ret2
    exact ⟨by rw [HD.out]; rfl, F1.out⟩
   ·
    have h1' : ¬ (1 : Int) < (rest.length : Int) + 1 := by omega
    have h1'' : (0 : Int) < (rest.length : Int) + 1 := by omega
    replace HD := hideP (HD.out.trans (if_neg h1))
    by_cases h12 : 12 < x
    ·
     have h12' : (12 : Int) < (x : Int) := by omega
     replace HD := hideP (HD.out.trans (if_pos h12))
     go_wp2_with fail
     go_ret2
     exact ⟨by rw [HD.out]; rfl, F1.out⟩
    ·
     have h12' : ¬ (12 : Int) < (x : Int) := by omega
     replace HD := hideP (HD.out.trans (if_neg h12))
     go_wp2_with fail
     go_ret2
     exact ⟨by rw [HD.out]; rfl, F1.out⟩
 ·
  rw [hup] at HD
  simp only at HD
  have e1 : ((c : Int) != 0) = true := by simp; omega
  have e2 : ¬ ((c : Int) = 0) := by omega
  go_wp2_with fail
  go_ret2
  exact ⟨by rw [HD.out]; rfl, F1.out⟩
theorem xcheck_any (v : Value) (e : List EX.Nd) (w : World) (h : IsL cdN w v e) (hn : ∀ n ∈ e, n.nm.size ≤ 140737488355327) (hl : e.length ≤ 9223372036854775806) :
  Calls Tryz.prog 43 #[v] w fun r w' => r = .returned (.int .i64 (EX.ck e)) ∧ Fr w w' := by
 have cd := depth_any v e w h hn hl
 have HK : Hid (EX.ck e = match EX.dep e with
  | .error c => c
  | .ok _ => 0) := rfl
 obtain ⟨a, cap, rfl, _⟩ := h
 generalize EX.ck e = z at *
 cases hd : EX.dep e with
 | error c =>
  rw [hd] at cd HK
  simp only [exI] at cd
  rw [HK.out]
  go_enter Tryz.func43, Tryz.ntmps43
  go_wp2_with fail
  refine cd.mono ?_
  rintro _ w1 ⟨rfl, f1⟩
  go_wp2_with fail
  go_ret
  exact ⟨rfl, f1⟩
 | ok x =>
  rw [hd] at cd HK
  simp only [exI] at cd
  rw [HK.out]
  go_enter Tryz.func43, Tryz.ntmps43
  go_wp2_with fail
  refine cd.mono ?_
  rintro _ w1 ⟨rfl, f1⟩
  go_wp2_with fail
  go_ret
  exact ⟨rfl, f1⟩
end Go.Proofs.YtbcfdhimngoplaaGreatDoor
