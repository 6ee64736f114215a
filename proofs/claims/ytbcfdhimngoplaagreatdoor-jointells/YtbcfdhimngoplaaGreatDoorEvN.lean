/-
  What Truth of package eval answers.
-/
import Derived.Test.YtbcfdhimngoplaaGreatDoorEvM
namespace Go.Proofs.YtbcfdhimngoplaaGreatDoor
open Go.ChangeShapes Go.WideShapes Go.ChangeAt Go.RowKit
set_option linter.unusedVariables false
set_option linter.unusedSimpArgs false
set_option maxRecDepth 100000
set_option maxHeartbeats 2000000
theorem EX.up_ne {α : Type} {f : EX.Nd → List α → Except Nat α} (hf : ∀ n l c, f n l = .error c → c ≠ 0) : ∀ (e : List EX.Nd) (free : List α) (c : Nat), EX.up f e free = .error c → c ≠ 0
 | [], free, c, h => by cases h
 | n :: e, free, c, h => by
  rw [EX.up] at h
  split at h
  ·
   rename_i c' hc
   cases h
   exact hf _ _ _ hc
  · exact EX.up_ne hf e _ c h
namespace EV
theorem ev_ne {e : List EX.Nd} {cs : List ByteArray} {l : List VM.Vl} {c : Nat} (h : ev e cs l = .error c) : c ≠ 0 := by
 unfold ev at h
 split at h
 · cases h; assumption
 split at h
 · cases h; assumption
 split at h
 ·
  rename_i c' hc
  cases h
  exact EX.up_ne (fun n l c h => wo_ne h) e [] c hc
 · cases h
def tru (e : List EX.Nd) (cs : List ByteArray) (l : List VM.Vl) : Except Nat Int := match ev e cs l with
 | .error c => .error c
 | .ok v => tr v
end EV
theorem truth_any (va ua ra : Value) (e : List EX.Nd) (cs : List ByteArray) (l : List VM.Vl) (w : World) (he : IsL cdN w va e) (hu : IsL cdB w ua cs) (hv : IsL cdV w ra l) (hn : ∀ n ∈ e, n.nm.size ≤ 140737488355327) (hl : e.length ≤ 9223372036854775806)
  (hs : ∀ c ∈ cs, c.size ≤ 140737488355327) (hTn : Tn w) (hT : Tb w) (hgn : ∀ n ∈ e, EV.gd n.v) (hgl : ∀ x ∈ l, EV.gd x) :
  Calls Tryz.prog 44 #[va, ua, ra] w fun r w' => r = .returned (exT (EV.tru e cs l)) ∧ Fr w w' := by
 have HK : Hid (EV.tru e cs l = match EV.ev e cs l with
  | .error c => .error c
  | .ok v => EV.tr v) := rfl
 have HE := hideP (eval_any va ua ra e cs l w he hu hv hn hl hs hTn hT hgn hgl)
 have HNe := hideP (fun c (h : EV.ev e cs l = .error c) => EV.ev_ne h)
 obtain ⟨a1, n1, c1, rfl⟩ : ∃ a n c, va = .slice a n c := by obtain ⟨a, c, h, _⟩ := he; exact ⟨a, _, c, h⟩
 obtain ⟨a2, n2, c2, rfl⟩ : ∃ a n c, ua = .slice a n c := by obtain ⟨a, c, h, _⟩ := hu; exact ⟨a, _, c, h⟩
 obtain ⟨a3, n3, c3, rfl⟩ : ∃ a n c, ra = .slice a n c := by obtain ⟨a, c, h, _⟩ := hv; exact ⟨a, _, c, h⟩
 clear he hu hv hn hl hs hTn hT hgn hgl
 generalize EV.tru e cs l = R at *
 generalize EV.ev e cs l = D at *
 cases D with
 | error c =>
  have h0 := HNe.out c rfl
  replace HK := hideP (show R = .error c from HK.out)
  simp only [exV, vlV] at HE
  have e1 : ((c : Int) != 0) = true := by simp; omega
  have e2 : ¬ ((c : Int) = 0) := by omega
  go_enter Tryz.func44, Tryz.ntmps44
  go_wp2_with fail
  refine HE.out.mono ?_
  rintro _ w1 ⟨rfl, f1⟩
  go_wp2_with fail
  go_ret2
  exact ⟨by rw [HK.out]; rfl, f1.alloc _⟩
 | ok x =>
  replace HK := hideP (show R = EV.tr x from HK.out)
  simp only [exV, vlV] at HE
  have HT := hideP (fun W => truthOf_any x W)
  simp only [vlV] at HT
  obtain ⟨p, q, hpq⟩ : ∃ p q, exT (EV.tr x) = .tuple #[.int .i64 p, .int .i64 q] := by
   cases EV.tr x with
   | ok y => exact ⟨_, _, rfl⟩
   | error c => exact ⟨_, _, rfl⟩
  rw [hpq] at HT
  go_enter Tryz.func44, Tryz.ntmps44
  go_wp2_with fail
  refine HE.out.mono ?_
  rintro _ w1 ⟨rfl, f1⟩
  go_wp2_with fail
  refine (HT.out _).mono ?_
  rintro _ w2 ⟨rfl, f2⟩
  go_wp2_with fail
  go_ret2
  exact ⟨by rw [HK.out, hpq]; rfl, (f1.alloc _).trans f2⟩
end Go.Proofs.YtbcfdhimngoplaaGreatDoor
