/-
  What back of package journal answers of a page of two bytes or more.
-/
import Derived.Test.YtklldfkaihpkiaaJdD
import Derived.Deep.DeepCutAuto
import Derived.Deep.CutRange
import Derived.BigQuiet
import Derived.Deep.QuietTactic
namespace Go.Proofs.Ytklldfkaihpkiaa
open Go.ChangeShapes Go.WideShapes Go.ChangeAt Go.RowKit
set_option linter.unusedVariables false
set_option linter.unusedSimpArgs false
set_option maxRecDepth 100000

theorem get_bs (s : ByteArray) (i : Nat) (h : i < s.size) : s[i] = (JN.bs s).getD i 0 := by
  unfold JN.bs
  have hl : s.data.toList.length = s.size := by rw [Array.length_toList]; rfl
  rw [List.getD_eq_getElem?_getD, List.getElem?_eq_getElem (by rw [hl]; exact h)]
  rfl
def pt3 (w : World) (b : Nat) (x y z : Value) : World := ((w.setCell ⟨b, 0, none⟩ x).setCell ⟨b, 1, none⟩ y).setCell ⟨b, 2, none⟩ z
theorem Blk.put3 {w : World} {b : Nat} {x y z : Value} {T : TypeId} (h : Blk w b #[x, y, z] T) (x' y' z' : Value) : Blk (pt3 w b x' y' z') b #[x', y', z'] T := by
  have := ((h.set 0 x').set 1 y').set 2 z'
  simpa [pt3] using this
theorem Fr.put3 {a w : World} (h : Fr a w) (b : Nat) (hb : a.heap.size ≤ b) (x y z : Value) : Fr a (pt3 w b x y z) := ((h.setCell b 0 x hb).setCell b 1 y hb).setCell b 2 z hb
/-- what back answers -/
def backV (s : ByteArray) : Value := if JN.okeB s then .tuple #[.agg #[.int .i64 1, .int .i64 ((JN.decB s).1 : Int), .string (JN.decB s).2], .bool true] else .tuple #[.agg #[.int .i64 0, .int .i64 0, .string ⟨#[]⟩], .bool false]
theorem wrap_two (a b : Nat) (ha : a < 256) (hb : b < 256) : IntKind.i64.wrap (IntKind.i64.wrap (IntKind.i64.wrap (a : Int) * 256) + IntKind.i64.wrap (b : Int)) = (a : Int) * 256 + (b : Int) := by
  have w1 : ∀ z : Int, 0 ≤ z → z < 70000 → IntKind.i64.wrap z = z := fun z h0 h1 => by
    simp only [IntKind.wrap, IntKind.signed, IntKind.bits]
    simp
    omega
  rw [w1 (a : Int) (by omega) (by omega), w1 (b : Int) (by omega) (by omega), w1 ((a : Int) * 256) (by omega) (by omega), w1 ((a : Int) * 256 + b) (by omega) (by omega)]
set_option maxHeartbeats 300000 in
theorem back_long (s : ByteArray) (h : 2 ≤ s.size) (w : World) :
    Calls Try.prog 68 #[.string s] w fun e w' => e = .returned (backV s) ∧ Fr w w' := by
  have h1 : ¬ (s.size : Int) < 2 := by omega
  have h2 : (0 : Int) < (s.size : Int) := by omega
  have h3 : (1 : Int) < (s.size : Int) := by omega
  have h4 : 0 < s.size := by omega
  have h5 : 1 < s.size := by omega
  have e0 := get_bs s 0 h4
  have e1 := get_bs s 1 h5
  have k0 : ((s[0].toNat : Nat) : Int) < 256 := by have := s[0].toNat_lt; omega
  have k1 : ((s[1].toNat : Nat) : Int) < 256 := by have := s[1].toNat_lt; omega
  have hv := wrap_two s[0].toNat s[1].toNat (by omega) (by omega)
  generalize hN : IntKind.i64.wrap (IntKind.i64.wrap (IntKind.i64.wrap (s[0].toNat : Int) * 256) + IntKind.i64.wrap (s[1].toNat : Int)) = N at hv
  have hok : JN.okeB s ↔ N < 32 := by
    constructor
    · rintro ⟨_, a, b⟩
      rw [← e0] at a
      rw [← e1] at b
      rw [hv, a]
      have : (UInt8.toNat 0 : Nat) = 0 := rfl
      omega
    · intro hh
      refine ⟨h, ?_, ?_⟩
      · rw [← e0]
        have : s[0].toNat = 0 := by omega
        exact UInt8.toNat_inj.1 (by rw [this]; rfl)
      · rw [← e1]; omega
  have hno : N < 32 → ((JN.decB s).1 : Int) = N := by
    intro hh
    have : (JN.decB s).1 = s[1].toNat := by unfold JN.decB; rw [e1]
    rw [this]; omega
  have hge : 0 ≤ N := by omega
  have HO := hideP hok
  have HV := hideP hno
  clear hok hv hno e0 e1
  have HNN := hideP hN
  clear hN
  have h6 : (2 : Int) ≤ (s.size : Int) := by omega
  go_enter Try.func68, Try.ntmps68
  go_upto_region 3 with fail
  go_cut [4] from 9 to 16 (fun s4 wx => s4 = .int .i64 N ∧ Blk wx w.heap.size #[.int .i64 0, .int .i64 0, .string ⟨#[]⟩] 84 ∧ Fr w wx)
  case first =>
    go_region_held3 (fun _ => True) (first | exact trivial | assumption) (first | fail)
    all_goals (go_wp2_with fail; go_meet)
    all_goals exact ⟨by rw [HNN.out], (Blk.new w _ 84).fr (Fr.drew (Fr.refl _)), Fr.drew ((Fr.refl w).alloc _)⟩
  case rest =>
    obtain ⟨rfl, hbx, hfx⟩ := hcut
    have q0 := hbx.cell 0 (u := .int .i64 0) rfl
    have q1 := hbx.cell 1 (u := .int .i64 0) rfl
    have q2 := hbx.cell 2 (u := .string ⟨#[]⟩) rfl
    have z0 := hbx.frozen 0
    have z1 := hbx.frozen 1
    have z2 := hbx.frozen 2
    have HBX := hideP hbx
    have HFX := hideP hfx
    clear HNN k0 k1 hbx hfx
    generalize wc = W1 at *
    by_cases hlt : N < 32
    · have HO' := hideP (HO.out.2 hlt)
      have HV' := hideP (HV.out hlt)
      clear HO HV
      go_wp2_with fail
      refine bodyPost_ret (v := .tuple #[.agg #[.int .i64 1, .int .i64 N, .string (s.extract 2 s.size)], .bool true]) ?_ rfl ⟨by rw [backV, if_pos HO'.out, HV'.out]; rfl, HFX.out.put3 _ (Nat.le_refl _) _ _ _⟩
      have bb := HBX.out.put3 (.int .i64 1) (.int .i64 N) (.string (s.extract 2 s.size))
      have r0 := bb.cell 0 (u := .int .i64 1) rfl
      have r1 := bb.cell 1 (u := .int .i64 N) rfl
      have r2 := bb.cell 2 (u := .string (s.extract 2 s.size)) rfl
      change (results Try.f68 _).run Try.prog (pt3 W1 _ _ _ _) = .ok _ (pt3 W1 _ _ _ _)
      simp [results, Try.results68, go_sem, r0, r1, r2]
    · have HO' := hideP (fun x => hlt (HO.out.1 x))
      have hge2 : 32 ≤ N := by omega
      clear HO HV
      go_wp2_with fail
      refine bodyPost_ret (v := .tuple #[.agg #[.int .i64 0, .int .i64 0, .string ⟨#[]⟩], .bool false]) ?_ rfl ⟨by rw [backV, if_neg HO'.out], ((HFX.out.setCell _ 0 _ (Nat.le_refl _)).setCell _ 1 _ (Nat.le_refl _)).setCell _ 2 _ (Nat.le_refl _)⟩
      have bb := HBX.out.put3 (.int .i64 0) (.int .i64 0) (.string ⟨#[]⟩)
      have r0 := bb.cell 0 (u := .int .i64 0) rfl
      have r1 := bb.cell 1 (u := .int .i64 0) rfl
      have r2 := bb.cell 2 (u := .string ⟨#[]⟩) rfl
      change (results Try.f68 _).run Try.prog (pt3 W1 _ _ _ _) = .ok _ (pt3 W1 _ _ _ _)
      simp [results, Try.results68, go_sem, r0, r1, r2]
theorem back_any (s : ByteArray) (w : World) : Calls Try.prog 68 #[.string s] w fun e w' => e = .returned (backV s) ∧ Fr w w' := by
  by_cases h : 2 ≤ s.size
  · exact back_long s h w
  · have : backV s = .tuple #[.agg #[.int .i64 0, .int .i64 0, .string ⟨#[]⟩], .bool false] := by rw [backV, if_neg (fun k => h k.1)]
    rw [this]
    exact back_short s (by omega) w
end Go.Proofs.Ytklldfkaihpkiaa
