/-
  What Table answers: at each place i what becomes of a register i, if eight bits 0 come.
-/
import Derived.Test.YtbclbpfkdjagkabByteText
import Derived.Deep.RegionHeld3
namespace Go.Proofs.Ytbclbpfkdjagkab
open Go.ChangeShapes Go.WideShapes Go.ChangeAt Go.RowKit
set_option linter.unusedVariables false

def zeros256 : Array Value := Array.replicate 256 (.int .u32 0)
theorem zero_tab (w : World) : (zeroValue 36).run Try.prog w = .ok (.agg zeros256) w := by kernel_rfl
theorem info_tab : (Try.prog.info? 36).map (·.size) = some 256 := by kernel_rfl

/-- block b holds 256 numbers, and they may be written -/
def Tab (w : World) (b : Nat) (f : Nat → Nat) : Prop :=
  ∀ j, j < 256 → w.cell? ⟨b, j, none⟩ = some (.int .u32 (f j : Int)) ∧ w.frozen? ⟨b, j, none⟩ = false

theorem Tab.set {w : World} {b : Nat} {f : Nat → Nat} (h : Tab w b f) (i v : Nat) : Tab (w.setCell ⟨b, i, none⟩ (.int .u32 (v : Int))) b (fun j => if j = i then v else f j) := by
  intro j hj
  refine ⟨?_, by rw [World.frozen?_setCell]; exact (h j hj).2⟩
  by_cases e : j = i
  · subst e
    rw [World.cell?_setCell_same _ _ _ (h j hj).1]
    simp
  · rw [World.cell?_setCell_other _ _ _ _ (by intro c; exact e (congrArg Addr.off c).symm), (h j hj).1]
    simp [e]
theorem Tab.other {w : World} {b b' : Nat} {f : Nat → Nat} (h : Tab w b f) (hb : b' ≠ b) (i : Nat) (v : Value) : Tab (w.setCell ⟨b', i, none⟩ v) b f := by
  intro j hj
  refine ⟨?_, by rw [World.frozen?_setCell]; exact (h j hj).2⟩
  rw [World.cell?_setCell_other _ _ _ _ (by intro c; exact hb (congrArg Addr.block c)), (h j hj).1]
theorem Tab.congr {w : World} {b : Nat} {f g : Nat → Nat} (h : Tab w b f) (e : ∀ j, j < 256 → f j = g j) : Tab w b g := by
  intro j hj; rw [← e j hj]; exact h j hj
theorem Tab.alloc {w : World} {b : Nat} {f : Nat → Nat} (h : Tab w b f) (o : Obj) : Tab (w.alloc o) b f := by
  intro j hj
  have hb := World.block_lt_of_cell? w _ (h j hj).1
  exact ⟨by rw [World.cell?_alloc_lt _ _ _ hb]; exact (h j hj).1, by rw [World.frozen?_alloc_past _ _ _ hb]; exact (h j hj).2⟩
theorem Tab.made (w : World) : Tab (w.alloc (.cells zeros256 36)) w.heap.size (fun _ => 0) := by
  intro j hj
  have hb : (w.alloc (.cells zeros256 36)).heap[w.heap.size]? = some (.cells zeros256 36 (0, 0)) := heap_alloc_new w _
  refine ⟨?_, ?_⟩
  · rw [cell_of_row _ _ j _ _ _ hb]
    unfold zeros256
    rw [Array.getElem?_replicate]
    simp [hj]
  · unfold World.frozen?
    rw [hb]
    simp

def tabList (f : Nat → Nat) : List Value := (List.range 256).map fun j => .int .u32 (f j : Int)
theorem tabList_len (f : Nat → Nat) : (tabList f).length = 256 := by simp [tabList]
theorem tabList_one (f : Nat → Nat) : ∀ v ∈ tabList f, v.oneCell' = true := by
  intro v hv
  obtain ⟨j, _, rfl⟩ := List.mem_map.1 hv
  rfl
theorem Tab.range {w : World} {b : Nat} {f : Nat → Nat} (h : Tab w b f) : w.rangeAt b 0 (tabList f) := by
  intro j v hv
  have hj : j < 256 := by
    have := (List.getElem?_eq_some_iff.1 hv).1
    rwa [tabList_len] at this
  rw [Nat.zero_add, (h j hj).1]
  rw [← hv]
  simp [tabList, hj]
theorem Tab.there {w : World} {b : Nat} {f : Nat → Nat} (h : Tab w b f) : w.there b 0 256 := by
  intro j hj
  rw [Nat.zero_add, (h j hj).1]
  exact ⟨rfl, (h j hj).2⟩

theorem ez_int (r : Int) (k : Nat) (w : World) (hr : r = (k : Int)) (hk : k < 4294967296) :
    Calls Try.prog 23 #[.int .u32 r] w fun e w' => e = .returned (.int .u32 ((SM.ez k : Nat) : Int)) ∧ w' = w := by
  subst hr; exact ez_any k w hk

theorem frset {a : World} {b : Nat} (hb : a.heap.size ≤ b) : ∀ (l : List Value) (o : Nat) (w : World), Fr a w → Fr a (w.setCells b o l)
  | [], _, _, h => h
  | v :: l, o, w, h => frset hb l (o + 1) _ (Below.setCell h hb v)

theorem results_cell_mid {P : Program} {fn : Func} {p : Tmp} {ty : TypeId} (h : fn.results = #[.cell p ty]) (tmps : Array Value) (w : World) (b : Nat) (cs : List Value) (d : TypeDesc)
    (hp : tmps.getD p undef = .pointer (some ⟨b, 0, none⟩)) (hc : w.rangeAt b 0 cs)
    (hu : P.underlying ty = some d) (hd : d.isRow = true) (hi : (P.info? ty).map (·.size) = some cs.length) :
    (results fn tmps).run P w = .ok (.agg cs.toArray) w := by
  have hp' : tmps[p]?.getD undef = .pointer (some ⟨b, 0, none⟩) := by simpa using hp
  simp [results, h, hp', asAddr, run_loadVar_mid w b 0 ty cs d hc hu hd hi]

theorem res_tab : Try.f18.results = #[.cell 0 36] := by kernel_rfl

set_option maxRecDepth 100000 in
set_option maxHeartbeats 1000000 in
theorem table_any (w : World) :
    Calls Try.prog 18 #[] w fun e w' => e = .returned (.agg (tabList SM.ez).toArray) ∧ Fr w w' := by
  have hz := zero_tab
  have H1 : Hid _ := Tab.made (w.alloc (.cells zeros256 36))
  have H0 : Hid _ := (Tab.made w).alloc (.cells zeros256 36)
  go_enter Try.func18, Try.ntmps18
  go_wp2_with fail
  go_loopw [3] (fun i wr => ∃ k : Nat, k ≤ 256 ∧ i = .int .i64 k ∧ Tab wr (w.heap.size + 1) (fun j => if j < k then SM.ez j else 0) ∧ Tab wr w.heap.size (fun _ => 0) ∧ Fr w wr) (fun i _ => 256 - (intOf i).toNat)
  case atStart =>
    refine ⟨0, by omega, rfl, ?_, H0.out, ((Fr.refl w).alloc _).alloc _⟩
    have := H1.out
    simp only [World.size_alloc] at this
    exact Tab.congr (f := fun _ => 0) this (fun j _ => by simp)
  case round =>
    obtain ⟨k, hk, rfl, h1, h0, hfr⟩ := hrel
    have K1 : Hid _ := h1
    have K0 : Hid _ := h0
    clear hz H1 H0
    by_cases hlt : k < 256
    · have hc := (h1 k hlt).1
      have hf := (h1 k hlt).2
      clear h1 h0
      go_wp2_with fail
      refine (ez_any _ _ (by omega)).mono ?_
      rintro e w' ⟨rfl, rfl⟩
      go_wp2_with fail
      go_roundw
      case rel =>
        refine ⟨k + 1, by omega, by go_num, ?_, Tab.other K0.out (by omega) _ _, Below.setCell hfr (Nat.le_succ _) _⟩
        exact Tab.congr (Tab.set K1.out k (SM.ez k)) (fun j hj => by
          by_cases e : j = k
          · subst e; simp
          · by_cases c : j < k
            · simp [e, c, show j < k + 1 by omega]
            · simp [e, c, show ¬ j < k + 1 by omega])
      case measure => simp [intOf]; omega
    · have h256 : k = 256 := by omega
      have ht : Tab wr (w.heap.size + 1) SM.ez := Tab.congr h1 (fun j hj => by simp [show j < k by omega])
      have hrg := ht.range
      have hth := h0.there
      have Hk : Hid _ := h256
      have HI : Hid ((Try.prog.info? 36).map (·.size) = some (tabList SM.ez).length) := by unfold Hid; rw [tabList_len]; exact info_tab
      have HO : Hid _ := all_oneCell_toArray (tabList_one SM.ez)
      have HTH : Hid (wr.there w.heap.size 0 (tabList SM.ez).toArray.size) := by unfold Hid; rw [show (tabList SM.ez).toArray.size = 256 by simp [tabList]]; exact hth
      have HR2 : Hid _ := World.rangeAt_setCells_same wr w.heap.size 0 (tabList SM.ez) (by rw [tabList_len]; exact hth)
      have HRG : Hid _ := hrg
      clear h1 h0 hth hrg ht h256
      generalize hT : tabList SM.ez = T at *
      have HT : Hid _ := hT
      clear hT
      go_wp2_with (first
        | (refine wpList_load_mid rfl 36 (.tmp 1) rfl (w.heap.size + 1) 0 rfl T _ HRG.out Try.underlying36 rfl HI.out ?_)
        | (refine wpList_store_mid rfl 36 (.tmp 0) (.tmp 12) rfl w.heap.size 0 T.toArray rfl rfl HTH.out (by rw [List.size_toArray]; exact HI.out) HO.out ?_))
      refine bodyPost_ret (v := .agg T.toArray) (results_cell_mid res_tab _ _ w.heap.size T _ rfl HR2.out Try.underlying36 rfl HI.out) rfl ⟨by rw [HT.out], frset (Nat.le_refl _) _ _ _ hfr⟩
end Go.Proofs.Ytbclbpfkdjagkab
