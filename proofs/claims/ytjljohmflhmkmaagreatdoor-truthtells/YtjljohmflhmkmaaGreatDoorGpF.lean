/-
  What belongs together: EvO, EvQ, EvR, EvT, EvU.
-/
import Derived.Test.YtjljohmflhmkmaaGreatDoorExU
import Derived.Test.YtjljohmflhmkmaaGreatDoorGpD
import Derived.Lib.AppendZeros
namespace Go.Proofs.YtjljohmflhmkmaaGreatDoor
open Go.ChangeShapes Go.WideShapes Go.ChangeAt Go.RowKit
set_option linter.unusedVariables false
set_option linter.unusedSimpArgs false
set_option maxRecDepth 100000
set_option maxHeartbeats 2000000

namespace EX
def sm (l : List Nat) : Nat := l.foldr (· + ·) 0
theorem sm_app (a b : List Nat) : sm (a ++ b) = sm a + sm b := by
  induction a with
  | nil => simp [sm]
  | cons x a ih => simp only [List.cons_append, sm, List.foldr_cons] at *; omega
theorem sm_one (x : Nat) : sm [x] = x := by simp [sm]
/-- how many nodes an expression has, by its kids' -/
def sOf (n : Nd) (l : List Nat) : Except Nat Nat := .ok (sm l + 1)
theorem sm_take (l : List Nat) (i : Nat) : sm (l.take i) ≤ sm l := by
  have := sm_app (l.take i) (l.drop i)
  rw [List.take_append_drop] at this
  omega
theorem sm_drop (l : List Nat) (i : Nat) : sm (l.take i) + sm (l.drop i) = sm l := by
  have := sm_app (l.take i) (l.drop i)
  rw [List.take_append_drop] at this
  omega
end EX
theorem sizeOf_any (n : EX.Nd) (v : Value) (l : List Nat) (w : World) (h : IsL cdI w v l) (hl : l.length ≤ 1000000) (hb : EX.sm l ≤ 1000000) :
    Calls Tryz.prog 44 #[EX.val n, v] w fun e w' => e = .returned (exI (EX.sOf n l)) ∧ Fr w w' := by
  obtain ⟨op, kids, ⟨vk, vn, vs⟩, nm⟩ := n
  simp only [EX.val, EX.sOf] at *
  obtain ⟨a, cap, rfl, hcap, hcs⟩ := h
  have HC := hideP hcs
  have HBd := hideP (fun i => EX.sm_take l i)
  have F0 := hideP ((Fr.refl w).alloc (.cells #[.int .i64 op, .int .i64 kids, .int .i64 vk, .int .i64 vn, .string vs, .string nm] 38))
  clear hcs
  go_enter Tryz.func44, Tryz.ntmps44
  go_wp2_with fail
  generalize w.alloc (.cells #[.int .i64 op, .int .i64 kids, .int .i64 vk, .int .i64 vn, .string vs, .string nm] 38) = w1 at *
  go_loopw [6, 8, 11] (fun dv _ iv wr => ∃ i : Nat, iv = .int .i64 i ∧ i ≤ l.length ∧ dv = .int .i64 (((EX.sm (l.take i) + 1 : Nat) : Nat) : Int) ∧ wr = w1) (fun _ _ iv _ => l.length - (intOf iv).toNat)
  case atStart => exact ⟨0, rfl, Nat.zero_le _, rfl, rfl⟩
  case round =>
    obtain ⟨i, rfl, hi, rfl, rfl⟩ := hrel
    by_cases hlt : i < l.length
    · have hlt' : (i : Int) < (l.length : Int) := by omega
      obtain ⟨b, o, rfl, hb', hc⟩ : ∃ b o, a = some ⟨b, o, none⟩ ∧ b < w.heap.size ∧ At cdI w b o l := by
        rcases HC.out with h | h
        · rw [h] at hlt; simp at hlt
        · exact h
      have c0 := (hc.fr hb' F0.out).i1 i hlt
      have htk : EX.sm (l.take (i + 1)) = EX.sm (l.take i) + l[i] := by
        rw [List.take_succ_eq_append_getElem hlt, EX.sm_app, EX.sm_one]
      have hbd := HBd.out (i + 1)
      generalize l[i] = y at *
      generalize EX.sm (l.take i) = m at *
      generalize htk2 : EX.sm (l.take (i + 1)) = m' at *
      have HT := hideP htk
      have HT2 := hideP htk2
      have hy : (y : Int) ≤ 1000000 := by omega
      have hmm : (m : Int) ≤ 1000000 := by omega
      clear hc htk htk2
      go_wp2_with fail
      go_roundw
      case rel => exact ⟨i + 1, by go_num, by omega, by rw [HT2.out, HT.out]; first | (go_num; done) | (simp; omega), by first | rfl | trivial⟩
      case measure => simp [intOf]; omega
    · obtain rfl : i = l.length := by omega
      have hlt' : ((l.length : Int) < (l.length : Int)) = False := by simp
      rw [List.take_length]
      go_wp2_with fail
      go_ret2
      exact ⟨by simp [exI], F0.out⟩
end Go.Proofs.YtjljohmflhmkmaaGreatDoor
namespace Go.Proofs.YtjljohmflhmkmaaGreatDoor
open Go.ChangeShapes Go.WideShapes Go.ChangeAt Go.RowKit
set_option linter.unusedVariables false
set_option linter.unusedSimpArgs false
set_option maxRecDepth 100000
set_option maxHeartbeats 4000000

theorem sameNodes_eq (v u : Value) (l : List EX.Nd) (w : World) (hv : IsL cdN w v l) (hu : IsL cdN w u l) (hl : l.length ≤ 9223372036854775806) :
    Calls Tryz.prog 26 #[v, u] w fun e w' => e = .returned (.bool true) ∧ Fr w w' := by
  obtain ⟨a, cap, rfl, hcap, hcs⟩ := hv
  obtain ⟨a2, cap2, rfl, hcap2, hcs2⟩ := hu
  have HC := hideP hcs
  have HC2 := hideP hcs2
  clear hcs hcs2
  go_enter Tryz.func26, Tryz.ntmps26
  go_wp2_with fail
  go_loopw [5] (fun iv wr => ∃ i : Nat, iv = .int .i64 i ∧ i ≤ l.length ∧ Fr w wr) (fun iv _ => l.length - (intOf iv).toNat)
  case atStart => exact ⟨0, rfl, by omega, Fr.refl _⟩
  case round =>
    obtain ⟨i, rfl, hi, hfr⟩ := hrel
    by_cases hlt : i < l.length
    · obtain ⟨b, o, rfl, hb, hc⟩ : ∃ b o, a = some ⟨b, o, none⟩ ∧ b < w.heap.size ∧ At cdN w b o l := by
        rcases HC.out with h | h
        · subst h; simp at hlt
        · exact h
      obtain ⟨b2, o2, rfl, hb2, hc2⟩ : ∃ b o, a2 = some ⟨b, o, none⟩ ∧ b < w.heap.size ∧ At cdN w b o l := by
        rcases HC2.out with h | h
        · subst h; simp at hlt
        · exact h
      obtain ⟨c0, c1, c2, c3, c4, c5⟩ := (hc.fr hb hfr).nd i hlt
      obtain ⟨d0, d1, d2, d3, d4, d5⟩ := (hc2.fr hb2 hfr).nd i hlt
      generalize l[i] = x at c0 c1 c2 c3 c4 c5 d0 d1 d2 d3 d4 d5
      obtain ⟨op, kids, ⟨vk, vn, vs⟩, nm⟩ := x
      simp only at c0 c1 c2 c3 c4 c5 d0 d1 d2 d3 d4 d5
      have hlt' : (i : Int) < (l.length : Int) := by omega
      have HF := hideP hfr
      clear hc hc2 hfr
      go_wp2_with fail
      go_region
      go_wp2_with fail
      go_roundw
      case rel => exact ⟨i + 1, by go_num, by omega, Fr.drew HF.out⟩
      case measure => simp [intOf]; omega
    · obtain rfl : i = l.length := by omega
      have hlt' : ((l.length : Int) < (l.length : Int)) = False := by simp
      go_wp2_with fail
      go_ret
      exact ⟨rfl, hfr⟩
end Go.Proofs.YtjljohmflhmkmaaGreatDoor
namespace Go.Proofs.YtjljohmflhmkmaaGreatDoor
open Go.ChangeShapes Go.WideShapes Go.ChangeAt Go.RowKit
set_option linter.unusedVariables false
set_option linter.unusedSimpArgs false
set_option maxRecDepth 100000

theorem Tryz.infoN : (Tryz.prog.info? 38).map (fun i => (i.zero, i.size, i.bytes)) = some (some (.agg #[.int .i64 0, .int .i64 0, .int .i64 0, .int .i64 0, .string ⟨#[]⟩, .string ⟨#[]⟩]), 6, 64) := by kernel_rfl
set_option maxHeartbeats 2000000 in
theorem cloneN_any (v : Value) (l : List EX.Nd) (w : World) (hr : IsL cdN w v l) (hl : l.length ≤ 100) :
    Calls Tryz.prog 45 #[v] w fun e w' => ∃ v', e = .returned v' ∧ w'.ownsRow w.heap.size 38 6 v' l.length (flat cdN l) ∧ Fr w w' := by
  obtain ⟨i0, hi, hz0, hz1, hz2⟩ := info_parts Tryz.infoN
  obtain ⟨a, cap, rfl, hcap, hcs⟩ := hr
  have qn : ∀ (w : World) (a : Option Addr) (n c n' c' : Nat), (binOp .eql 22 (.slice a n c) (.slice none n' c')).run Tryz.prog w = .ok (.bool a.isNone) w := fun w a n c n' c' => Lib.run_eql_slice_nil w _ _ a n c n' c' Tryz.underlying22
  cases a with
  | none =>
    have h0 : l = [] := by
      rcases hcs with h | ⟨b, o, h, _⟩
      · exact h
      · cases h
    subst h0
    clear hcs
    go_enter Tryz.func45, Tryz.ntmps45
    go_wp2_with fail
    go_ret
    exact ⟨_, rfl, World.ownsRow_nil _ _ _ _, Fr.refl _⟩
  | some A =>
    have hnews : ∀ j u, (flat cdN l)[j]? = some u → w.cell? (A.add j) = some u := by
      rcases hcs with h | ⟨b, o, h, _, hc⟩
      · subst h; intro j u hj; simp [flat] at hj
      · cases h
        intro j u hj
        rw [Addr.add_lit]
        exact hc j u hj
    have HN : Hid _ := hideP hnews
    have hfl : (flat cdN l).length = l.length * 6 := flat_len cdN l
    have HL : Hid _ := hideP hfl
    have H1 : Hid _ := hideP (flat_one cdN l)
    clear hcs hnews hfl
    generalize flat cdN l = news at HN HL H1
    generalize l.length = n at hl HL hcap
    go_enter Tryz.func45, Tryz.ntmps45
    go_wp2_with (at_builtin; refine wpList_append_own _ rfl _ _ 22 rfl w.heap.size 38 i0 (.agg #[.int .i64 0, .int .i64 0, .int .i64 0, .int .i64 0, .string ⟨#[]⟩, .string ⟨#[]⟩]) 6 64 Tryz.underlying22 hi hz0 hz1 hz2 rfl (by decide) _ _ _ rfl (World.ownsRow_made w #[] 0 (Nat.le_refl _) (Nat.zero_le _) (by simp)) A n cap news rfl ?qc1 ?qc2 ?qc3 ?qc4 ?qc5 ?qc6 ?_)
    case qc1 => exact HL.out
    case qc2 => intro j u hj; exact Lib.cell?_alloc_some _ (HN.out j u hj)
    case qc3 => exact H1.out
    case qc4 => unfold maxLen; omega
    case qc5 => omega
    case qc6 => simp
    intro v' w1 hown hgrow hnil
    have HO := hideP hown
    have HB : Hid (Fr w w1) := ((RowKit.Below.refl _ w).alloc (Nat.le_refl _) _).grown hgrow (by simp) (by intro k hk; simp [Value.ownBlock] at hk; omega)
    clear hown hnil hgrow
    go_wp2_with fail
    go_ret
    exact ⟨v', rfl, by simpa using HO.out, HB.out⟩
end Go.Proofs.YtjljohmflhmkmaaGreatDoor
namespace Go.Proofs.YtjljohmflhmkmaaGreatDoor
open Go.ChangeShapes Go.WideShapes Go.ChangeAt Go.RowKit
set_option linter.unusedVariables false
set_option linter.unusedSimpArgs false
set_option maxRecDepth 100000
set_option maxHeartbeats 2000000

theorem growN_any (n : Nat) (w : World) (hn : n ≤ 100000) :
    Calls Tryz.prog 95 #[.slice none 0 0, .int .i64 (n : Int)] w fun e w' => ∃ v', e = .returned v' ∧ w'.ownsRow w.heap.size 38 6 v' 0 [] ∧ Fr w w' := by
  obtain ⟨i0, hi, hz0, hz1, hz2⟩ := info_parts Tryz.infoN
  by_cases h0 : n = 0
  · subst h0
    go_enter Tryz.func95, Tryz.ntmps95
    go_wp2_with fail
    go_ret
    exact ⟨_, rfl, World.ownsRow_nil _ _ _ _, Fr.refl _⟩
  · have hp : (0 : Int) < (n : Int) := by omega
    have hnn : 0 ≤ (n : Int) := by omega
    have hge := grownCap_ge w n 0 38
    have hle := grownCap_le_maxLen w n 0 38 (by unfold maxLen; omega)
    have hrun := fun ty => Lib.run_append_nil_zeros (P := Tryz.prog) w 22 3 ty 38 i0 (.agg #[.int .i64 0, .int .i64 0, .int .i64 0, .int .i64 0, .string ⟨#[]⟩, .string ⟨#[]⟩]) .i64 .i64 Tryz.underlying22 (by kernel_rfl) hi hz0 n (by omega) (by rw [hz1]; decide) (by omega) (by rw [hz2]; omega)
    generalize hC : grownCap w n 0 38 = C at *
    have HOw := hideP (show (w.drew.alloc (.cells (Builtin.zeroCells (Value.agg #[.int .i64 0, .int .i64 0, .int .i64 0, .int .i64 0, .string ⟨#[]⟩, .string ⟨#[]⟩]).cells n ++ Builtin.zeroCells (Value.agg #[.int .i64 0, .int .i64 0, .int .i64 0, .int .i64 0, .string ⟨#[]⟩, .string ⟨#[]⟩]).cells (C - n)) 38)).ownsRow w.heap.size 38 6 (.slice (some ⟨w.heap.size, 0, none⟩) 0 C) 0 [] from
      World.ownsRow_made w.drew _ C (Nat.le_refl _) hle (by
        rw [Array.size_append, size_zeroCells, size_zeroCells]
        have : (Value.agg #[.int .i64 0, .int .i64 0, .int .i64 0, .int .i64 0, .string ⟨#[]⟩, .string ⟨#[]⟩]).cells.size = 6 := rfl
        rw [this, ← Nat.add_mul]
        congr 1
        omega))
    have HFr := hideP (Fr.alloc (Fr.drew (Fr.refl w)) (.cells (Builtin.zeroCells (Value.agg #[.int .i64 0, .int .i64 0, .int .i64 0, .int .i64 0, .string ⟨#[]⟩, .string ⟨#[]⟩]).cells n ++ Builtin.zeroCells (Value.agg #[.int .i64 0, .int .i64 0, .int .i64 0, .int .i64 0, .string ⟨#[]⟩, .string ⟨#[]⟩]).cells (C - n)) 38))
    generalize w.drew.alloc (.cells (Builtin.zeroCells (Value.agg #[.int .i64 0, .int .i64 0, .int .i64 0, .int .i64 0, .string ⟨#[]⟩, .string ⟨#[]⟩]).cells n ++ Builtin.zeroCells (Value.agg #[.int .i64 0, .int .i64 0, .int .i64 0, .int .i64 0, .string ⟨#[]⟩, .string ⟨#[]⟩]).cells (C - n)) 38) = w1 at *
    have HRun := hideP hrun
    clear hrun hC
    go_enter Tryz.func95, Tryz.ntmps95
    go_wp2_with (at_builtin; refine Lib.wpList_append_run _ rfl _ _ _ _ rfl _ _ rfl rfl _ _ (HRun.out _) ?_)
    all_goals (
      go_ret
      exact ⟨_, rfl, HOw.out, HFr.out⟩)
end Go.Proofs.YtjljohmflhmkmaaGreatDoor
namespace Go.Proofs.YtjljohmflhmkmaaGreatDoor
open Go.ChangeShapes Go.WideShapes Go.ChangeAt Go.RowKit
set_option linter.unusedVariables false
set_option linter.unusedSimpArgs false
set_option maxRecDepth 100000
set_option maxHeartbeats 4000000

/-- a slice's parts -/
structure Sl where
  a : Option Addr
  n : Nat
  c : Nat
def Sl.v (x : Sl) : Value := .slice x.a x.n x.c
def cdQ : Cd Sl := ⟨1, fun x => [.slice x.a x.n x.c], by decide, fun _ => rfl, fun x u h => by simp at h; subst h; rfl⟩
theorem At.q1 {w : World} {b o : Nat} {l : List Sl} (h : At cdQ w b o l) (i : Nat) (hi : i < l.length) : w.cell? ⟨b, o + i, none⟩ = some (.slice l[i].a l[i].n l[i].c) :=
  h i _ (by have := flat_get cdQ l i 0 hi (by decide); simpa [cdQ] using this)
/-- a slice of slices stands for a list of lists of nodes -/
def IsLL (w : World) (v : Value) (ls : List (List EX.Nd)) : Prop := ∃ qs : List Sl, IsL cdQ w v qs ∧ qs.length = ls.length ∧ ∀ i (h1 : i < qs.length) (h2 : i < ls.length), IsL cdN w qs[i].v ls[i]
theorem IsLL.fr {w w' : World} {v : Value} {ls : List (List EX.Nd)} (h : IsLL w v ls) (f : Fr w w') : IsLL w' v ls := by
  obtain ⟨qs, h1, h2, h3⟩ := h
  exact ⟨qs, h1.fr f, h2, fun i a b => (h3 i a b).fr f⟩
theorem IsL.len_eq {α : Type} {E : Cd α} {w : World} {x : Sl} {l : List α} (h : IsL E w x.v l) : x.n = l.length := by
  obtain ⟨a, c, e, _⟩ := h
  unfold Sl.v at e
  injection e
namespace EX
def tot (ls : List (List Nd)) : Nat := sm (ls.map List.length)
theorem tot_flat (ls : List (List Nd)) : ls.flatten.length = tot ls := by
  induction ls with
  | nil => rfl
  | cons x r ih => simp only [List.flatten_cons, List.length_append, ih, tot, List.map_cons, sm, List.foldr_cons]
theorem tot_step (ls : List (List Nd)) (i : Nat) (h : i < ls.length) : tot (ls.take (i + 1)) = tot (ls.take i) + ls[i].length := by
  unfold tot
  rw [List.take_succ_eq_append_getElem h, List.map_append, sm_app]
  simp [sm]
theorem tot_take (ls : List (List Nd)) (i : Nat) : tot (ls.take i) ≤ tot ls := by
  unfold tot
  rw [List.map_take]
  exact sm_take _ _
theorem flat_step (ls : List (List Nd)) (i : Nat) (h : i < ls.length) : (ls.take (i + 1)).flatten = (ls.take i).flatten ++ ls[i] := by
  rw [List.take_succ_eq_append_getElem h, List.flatten_append]
  simp
end EX
theorem concatN_any (v : Value) (ls : List (List EX.Nd)) (w : World) (h : IsLL w v ls) (hl : ls.length ≤ 1000) (ht : EX.tot ls ≤ 10000) :
    Calls Tryz.prog 66 #[v] w fun e w' => ∃ v', e = .returned v' ∧ w'.ownsRow w.heap.size 38 6 v' ls.flatten.length (flat cdN ls.flatten) ∧ Fr w w' := by
  obtain ⟨i0, hi0, hz0, hz1, hz2⟩ := info_parts Tryz.infoN
  obtain ⟨qs, hq, hqn, hqs⟩ := h
  obtain ⟨a, cap, rfl, hcap, hcs⟩ := hq
  have HC := hideP hcs
  have HQ := hideP hqs
  have HQn := hideP hqn
  have HTk := hideP (fun i => EX.tot_take ls i)
  rw [hqn] at hcap ⊢
  clear hcs hqs hqn
  go_enter Tryz.func66, Tryz.ntmps66
  go_wp2_with fail
  go_loopw [3, 5, 11] (fun sv _ iv wr => ∃ i : Nat, iv = .int .i64 i ∧ i ≤ ls.length ∧ sv = .int .i64 ((EX.tot (ls.take i) : Nat) : Int) ∧ wr = w) (fun _ _ iv _ => ls.length - (intOf iv).toNat)
  case atStart => exact ⟨0, rfl, Nat.zero_le _, rfl, rfl⟩
  case round =>
    obtain ⟨i, rfl, hi, rfl, rfl⟩ := hrel
    by_cases hlt : i < ls.length
    · have hlt' : (i : Int) < (ls.length : Int) := by omega
      have hltq : i < qs.length := by rw [HQn.out]; exact hlt
      obtain ⟨b, o, rfl, hb, hc⟩ : ∃ b o, a = some ⟨b, o, none⟩ ∧ b < wr.heap.size ∧ At cdQ wr b o qs := by
        rcases HC.out with h | h
        · rw [h] at hltq; simp at hltq
        · exact h
      have c0 := hc.q1 i hltq
      have hlen := (HQ.out i hltq hlt).len_eq
      have hst := EX.tot_step ls i hlt
      have hbd := HTk.out (i + 1)
      rw [← hlen] at hst
      generalize qs[i] = x at *
      obtain ⟨xa, xn, xc⟩ := x
      simp only at c0 hst
      generalize EX.tot (ls.take i) = m at *
      generalize hm' : EX.tot (ls.take (i + 1)) = m' at *
      have HT := hideP hst
      have HT2 := hideP hm'
      have hsum : (m : Int) + (xn : Int) ≤ 10000 := by omega
      have hpos : 0 ≤ (m : Int) + (xn : Int) := by omega
      clear hc hst hm' hlen
      go_wp2_with fail
      go_roundw
      case rel => exact ⟨i + 1, by go_num, by omega, by rw [HT2.out, HT.out]; first | (go_num; done) | (simp; omega), by first | rfl | trivial⟩
      case measure => simp [intOf]; omega
    · obtain rfl : i = ls.length := by omega
      have hlt' : ((ls.length : Int) < (ls.length : Int)) = False := by simp
      rw [List.take_length]
      have HG := hideP (growN_any (EX.tot ls) wr (by omega))
      go_wp2_with fail
      refine HG.out.mono ?_
      rintro _ w1 ⟨v1, rfl, hown1, f1⟩
      have HO1 := hideP hown1
      have F1 := hideP f1
      clear hown1 f1
      go_wp2_with fail
      obtain ⟨w0, rfl⟩ : ∃ x, x = wr := ⟨_, rfl⟩
      go_loopw [6, 8, 27] (fun fv _ iv W => ∃ i : Nat, iv = .int .i64 i ∧ i ≤ ls.length ∧ W.ownsRow w0.heap.size 38 6 fv (ls.take i).flatten.length (flat cdN (ls.take i).flatten) ∧ Fr w0 W) (fun _ _ iv _ => ls.length - (intOf iv).toNat)
      case atStart => exact ⟨0, rfl, Nat.zero_le _, HO1.out, F1.out⟩
      case round =>
        obtain ⟨i, rfl, hi, hown, hfr⟩ := hrel
        obtain ⟨fa, fc, rfl⟩ := own_slice hown
        have HO := hideP hown
        have HF := hideP hfr
        have hsz := hfr.size
        clear hown hfr
        by_cases hlt : i < ls.length
        · have hlt' : (i : Int) < (ls.length : Int) := by omega
          have hltq : i < qs.length := by rw [HQn.out]; exact hlt
          obtain ⟨b, o, rfl, hb, hc⟩ : ∃ b o, a = some ⟨b, o, none⟩ ∧ b < w0.heap.size ∧ At cdQ w0 b o qs := by
            rcases HC.out with h | h
            · rw [h] at hltq; simp at hltq
            · exact h
          have c0 := (hc.fr hb HF.out).q1 i hltq
          have hisl := (HQ.out i hltq hlt).fr HF.out
          have hst := EX.flat_step ls i hlt
          have hln : (ls.take i).flatten.length + ls[i].length ≤ 10000 := by
            have h1 := EX.tot_step ls i hlt
            have h2 := HTk.out (i + 1)
            rw [EX.tot_flat]
            omega
          generalize ls[i] = l at *
          generalize qs[i] = x at *
          obtain ⟨xa, xn, xc⟩ := x
          simp only [Sl.v] at c0 hisl
          generalize (ls.take i).flatten = fs at *
          generalize hfs : (ls.take (i + 1)).flatten = fs' at *
          have HIs := hideP hisl
          have HS := hideP hst
          have HFs := hideP hfs
          obtain ⟨m, hm⟩ : ∃ m, fs.length = m := ⟨_, rfl⟩
          have HMm := hideP hm
          rw [hm] at HO hln ⊢
          clear hc hisl hst hfs hm
          go_wp2_with (at_builtin; refine wpList_append_L cdN rfl _ _ 22 38 i0 _ 64 rfl Tryz.underlying22 hi0 hz0 hz1 hz2 rfl w0.heap.size _ m fs rfl HO.out (.slice xa xn xc) l rfl HIs.out ?c3 ?c4 ?c5 ?_)
          case c3 => unfold maxLen; omega
          case c4 => omega
          case c5 => exact hsz
          intro v2 wB own2 gr2
          have HN2 := hideP (show wB.ownsRow w0.heap.size 38 6 v2 fs'.length (flat cdN fs') from by
            rw [HS.out, List.length_append, HMm.out]
            exact own2)
          have FB := hideP (show Fr w0 wB from Below.grown HF.out gr2 hsz (own_base HO.out))
          clear own2 gr2
          go_wp2_with fail
          go_roundw
          case rel => exact ⟨i + 1, by go_num, by omega, by rw [HFs.out]; exact HN2.out, FB.out⟩
          case measure => simp [intOf]; omega
        · obtain rfl : i = ls.length := by omega
          have hlt' : ((ls.length : Int) < (ls.length : Int)) = False := by simp
          rw [List.take_length] at HO ⊢
          go_wp2_with fail
          go_ret
          exact ⟨_, rfl, HO.out, HF.out⟩
end Go.Proofs.YtjljohmflhmkmaaGreatDoor
