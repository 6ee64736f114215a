/-
  What belongs together: BgM, BgN, RgA, RgB, RgE, RgX.
-/
import Derived.Test.YtbcfdhimngoplaaGreatDoorRecKey
import Derived.Test.YtbcfdhimngoplaaGreatDoorGqA
import Derived.Test.YtbcfdhimngoplaaGreatDoorGqK
import Derived.Maps.OwnSet
import Derived.Maps.Views
import Derived.WalkKit
import Derived.Test.YtbcfdhimngoplaaGreatDoorGpD
import Derived.Orders
import Derived.Laws.CopyOwn
import Derived.Laws.CopyRow
namespace Go.Proofs.YtbcfdhimngoplaaGreatDoor
open Go.ChangeShapes Go.WideShapes Go.ChangeAt Go.RowKit Go.Maps
set_option linter.unusedVariables false
set_option linter.unusedSimpArgs false
set_option maxRecDepth 100000
set_option maxHeartbeats 2000000
instance : DecidableEq VM.Vl := fun a b => if h : a.k = b.k ∧ a.n = b.n ∧ a.s = b.s then isTrue (by obtain ⟨a1, a2, a3⟩ := a; obtain ⟨b1, b2, b3⟩ := b; obtain ⟨h1, h2, h3⟩ := h; simp only at h1 h2 h3; subst h1 h2 h3; rfl) else isFalse (fun e => h (by rw [e]; exact ⟨rfl, rfl, rfl⟩))
namespace BG
open VM
def at? (r : List Vl) : List (List Vl) → Option Nat
 | [] => none
 | x :: t => if x = r then some 0 else (at? r t).map (· + 1)
def plc (fs : List (List Vl)) (r : List Vl) : Nat := (at? r fs).getD fs.length
def add (fs : List (List Vl)) (r : List Vl) : List (List Vl) := if (at? r fs).isSome then fs else fs ++ [r]
theorem at?_lt {r : List Vl} : ∀ {fs : List (List Vl)} {i : Nat}, at? r fs = some i → i < fs.length
 | [], i, h => by cases h
 | x :: t, i, h => by
  unfold at? at h
  split at h
  · cases h; simp
  ·
   rw [Option.map_eq_some_iff] at h
   obtain ⟨j, hj, rfl⟩ := h
   have := at?_lt hj
   simp; omega
theorem at?_none {r : List Vl} : ∀ {fs : List (List Vl)}, at? r fs = none ↔ r ∉ fs
 | [] => by simp [at?]
 | x :: t => by
  unfold at?
  by_cases h : x = r
  · simp [h]
  ·
   rw [if_neg h, Option.map_eq_none_iff, at?_none (fs := t)]
   simp [Ne.symm h]
def Gd (r : List Vl) : Prop := chkRow r = 0 ∧ ∀ x ∈ r, LM.wide x
theorem key_inj {a b : List Vl} (ha : Gd a) (hb : Gd b) (h : KM.row a = KM.row b) : a = b := by
 have h1 := KL.row_back ha.1 ha.2
 have h2 := KL.row_back hb.1 hb.2
 rw [h, h2] at h1
 simpa using h1.symm
def num (fs : List (List Vl)) (s : List UInt8) : Option Int := ((fs.map KM.row).findIdx? (fun k => decide (k = s))).map (fun (n : Nat) => (n : Int))
theorem num_key {fs : List (List Vl)} {r : List Vl} (hf : ∀ x ∈ fs, Gd x) (hr : Gd r) : num fs (KM.row r) = (at? r fs).map (fun (n : Nat) => (n : Int)) := by
 unfold num
 congr 1
 induction fs with
 | nil => rfl
 | cons y t ih =>
  have hy := hf y (by simp)
  rw [List.map_cons, List.findIdx?_cons, at?]
  by_cases e : y = r
  · subst e; simp
  ·
   have : ¬ KM.row y = KM.row r := fun h => e (key_inj hy hr h)
   rw [if_neg e, if_neg (by simpa using this), ih (fun x hx => hf x (by simp [hx]))]
theorem num_snoc {fs : List (List Vl)} {r : List Vl} (hn : num fs (KM.row r) = none) (s : List UInt8) : num (fs ++ [r]) s = if s = KM.row r then some (fs.length : Int) else num fs s := by
 unfold num at *
 rw [Option.map_eq_none_iff] at hn
 rw [List.map_append, List.findIdx?_append]
 by_cases e : s = KM.row r
 ·
  subst e
  rw [if_pos rfl, hn]
  simp
 ·
  rw [if_neg e]
  have : ¬ KM.row r = s := fun h => e h.symm
  simp [List.findIdx?_cons, this]
end BG
def idat (x : Int) : DataW Unit := .lit (.int .i64 x)
def intElem : Value → Option (DataW Unit × List MemPlace)
 | .int .i64 n => some (idat n, [])
 | _ => none
theorem intElem_inv {v : Value} {x : Int} {ps : List MemPlace} (h : intElem v = some (idat x, ps)) : v = .int .i64 x := by
 unfold intElem at h
 split at h
 ·
  simp only [Option.some.injEq, Prod.mk.injEq, idat, DataW.lit.injEq, Lit.int.injEq] at h
  obtain ⟨⟨_, rfl⟩, _⟩ := h
  rfl
 · cases h
theorem keyedS2 : Keyed Tryz.prog 9 := string_keyed Tryz.underlying9
theorem zeroInt (w : World) : (zeroValue 3).run Tryz.prog w = .ok (.int .i64 0) w := by kernel_rfl
theorem str_key2 (s : ByteArray) (hs : s.size ≤ 140737488355327) : keyOf Tryz.prog 9 (.string s) = some (.string s.data.toList) := WideMaps.keyOf_string_mk Tryz.underlying9 (by unfold maxLen; omega)
structure Mi (w : World) (b n : Nat) (f : List UInt8 → Option Int) : Prop where
 out : ∃ D : DataW Unit, w.ownsMap Tryz.prog 9 intElem b n D ∧ Maps.size D = n ∧ (∀ s, Maps.has D (.string s) = (f s).isSome) ∧ (∀ s z, D.atKey (.string s) z = match f s with
  | some x => idat x
  | none => z)
theorem Mi.heap {w : World} {b n : Nat} {f : List UInt8 → Option Int} (h : Mi w b n f) : ∃ es clk, w.heap[b]? = some (.map es clk) := by
 obtain ⟨D, ⟨es, clk, hb, _⟩, _⟩ := h.out
 exact ⟨es, clk, hb⟩
theorem Mi.lt {w : World} {b n : Nat} {f : List UInt8 → Option Int} (h : Mi w b n f) : b < w.heap.size := by
 obtain ⟨D, h2, _⟩ := h.out
 exact h2.lt
theorem Mi.same {w w' : World} {b n : Nat} {f : List UInt8 → Option Int} (h : Mi w b n f) (g : w'.heap[b]? = w.heap[b]?) : Mi w' b n f := by
 obtain ⟨D, ⟨es, clock, hb, r⟩, h3⟩ := h.out
 exact ⟨D, ⟨es, clock, g.trans hb, r⟩, h3⟩
theorem Mi.fr {w w' : World} {b n : Nat} {f : List UInt8 → Option Int} (h : Mi w b n f) (g : Fr w w') : Mi w' b n f := h.same (g.block b h.lt)
theorem Mi.made (w : World) : Mi (w.alloc (.map #[] 0)) w.heap.size 0 (fun _ => none) := by
 have h := World.ownsMap_made (H := Unit) w Tryz.prog 9 intElem
 exact ⟨_, h, rfl, fun s => rfl, fun s z => rfl⟩
theorem wp_lookup_Mi {w : World} {ops : Array Oper} {rest : List Oper} {o : Oper} {a : Act} {Q : Exit → Act → World → Prop} (hg : o.guard = none) (m x : Operand) (hop : o.op = Op.lookup 77 m x true)
  (b n : Nat) (f : List UInt8 → Option Int) (hm : a.eval m = .map (some b)) (hown : Mi w b n f) (s : ByteArray) (hx : a.eval x = .string s) (hs : s.size ≤ 140737488355327)
  (hK : wpList Tryz.prog ops Q rest (a.put o.dst (.tuple #[.int .i64 ((f s.data.toList).getD 0), .bool (f s.data.toList).isSome])) w) : wpList Tryz.prog ops Q (o :: rest) a w := by
 obtain ⟨D, h2, _, h3, h4⟩ := hown.out
 refine wpList_lookup_own_ok w hg m x 77 hop 9 3 keyedS2 Tryz.underlying77 intElem (zeroInt w) (idat 0) [] rfl b n D hm h2 (.string s) (.string s.data.toList) hx (str_key2 s hs) ?_
 intro v ps hv
 rw [h3]
 rw [h4] at hv
 have : v = .int .i64 ((f s.data.toList).getD 0) := by
  cases hf : f s.data.toList with
  | none => rw [hf] at hv; exact intElem_inv hv
  | some y => rw [hf] at hv; exact intElem_inv hv
 rw [this]
 exact hK
theorem Mi.len {w : World} {b n : Nat} {f : List UInt8 → Option Int} (h : Mi w b n f) (ty : TypeId) : (Builtin.len_ #[77] ty #[.map (some b)]).run Tryz.prog w = .ok (.int .i64 (n : Int)) w := by
 obtain ⟨D, h2, hs, _⟩ := h.out
 rw [h2.len Tryz.underlying77 ty, hs]
theorem wpList_update_Mi {w : World} {ops : Array Oper} {rest : List Oper} {o : Oper} {a : Act} {Q : Exit → Act → World → Prop} (hg : o.guard = none) (m x v : Operand) (hop : o.op = Op.mapUpdate 77 m x v)
  (b n : Nat) (f : List UInt8 → Option Int) (hm : a.eval m = .map (some b)) (hown : Mi w b n f) (hn : n < maxLen) (s : ByteArray) (hx : a.eval x = .string s) (hs : s.size ≤ 140737488355327) (hnew : f s.data.toList = none) (y : Int) (hv : a.eval v = .int .i64 y)
  (hK : ∀ w', Mi w' b (n + 1) (fun t => if t = s.data.toList then some y else f t) → w.grownBy w' (some b) → wpList Tryz.prog ops Q rest (a.put o.dst undef) w') : wpList Tryz.prog ops Q (o :: rest) a w := by
 refine wpList_plain hg fun K hK' => ?_
 obtain ⟨D, h2, hsz, h3, h4⟩ := hown.out
 obtain ⟨w', hrun, r1, r2⟩ := h2.update keyedS2 Tryz.underlying77 hn (str_key2 s hs) (show intElem (.int .i64 y) = some (idat y, []) from rfl)
 have h1 := h2.isMap
 unfold Oper.wp
 simp [execOp, hop, hm, hx, hv, hrun, Result.andThen]
 refine hK' _ _ (hK _ ⟨D.put (.string s.data.toList) (idat y), r1, ?_, fun t => ?_, fun t z => ?_⟩ r2)
 ·
  rw [size_put (h2.tidy keyedS2), h3, hnew, hsz]
  rfl
 ·
  by_cases ht : t = s.data.toList
  ·
   subst ht
   rw [if_pos rfl, has_put_same h1 (show WideAt.IsKeyLit (Lit.string s.data.toList) from trivial)]
   rfl
  · rw [if_neg ht, has_put_other (by intro e; cases e; exact ht rfl), h3]
 ·
  by_cases ht : t = s.data.toList
  ·
   subst ht
   rw [if_pos rfl, atKey_put_same h1 (show WideAt.IsKeyLit (Lit.string s.data.toList) from trivial)]
  · rw [if_neg ht, atKey_put_other (by intro e; cases e; exact ht rfl), h4]
theorem key_len {r : List VM.Vl} (h : BG.Gd r) : (KM.row r).length ≤ 140737488355327 := by
 obtain ⟨h8, hall⟩ := WM.chkRow_ok h.1
 have : ∀ (l : List VM.Vl), (∀ x ∈ l, VM.chk x = 0) → (KM.row l).length ≤ 35 * l.length := by
  intro l
  induction l with
  | nil => intro _; simp [KM.row]
  | cons x t ih =>
   intro hx
   have h1 := KM.kb_len (WM.chk_ok (hx x (by simp))).2.2.2.2
   have h2 := ih (fun y hy => hx y (by simp [hy]))
   simp only [KM.row, List.flatMap_cons, List.length_append, List.length_cons] at h2 ⊢
   omega
 have := this r hall
 omega
theorem grown_of_fr {w w1 w2 : World} {r : Option Nat} (f : Fr w w1) (g : w1.grownBy w2 r) : w.grownBy w2 r :=
 ⟨g.os.trans f.os, g.tape.trans f.tape, g.output.trans f.output, Nat.le_trans f.size g.size, fun k hk hne => (g.block k (Nat.lt_of_lt_of_le hk f.size) hne).trans (f.block k hk)⟩
theorem grown_fr {w w' : World} (f : Fr w w') (r : Option Nat) : w.grownBy w' r := ⟨f.os, f.tape, f.output, f.size, fun k hk _ => f.block k hk⟩
theorem place_any (b : Nat) (v : Value) (fs : List (List VM.Vl)) (r : List VM.Vl) (w : World) (hm : Mi w b fs.length (BG.num fs)) (hr : IsL cdV w v r) (hf : ∀ x ∈ fs, BG.Gd x) (hg : BG.Gd r) (hw : Wide r) (hl : fs.length ≤ 1000) :
  Calls Tryz.prog 46 #[.map (some b), v] w fun e w' => e = .returned (.int .i64 ((BG.plc fs r : Nat) : Int)) ∧ Mi w' b (BG.add fs r).length (BG.num (BG.add fs r)) ∧ w.grownBy w' (some b) := by
 have HKy := hideP (recKey_ok v r w (row_of hr) hw hg.1)
 have hnum := BG.num_key hf hg
 have HSn := hideP (fun (h : BG.num fs (KM.row r) = none) => BG.num_snoc (fs := fs) h)
 have HP : Hid (BG.plc fs r = (BG.at? r fs).getD fs.length) := rfl
 have HA : Hid (BG.add fs r = if (BG.at? r fs).isSome then fs else fs ++ [r]) := rfl
 have hkl := key_len hg
 have HM := hideP hm
 obtain ⟨a, c, rfl⟩ : ∃ a c, v = .slice a r.length c := by obtain ⟨a, c, h, _⟩ := hr; exact ⟨a, c, h⟩
 clear hm hr hf hg hw
 generalize hq : BG.at? r fs = D at *
 generalize BG.plc fs r = P at *
 have hkb : (⟨(KM.row r).toArray⟩ : ByteArray).data.toList = KM.row r := rfl
 have hks : (⟨(KM.row r).toArray⟩ : ByteArray).size ≤ 140737488355327 := by show (KM.row r).toArray.size ≤ _; simpa using hkl
 generalize hkey : (⟨(KM.row r).toArray⟩ : ByteArray) = key at *
 generalize r.length = rl at *
 cases D with
 | some i =>
  have hn : BG.num fs key.data.toList = some (i : Int) := by rw [hkb, hnum]; rfl
  have HA2 := hideP (HA.out.trans (if_pos rfl))
  have HP2 := hideP (show P = i from HP.out)
  have HN := hideP hn
  clear hnum hn HSn hq hkb hkey HA HP
  go_enter Tryz.func46, Tryz.ntmps46
  go_wp2_with fail
  refine HKy.out.mono ?_
  rintro _ w1 ⟨rfl, f1⟩
  have HM1 := hideP (HM.out.fr f1)
  have F1 := hideP f1
  clear f1 HM HKy
  go_wp2_with (at_lookup; refine wp_lookup_Mi rfl _ _ rfl b fs.length (BG.num fs) rfl HM1.out key rfl hks ?_; rw [HN.out]; simp only [Option.getD_some, Option.isSome_some])
  go_ret
  refine ⟨by rw [HP2.out]; rfl, by rw [HA2.out]; exact HM1.out, grown_fr F1.out _⟩
 | none =>
  have hn : BG.num fs key.data.toList = none := by rw [hkb, hnum]; rfl
  have HA2 := hideP (HA.out.trans (if_neg (by simp)))
  have HP2 := hideP (show P = fs.length from HP.out)
  have HN := hideP hn
  have HS2 := hideP (HSn.out (by rw [← hkb]; exact hn))
  rw [← hkb] at HS2
  have hmx : fs.length < maxLen := by unfold maxLen; omega
  clear hnum hn HSn hq hkb hkey HA HP
  go_enter Tryz.func46, Tryz.ntmps46
  go_wp2_with fail
  refine HKy.out.mono ?_
  rintro _ w1 ⟨rfl, f1⟩
  have HM1 := hideP (HM.out.fr f1)
  have F1 := hideP f1
  have hln := HM1.out.len
  clear f1 HM HKy
  go_wp2_with (first
   | (at_lookup; refine wp_lookup_Mi rfl _ _ rfl b fs.length (BG.num fs) rfl HM1.out key rfl hks ?_; rw [HN.out]; simp only [Option.getD_none, Option.isSome_none])
   | (at_mapUpdate; refine wpList_update_Mi rfl _ _ _ rfl b fs.length (BG.num fs) rfl HM1.out hmx key rfl hks HN.out _ rfl ?_))
  intro w2 hm2 hg2
  have HM2 := hideP hm2
  have HG2 := hideP hg2
  clear hm2 hg2
  go_wp2_with fail
  go_ret
  refine ⟨by rw [HP2.out]; rfl, ?_, grown_of_fr F1.out HG2.out⟩
  rw [HA2.out, List.length_append]
  have e : BG.num (fs ++ [r]) = fun t => if t = key.data.toList then some (fs.length : Int) else BG.num fs t := funext HS2.out
  rw [e]
  exact HM2.out
end Go.Proofs.YtbcfdhimngoplaaGreatDoor
namespace Go.Proofs.YtbcfdhimngoplaaGreatDoor
open Go.ChangeShapes Go.WideShapes Go.ChangeAt Go.RowKit Go.Maps
set_option linter.unusedVariables false
set_option linter.unusedSimpArgs false
set_option maxRecDepth 100000
set_option maxHeartbeats 2000000
namespace BG
open VM
def dst (ls : List (List Vl)) : Except Nat (List (List Vl)) := if chk ls ≠ 0 then .error (chk ls) else .ok (ls.foldl add [])
theorem add_len (fs : List (List Vl)) (r : List Vl) : (add fs r).length ≤ fs.length + 1 := by
 unfold add
 split <;> simp
theorem fold_step (ls : List (List Vl)) (i : Nat) (h : i < ls.length) : (ls.take (i + 1)).foldl add [] = add ((ls.take i).foldl add []) ls[i] := by
 rw [List.take_succ_eq_append_getElem h, List.foldl_append]
 rfl
theorem fold_len (ls : List (List Vl)) : ∀ i, i ≤ ls.length → ((ls.take i).foldl add []).length ≤ i
 | 0, _ => by simp
 | i + 1, h => by
  rw [fold_step ls i (by omega)]
  have := fold_len ls i (by omega)
  have := add_len ((ls.take i).foldl add []) ls[i]
  omega
theorem mem_add {fs : List (List Vl)} {r x : List Vl} (h : x ∈ add fs r) : x ∈ fs ∨ x = r := by
 unfold add at h
 split at h
 · exact .inl h
 · simpa using h
theorem mem_fold (ls : List (List Vl)) : ∀ i, i ≤ ls.length → ∀ x ∈ (ls.take i).foldl add [], x ∈ ls
 | 0, _, x, hx => by simp at hx
 | i + 1, h, x, hx => by
  rw [fold_step ls i (by omega)] at hx
  rcases mem_add hx with hx | hx
  · exact mem_fold ls i (by omega) x hx
  · rw [hx]; exact List.getElem_mem _
theorem plc_new {fs : List (List Vl)} {r : List Vl} (h : plc fs r = fs.length) : add fs r = fs ++ [r] := by
 unfold plc at h
 unfold add
 cases hq : at? r fs with
 | none => rw [if_neg (by simp)]
 | some i =>
  have := at?_lt hq
  rw [hq] at h
  simp only [Option.getD_some] at h
  omega
theorem plc_old {fs : List (List Vl)} {r : List Vl} (h : plc fs r ≠ fs.length) : add fs r = fs := by
 unfold plc at h
 unfold add
 cases hq : at? r fs with
 | none => rw [hq] at h; exact absurd rfl h
 | some i => simp
theorem gd_row {r : List Vl} (h8 : r.length ≤ 8) (hc : chkAll r = 0) (hw : ∀ x ∈ r, LM.wide x) : Gd r := ⟨by unfold chkRow; rw [if_neg (by omega)]; exact hc, hw⟩
end BG
theorem orr_map {B b : Nat} {w w' : World} {v : Value} {ls : List (List VM.Vl)} (h : ORR B w v ls) (hb : ∃ es clk, w.heap[b]? = some (.map es clk)) (g : w.grownBy w' (some b)) : ORR B w' v ls := by
 obtain ⟨es, clk, hb⟩ := hb
 have key : ∀ {T sz : Nat} {v : Value} {n : Nat} {xs : List Value}, w.ownsRow B T sz v n xs → w'.ownsRow B T sz v n xs := fun h => own_keep h fun k cur hk hc => g.block k (Array.getElem?_eq_some_iff.1 hc).1 (by
  intro e
  cases e
  rw [hc] at hb
  cases hb)
 obtain ⟨qs, h1, h2, h3⟩ := h
 exact ⟨qs, key h1, h2, fun i a b => key (h3 i a b)⟩
theorem distinct_any (v : Value) (ls : List (List VM.Vl)) (w : World) (h : IsRR w v ls) (hW : ∀ r ∈ ls, ∀ x ∈ r, LM.wide x) (hL : ls.length ≤ 9223372036854775806) (hR : ∀ r ∈ ls, r.length ≤ 9223372036854775806) :
  Calls Tryz.prog 17 #[v] w fun r w' => RA w.heap.size (BG.dst ls) r w' ∧ Fr w w' := by
 have HK : Hid (BG.dst ls = if BG.chk ls ≠ 0 then .error (BG.chk ls) else .ok (ls.foldl BG.add [])) := rfl
 have HCk := hideP (bagCheck_any v ls w h hL hR)
 have HRl := hideP (fun (h0 : BG.chk ls = 0) => BG.chk_all h0)
 obtain ⟨a, c, rfl⟩ := h.slice
 obtain ⟨qs, hq, _, hc, hcell, hrow⟩ := h.at
 have HCe := hideP hcell
 have HRo := hideP hrow
 have HWd := hideP hW
 clear hcell hrow h hL hR hW
 obtain ⟨i0, hi0, hz0, hz1, hz2⟩ := info_parts Tryz.infoVs9
 generalize BG.dst ls = R at *
 by_cases h0 : BG.chk ls = 0
 ·
  replace HK := hideP (HK.out.trans (if_neg (by simpa using h0)))
  obtain ⟨h40, hall⟩ := HRl.out h0
  rw [h0] at HCk
  clear HRl h0
  have HAl := hideP hall
  clear hall
  have hmm := @run_makeMap Tryz.prog
  go_enter Tryz.func17, Tryz.ntmps17
  go_wp2_with fail
  refine HCk.out.mono ?_
  rintro _ w1 ⟨rfl, f1⟩
  have F1 := hideP f1
  have hle1 := f1.size
  clear f1 HCk
  go_wp2_with fail
  clear hmm
  have HM0 := hideP (Mi.made w1)
  have F2 := hideP (F1.out.alloc (.map #[] 0))
  obtain ⟨b, hbw⟩ : ∃ b, w1.heap.size = b := ⟨_, rfl⟩
  rw [hbw] at HM0 hle1 ⊢
  clear F1 hbw
  generalize w1.alloc (.map #[] 0) = w2 at *
  go_loopw [5, 8, 9, 18] (fun kv _ _ iv wr => ∃ (i : Nat), iv = .int .i64 i ∧ i ≤ ls.length ∧ ORR w.heap.size wr kv ((ls.take i).foldl BG.add []) ∧ Mi wr b ((ls.take i).foldl BG.add []).length (BG.num ((ls.take i).foldl BG.add [])) ∧ Fr w wr) (fun _ _ _ iv _ => ls.length - (intOf iv).toNat)
  case atStart => exact ⟨0, rfl, Nat.zero_le _, ORR.nil _ _, HM0.out, F2.out⟩
  case round =>
   obtain ⟨i, rfl, hi, hO, hM, hfr⟩ := hrel
   obtain ⟨ka, kc, rfl⟩ := hO.slice
   by_cases hlt : i < ls.length
   ·
    have hlt' : (i : Int) < (ls.length : Int) := by omega
    obtain ⟨b9, o, rfl, hbb, c0⟩ := HCe.out i (by omega)
    obtain ⟨h1, h2⟩ := HRo.out i (by omega) hlt
    have d0 := (Below.cell hfr (World.block_lt_of_cell? _ _ c0)).trans c0
    have hmem := List.getElem_mem hlt
    have hgd := fun x hx => BG.gd_row (HAl.out x hx).1 (HAl.out x hx).2.1 (HWd.out x hx)
    have hst := BG.fold_step ls i hlt
    have hfl := BG.fold_len ls i (by omega)
    have hfm := fun x hx => hgd x (BG.mem_fold ls i (by omega) x hx)
    have hgr := hgd _ hmem
    have hwr : Wide ls[i] := fun x hx => HWd.out _ hmem x hx
    have hl8 := (HAl.out ls[i] hmem).1
    generalize ls[i] = r at *
    generalize (ls.take i).foldl BG.add [] = fs at *
    generalize hfs' : (ls.take (i + 1)).foldl BG.add [] = fs' at *
    obtain ⟨q, hqq⟩ : ∃ q, (qs[i]'(by omega)) = q := ⟨_, rfl⟩
    rw [hqq] at h1 d0
    obtain ⟨qa, qn, qc⟩ := q
    simp only [Sq.v] at h1 d0
    have HPl := hideP (place_any b (.slice qa qn qc) fs r wr hM (h1.fr hfr) hfm hgr hwr (by omega))
    have HMh := hideP hM.heap
    have HCl := hideP (fun W (f : Fr w W) => cloneV_any (.slice qa qn qc) r W (h1.fr f) (by omega))
    have HO := hideP hO
    have HF := hideP hfr
    have HSt := hideP hst
    have HFs := hideP hfs'
    clear hO hfr hM h1 h2 c0 hqq hst hfs' hfm hgr hwr hmem hgd
    go_wp2_with fail
    refine HPl.out.mono ?_
    rintro _ w3 ⟨rfl, hm3, g3⟩
    have F3 := hideP (show Fr w w3 from Below.grown HF.out g3 (by have := HF.out.size; omega) (fun k hk => by injection hk with hk; omega))
    have HO3 := hideP (orr_map HO.out HMh.out g3)
    have HM3 := hideP hm3
    clear hm3 g3 HPl HO HF HMh
    by_cases hp : BG.plc fs r = fs.length
    ·
     have HAd := hideP (BG.plc_new hp)
     rw [hp]
     go_wp2_with fail
     refine (HCl.out _ F3.out).mono ?_
     rintro _ w4 ⟨v4, rfl, own4, f4⟩
     obtain ⟨va4, vc4, rfl⟩ := own_slice own4
     obtain ⟨ps, p1, p2, p3⟩ := HO3.out
     have fA : Fr w3 (w4.alloc (.cells #[.slice va4 r.length vc4] 31)) := f4.alloc _
     have HP1 := hideP (own_fr p1 fA)
     have HP2 := hideP p2
     have HP3 := hideP (fun i a b => own_fr (p3 i a b) fA)
     have HO4 := hideP (own_fr (own_low own4 F3.out.size) ((Fr.refl w4).alloc (.cells #[.slice va4 r.length vc4] 31)))
     have FA := hideP (F3.out.trans fA)
     have HM4 := hideP (HM3.out.fr fA)
     have HLit := hideP (lit_one cdS w4 ⟨va4, r.length, vc4⟩ 31)
     have hsz : w.heap.size ≤ w4.heap.size := (F3.out.trans f4).size
     clear p1 p2 p3 fA own4 f4 F3 HO3 HM3
     go_wp2_with (at_builtin; refine wpList_append_L cdS rfl _ _ 22 31 i0 _ 24 rfl Tryz.underlying22 hi0 hz0 hz1 hz2 rfl w.heap.size _ fs.length _ rfl HP1.out (.slice (some ⟨w4.heap.size, 0, none⟩) 1 1) [⟨va4, r.length, vc4⟩] rfl HLit.out ?c3 ?c4 ?c5 ?_)
     case c3 => unfold maxLen; simp <;> omega
     case c4 => simp <;> omega
     case c5 => simp <;> omega
     intro v2 wB own2 gr2
     have HN2 := hideP (ORR.snoc (q := ⟨va4, r.length, vc4⟩) HP1.out HP2.out HP3.out HO4.out own2 gr2)
     have FB := hideP (show Fr w wB from Below.grown FA.out gr2 (by simp <;> omega) (own_base HP1.out))
     have HMB := hideP (HM4.out.same (gr2.block b HM4.out.lt (by
      intro e
      obtain ⟨cur, hcur⟩ := own_block HP1.out _ e.symm
      obtain ⟨es, clk, hes⟩ := HM4.out.heap
      rw [hes] at hcur
      cases hcur)))
     clear own2 gr2
     go_wp2_with fail
     go_roundw
     case rel => exact ⟨i + 1, by go_num, by omega, by rw [HFs.out, HSt.out, HAd.out]; exact HN2.out, by rw [HFs.out, HSt.out]; exact HMB.out, FB.out⟩
     case measure => simp [intOf]; omega
    ·
     have HAd := hideP (BG.plc_old hp)
     have e1 : (((BG.plc fs r : Nat) : Int) == (fs.length : Int)) = false := beq_false_of_ne (by omega)
     have e2 : ¬ (((BG.plc fs r : Nat) : Int) = (fs.length : Int)) := by omega
     generalize BG.plc fs r = pp at *
     go_wp2_with fail
     go_roundw
     case rel => exact ⟨i + 1, by go_num, by omega, by rw [HFs.out, HSt.out, HAd.out]; exact HO3.out, by rw [HFs.out, HSt.out]; exact HM3.out, F3.out⟩
     case measure => simp [intOf]; omega
   ·
    obtain rfl : i = ls.length := by omega
    rw [List.take_length] at hO ⊢
    have HO := hideP hO
    have HF := hideP hfr
    clear hO hfr hM
    generalize ls.foldl BG.add [] = fs at *
    go_wp2_with fail
    go_ret2
    exact ⟨by rw [HK.out]; exact ⟨_, rfl, HO.out⟩, HF.out⟩
 ·
  replace HK := hideP (HK.out.trans (if_pos h0))
  generalize BG.chk ls = z at *
  have e1 : ((z : Int) != 0) = true := by simp; omega
  have e2 : ¬ ((z : Int) = 0) := by omega
  go_enter Tryz.func17, Tryz.ntmps17
  go_wp2_with fail
  refine HCk.out.mono ?_
  rintro _ w1 ⟨rfl, f1⟩
  have F1 := hideP f1
  clear f1 HCk
  go_wp2_with fail
  go_ret2
  exact ⟨by rw [HK.out]; rfl, F1.out⟩
end Go.Proofs.YtbcfdhimngoplaaGreatDoor
namespace Go.Proofs.YtbcfdhimngoplaaGreatDoor
open Go.ChangeShapes Go.WideShapes Go.ChangeAt Go.RowKit
set_option linter.unusedVariables false
set_option linter.unusedSimpArgs false
section
variable {P : Program} {ops : Array Oper} {Q : Exit → Act → World → Prop} {md : Region.Mode}
theorem filt_set : ∀ (l : List Bool) (i : Nat), l[i]? = some false → ((l.set i true).filter (fun b => !b)).length + 1 = (l.filter (fun b => !b)).length
 | [], i, h => by simp at h
 | b :: l, 0, h => by
  simp at h
  subst h
  simp
 | b :: l, i + 1, h => by
  simp only [List.getElem?_cons_succ] at h
  have := filt_set l i h
  cases b
  · simp only [List.set_cons_succ, List.filter_cons, Bool.not_false, if_true, List.length_cons]; omega
  · simp only [List.set_cons_succ, List.filter_cons, Bool.not_true, Bool.false_eq_true, if_false]; exact this
theorem not_listed {listed : Array Bool} {i : Nat} (h : listed.getD i true = false) : listed.toList[i]? = some false := by
 rw [Array.getElem?_toList]
 unfold Array.getD at h
 split at h
 ·
  rename_i hi
  rw [Array.getElem?_eq_getElem hi]
  exact congrArg some h
 · cases h
theorem ready_spec {listed : Array Bool} {i : Nat} (h : i ∈ Region.ready md ops listed) : i < ops.size ∧ listed.getD i true = false := by
 unfold Region.ready at h
 rw [List.mem_filter, List.mem_range, Bool.and_eq_true] at h
 exact ⟨h.1, by simpa using h.2.1⟩
theorem wpAny_inv (I : Array Bool → Act → World → Prop)
  (hstep : ∀ listed a w, listed.size = ops.size → I listed a w → ∀ i ∈ Region.ready md ops listed, wpOp P ops Q i (I (listed.setIfInBounds i true)) a w)
  (hdone : ∀ listed a w, listed.size = ops.size → I listed a w → Region.ready md ops listed = [] → Q .normal a w) :
  ∀ (fuel : Nat) (listed : Array Bool) (a : Act) (w : World), I listed a w → listed.size = ops.size → (listed.toList.filter (fun b => !b)).length ≤ fuel → wpAny P md ops Q fuel listed a w := by
 intro fuel
 induction fuel with
 | zero =>
  intro listed a w hI hs hf
  have hr : Region.ready md ops listed = [] := by
   cases hr : Region.ready md ops listed with
   | nil => rfl
   | cons i r =>
    have hi := ready_spec (md := md) (ops := ops) (listed := listed) (i := i) (by rw [hr]; simp)
    have := filt_set _ i (not_listed hi.2)
    omega
  exact ⟨hr, hdone listed a w hs hI hr⟩
 | succ fuel ih =>
  intro listed a w hI hs hf
  refine ⟨fun hr => hdone listed a w hs hI hr, fun i hi => ?_⟩
  refine wpOp_mono (fun a w h => ih _ a w h (by simpa using hs) ?_) (hstep listed a w hs hI i hi)
  have := filt_set _ i (not_listed (ready_spec hi).2)
  rw [Array.toList_setIfInBounds]
  omega
def dstOf (ops : Array Oper) (i : Nat) : Option Tmp := (ops[i]?).bind (·.dst)
def putL (ops : Array Oper) (listed : Array Bool) (v : Nat → Value) : List Nat → Act → Act
 | [], a => a
 | i :: r, a => putL ops listed v r (if listed.getD i false = true then a.put (dstOf ops i) (v i) else a)
def upd (v : Nat → Value) (i : Nat) (x : Value) : Nat → Value := fun j => if j = i then x else v j
theorem putL_comm {listed : Array Bool} {v : Nat → Value} {d : Option Tmp} {x : Value} : ∀ (l : List Nat) (a : Act), (∀ j ∈ l, ∀ e, dstOf ops j = some e → d ≠ some e) → (putL ops listed v l a).put d x = putL ops listed v l (a.put d x)
 | [], a, _ => rfl
 | j :: r, a, h => by
  unfold putL
  rw [putL_comm r _ (fun k hk => h k (by simp [hk]))]
  split
  · rw [Act.put_comm a (v j) x (h j (by simp))]
  · rfl
theorem getD_set (listed : Array Bool) (i j : Nat) (h : i < listed.size) : (listed.setIfInBounds i true).getD j false = if j = i then true else listed.getD j false := by
 by_cases e : j = i
 ·
  subst e
  simp [Array.getD, h]
 ·
  rw [if_neg e]
  exact getD_set_ne false (fun h => e h.symm)
theorem putL_same {listed : Array Bool} {v : Nat → Value} {i : Nat} {x : Value} (hi : i < listed.size) : ∀ (l : List Nat) (a : Act), i ∉ l → putL ops (listed.setIfInBounds i true) (upd v i x) l a = putL ops listed v l a
 | [], a, _ => rfl
 | j :: r, a, h => by
  have hj : j ≠ i := fun e => h (by simp [e])
  unfold putL
  rw [putL_same hi r _ (fun hm => h (by simp [hm])), getD_set _ _ _ hi, if_neg hj]
  unfold upd
  rw [if_neg hj]
theorem putL_step {listed : Array Bool} {v : Nat → Value} {i : Nat} {x : Value} (hi : i < listed.size) (hno : listed.getD i false = false) : ∀ (l : List Nat) (a : Act), i ∈ l → l.Nodup → (∀ j ∈ l, j ≠ i → ∀ e, dstOf ops j = some e → dstOf ops i ≠ some e) →
  (putL ops listed v l a).put (dstOf ops i) x = putL ops (listed.setIfInBounds i true) (upd v i x) l a
 | [], a, h, _, _ => by simp at h
 | j :: r, a, h, hd, hn => by
  by_cases e : j = i
  ·
   subst e
   have hnr : j ∉ r := (List.nodup_cons.1 hd).1
   unfold putL
   rw [if_neg (by rw [hno]; decide), getD_set _ _ _ hi, if_pos rfl, if_pos rfl, putL_same hi r _ hnr]
   rw [putL_comm r a (fun k hk e he => hn k (by simp [hk]) (fun h => hnr (h ▸ hk)) e he)]
   unfold upd
   rw [if_pos rfl]
  ·
   have hir : i ∈ r := by
    rcases List.mem_cons.1 h with h | h
    · exact absurd h.symm e
    · exact h
   unfold putL
   rw [putL_step hi hno r _ hir (List.nodup_cons.1 hd).2 (fun k hk => hn k (by simp [hk])), getD_set _ _ _ hi, if_neg e]
   unfold upd
   rw [if_neg e]
theorem putL_size {listed : Array Bool} {v : Nat → Value} : ∀ (l : List Nat) (a : Act), (putL ops listed v l a).tmps.size = a.tmps.size
 | [], a => rfl
 | j :: r, a => by
  unfold putL
  rw [putL_size r]
  split
  · cases dstOf ops j <;> simp [Act.put]
  · rfl
theorem putL_other {listed : Array Bool} {v : Nat → Value} {x : Operand} : ∀ (l : List Nat) (a : Act), (∀ j ∈ l, ∀ d, dstOf ops j = some d → x ≠ .tmp d) → (putL ops listed v l a).eval x = a.eval x
 | [], a, _ => rfl
 | j :: r, a, h => by
  unfold putL
  rw [putL_other r _ (fun k hk => h k (by simp [hk]))]
  split
  · exact Act.eval_put (h j (by simp))
  · rfl
theorem eval_put_same {a : Act} {d : Tmp} {x : Value} (h : d < a.tmps.size) : (a.put (some d) x).eval (.tmp d) = x := by
 simp [Act.put, Act.eval, h]
theorem putL_at {listed : Array Bool} {v : Nat → Value} {i : Nat} {d : Tmp} (hdst : dstOf ops i = some d) (hl : listed.getD i false = true) : ∀ (l : List Nat) (a : Act), i ∈ l → l.Nodup → (∀ j ∈ l, j ≠ i → dstOf ops j ≠ some d) → d < a.tmps.size → (putL ops listed v l a).eval (.tmp d) = v i
 | [], a, h, _, _, _ => by simp at h
 | j :: r, a, h, hd, hn, hs => by
  by_cases e : j = i
  ·
   subst e
   have hnr : j ∉ r := (List.nodup_cons.1 hd).1
   unfold putL
   rw [if_pos hl, putL_other r _ (fun k hk d' hd' he => hn k (by simp [hk]) (fun h => hnr (h ▸ hk)) (by rw [hd']; injection he with he; rw [he]))]
   rw [hdst]
   exact eval_put_same hs
  ·
   have hir : i ∈ r := by
    rcases List.mem_cons.1 h with h | h
    · exact absurd h.symm e
    · exact h
   unfold putL
   refine putL_at hdst hl r _ hir (List.nodup_cons.1 hd).2 (fun k hk => hn k (by simp [hk])) ?_
   split
   · cases dstOf ops j <;> simpa [Act.put] using hs
   · exact hs
end
end Go.Proofs.YtbcfdhimngoplaaGreatDoor
namespace Go.Proofs.YtbcfdhimngoplaaGreatDoor
open Go.ChangeShapes Go.WideShapes Go.ChangeAt Go.RowKit
set_option linter.unusedVariables false
set_option linter.unusedSimpArgs false
section
variable {P : Program} {ops : Array Oper} {Q : Exit → Act → World → Prop}
theorem region_inv {id : Nat} {a : Act} {w : World} (hm : P.follows .mixedOrders = true)
  (J : Array Bool → (Nat → Value) → World → Prop)
  (h0 : J (Array.replicate ops.size false) (fun _ => undef) w.drew)
  (hd : ∀ i, i < ops.size → ∀ j ∈ List.range ops.size, j ≠ i → ∀ e, dstOf ops j = some e → dstOf ops i ≠ some e)
  (hstep : ∀ (listed : Array Bool) (v : Nat → Value) (w : World), listed.size = ops.size → J listed v w → ∀ i ∈ Region.ready .any ops listed,
   wpOp P ops Q i (fun a' w' => ∃ x, a' = (putL ops listed v (List.range ops.size) a).put (dstOf ops i) x ∧ J (listed.setIfInBounds i true) (upd v i x) w') (putL ops listed v (List.range ops.size) a) w)
  (hdone : ∀ (listed : Array Bool) (v : Nat → Value) (w : World), listed.size = ops.size → J listed v w → Region.ready .any ops listed = [] → Q .normal (putL ops listed v (List.range ops.size) a) w) :
  (Code.region id ops true).wp P Q a w := by
 refine wp_region_any hm ?_
 refine wpAny_inv (fun listed a' w' => ∃ v, a' = putL ops listed v (List.range ops.size) a ∧ J listed v w') ?_ ?_ ops.size _ a _ ?_ (by simp) ?_
 ·
  rintro listed a' w' hs ⟨v, rfl, hJ⟩ i hi
  obtain ⟨hi1, hi2⟩ := ready_spec hi
  refine wpOp_mono ?_ (hstep listed v w' hs hJ i hi)
  rintro a2 w2 ⟨x, rfl, hJ2⟩
  refine ⟨upd v i x, ?_, hJ2⟩
  refine putL_step (by rw [hs]; exact hi1) ?_ _ a (List.mem_range.2 hi1) List.nodup_range (fun j hj hne e he => hd i hi1 j hj hne e he)
  have hlt : i < listed.size := by rw [hs]; exact hi1
  unfold Array.getD at hi2 ⊢
  rw [dif_pos hlt] at hi2 ⊢
  exact hi2
 ·
  rintro listed a' w' hs ⟨v, rfl, hJ⟩ hr
  exact hdone listed v w' hs hJ hr
 ·
  refine ⟨fun _ => undef, ?_, h0⟩
  have : ∀ (l : List Nat), putL ops (Array.replicate ops.size false) (fun _ => undef) l a = a := by
   intro l
   induction l with
   | nil => rfl
   | cons i r ih =>
    unfold putL
    rw [if_neg (by
     unfold Array.getD
     split
     · simp
     · simp)]
    exact ih
  exact (this _).symm
 · simp
theorem wpOp_val {i : Nat} {o : Oper} {a : Act} {w w' : World} {x : Value} {K : Act → World → Prop} (hi : ops[i]? = some o) (hg : o.guard = none) (hr : (execOp a.eval o).run P w = .ok (.value x) w') (hK : K (a.put o.dst x) w') : wpOp P ops Q i K a w := by
 unfold wpOp
 simp only [hi]
 rw [if_pos (by simp [Region.wanted, hg])]
 left
 unfold Oper.wp
 rw [hr]
 exact hK
theorem wpOp_skip {i : Nat} {o : Oper} {a : Act} {w w' : World} {K : Act → World → Prop} (hi : ops[i]? = some o) (hg : o.guard = none) (hr : (execOp a.eval o).run P w = .ok .skip w') (hK : K (a.put o.dst undef) w') : wpOp P ops Q i K a w := by
 unfold wpOp
 simp only [hi]
 rw [if_pos (by simp [Region.wanted, hg])]
 left
 unfold Oper.wp
 rw [hr]
 exact hK
theorem wpOp_of {i : Nat} {o : Oper} {a : Act} {w : World} {K : Act → World → Prop} (hi : ops[i]? = some o) (hg : o.guard = none) (h : o.wp P a w K Q) : wpOp P ops Q i K a w := by
 unfold wpOp
 simp only [hi]
 rw [if_pos (by simp [Region.wanted, hg])]
 exact .inl h
theorem wpOp_enter {i : Nat} {o : Oper} {a : Act} {w w' : World} {f : FuncId} {args : Array Value} {K : Act → World → Prop} (hi : ops[i]? = some o) (hg : o.guard = none) (hr : (execOp a.eval o).run P w = .ok (.enter f args) w')
  {R : Ending → World → Prop} (hc : Calls P f args w' R) (hK : ∀ e w2, R e w2 → ∃ v, e = .returned v ∧ K (a.put o.dst v) w2) : wpOp P ops Q i K a w := by
 refine wpOp_of hi hg ?_
 unfold Oper.wp
 rw [hr]
 show Calls P f args w' _
 refine hc.mono fun e w2 h => ?_
 obtain ⟨v, rfl, h2⟩ := hK e w2 h
 exact h2
end
end Go.Proofs.YtbcfdhimngoplaaGreatDoor
namespace Go.Proofs.YtbcfdhimngoplaaGreatDoor
open Go.ChangeShapes Go.WideShapes Go.ChangeAt Go.RowKit
set_option linter.unusedVariables false
set_option linter.unusedSimpArgs false
set_option maxRecDepth 100000
set_option maxHeartbeats 2000000
theorem bf {b : Bool} (h1 : b = true) (h2 : b = false) : False := by rw [h1] at h2; cases h2
theorem bne {b : Bool} (h : b = true → False) : b = false := by cases b; rfl; exact absurd rfl h
def updL (L : Nat → Bool) (i : Nat) : Nat → Bool := fun j => if j = i then true else L j
def updG (G : Nat → Nat) (i x : Nat) : Nat → Nat := fun j => if j = i then x else G j
theorem after_of {ops : Array Oper} {listed : Array Bool} {i : Nat} {o : Oper} (hi : i ∈ Region.ready .any ops listed) (ho : ops[i]? = some o) : ∀ e ∈ o.after, Region.binds .any e = true → listed.getD e.on false = true := by
 obtain ⟨_, o', h1, h2⟩ := mem_ready.1 hi
 rw [ho] at h1
 cases h1
 exact h2
theorem not_yet {ops : Array Oper} {listed : Array Bool} {i : Nat} (hs : listed.size = ops.size) (hi : i ∈ Region.ready .any ops listed) : listed.getD i false = false := by
 obtain ⟨h1, h2⟩ := ready_spec hi
 have hlt : i < listed.size := by rw [hs]; exact h1
 unfold Array.getD at h2 ⊢
 rw [dif_pos hlt] at h2 ⊢
 exact h2
theorem toL {listed : Array Bool} {i : Nat} (h : i < listed.size) : (fun j => (listed.setIfInBounds i true).getD j false) = updL (fun j => listed.getD j false) i := by
 funext j
 rw [getD_set _ _ _ h]
 rfl
theorem putL_old {ops : Array Oper} {listed : Array Bool} {v : Nat → Value} {t : Tmp} (l : List Nat) (a : Act) (h : ∀ j ∈ l, dstOf ops j ≠ some t) : (putL ops listed v l a).eval (.tmp t) = a.eval (.tmp t) :=
 putL_other l a (fun j hj d hd he => h j hj (by rw [hd]; injection he with he; rw [he]))
theorem after_one {ops : Array Oper} {listed : Array Bool} {i : Nat} {o : Oper} (hi : i ∈ Region.ready .any ops listed) (ho : ops[i]? = some o) (k : Nat) (hd : (o.after.toList.any fun e => Region.binds .any e && e.on == k) = true) : listed.getD k false = true := by
 obtain ⟨e, he, h⟩ := List.any_eq_true.1 hd
 rw [Bool.and_eq_true, beq_iff_eq] at h
 rw [← h.2]
 exact after_of hi ho e (Array.mem_toList_iff.1 he) h.1
theorem region_inv2 {P : Program} {ops : Array Oper} {Q : Exit → Act → World → Prop} {id : Nat} {a : Act} {w : World} (hm : P.follows .mixedOrders = true)
  (J : Array Bool → (Nat → Value) → World → Prop)
  (h0 : J (Array.replicate ops.size false) (fun _ => undef) w.drew)
  (hd : ∀ i, i < ops.size → ∀ j ∈ List.range ops.size, j ≠ i → ∀ e, dstOf ops j = some e → dstOf ops i ≠ some e)
  (hstep : ∀ (listed : Array Bool) (v : Nat → Value) (w : World) (A : Act), listed.size = ops.size → J listed v w → (∀ i d, dstOf ops i = some d → d < a.tmps.size → listed.getD i false = true → A.eval (.tmp d) = v i) →
   (∀ t, ((List.range ops.size).all fun j => decide (dstOf ops j ≠ some t)) = true → A.eval (.tmp t) = a.eval (.tmp t)) → ∀ i ∈ Region.ready .any ops listed,
   wpOp P ops Q i (fun a' w' => ∃ x, a' = A.put (dstOf ops i) x ∧ J (listed.setIfInBounds i true) (upd v i x) w') A w)
  (hdone : ∀ (listed : Array Bool) (v : Nat → Value) (w : World), listed.size = ops.size → J listed v w → Region.ready .any ops listed = [] → Q .normal (putL ops listed v (List.range ops.size) a) w) :
  (Code.region id ops true).wp P Q a w := by
 refine region_inv hm J h0 hd ?_ hdone
 intro listed v w' hs hJ i hi
 refine hstep listed v w' _ hs hJ ?_ ?_ i hi
 ·
  intro k d hk hda hl
  have hks : k < ops.size := by
   unfold dstOf at hk
   cases hq : ops[k]? with
   | none => rw [hq] at hk; cases hk
   | some o => exact (Array.getElem?_eq_some_iff.1 hq).1
  exact putL_at hk hl _ a (List.mem_range.2 hks) List.nodup_range (fun j hj hne he => hd k hks j hj hne d he hk) hda
 ·
  intro t ht
  refine putL_old _ a (fun j hj => ?_)
  have := List.all_eq_true.1 ht j hj
  simpa using this
section
variable {P : Program} {ops : Array Oper} {Q : Exit → Act → World → Prop} {i : Nat} {A : Act} {w : World} {K : Act → World → Prop} {d : Option Tmp} {ty : TypeId} {pos : String} {aft : Array Edge}
theorem wpOp_move {x : Operand} {y : Value} (hi : ops[i]? = some { dst := d, op := .move x, type := ty, pos := pos, after := aft, guard := none }) (he : A.eval x = y) (hK : K (A.put d y) w) : wpOp P ops Q i K A w :=
 wpOp_val hi rfl (x := y) (w' := w) (by rw [← he]; simp [execOp]) hK
theorem wpOp_load {t : TypeId} {x : Operand} {y : Value} {w' : World} (hi : ops[i]? = some { dst := d, op := .load t x, type := ty, pos := pos, after := aft, guard := none }) (hr : (Instr.loadAt t (A.eval x)).run P w = .ok y w') (hK : K (A.put d y) w') : wpOp P ops Q i K A w :=
 wpOp_val hi rfl (x := y) (w' := w') (by simp [execOp, hr]) hK
theorem wpOp_slice {t : TypeId} {n : Nat} {ps : Array (Nat × Operand)} {y : Value} {w' : World} (hi : ops[i]? = some { dst := d, op := .buildSlice t n ps, type := ty, pos := pos, after := aft, guard := none }) (hr : (Instr.buildSlice t n (ps.map fun (i, x) => (i, A.eval x))).run P w = .ok y w') (hK : K (A.put d y) w') : wpOp P ops Q i K A w :=
 wpOp_val hi rfl (x := y) (w' := w') (by simp [execOp, hr]) hK
theorem wpOp_store {t : TypeId} {p x : Operand} {w' : World} (hi : ops[i]? = some { dst := d, op := .store t p x, type := ty, pos := pos, after := aft, guard := none }) (hr : (Instr.storeAt t (A.eval p) (A.eval x)).run P w = .ok () w') (hK : K (A.put d undef) w') : wpOp P ops Q i K A w :=
 wpOp_skip hi rfl (w' := w') (by simp [execOp, hr]) hK
theorem wpOp_call {f : FuncId} {xs : Array Operand} {ts : Array TypeId} {args : Array Value} {R : Ending → World → Prop} (hi : ops[i]? = some { dst := d, op := .call { callee := .value (.func f), args := xs, argTypes := ts }, type := ty, pos := pos, after := aft, guard := none }) (ha : xs.map A.eval = args) (hf : (callFunc f args).run P w = .ok (.enter f args) w) (hc : Calls P f args w R) (hK : ∀ e w2, R e w2 → ∃ v, e = .returned v ∧ K (A.put d v) w2) : wpOp P ops Q i K A w :=
 wpOp_enter hi rfl (w' := w) (f := f) (args := args) (by subst ha; simp [execOp, resolve, invoke, Act.eval, Deferred.ofValue, hf]) hc hK
end
theorem wpOp_is {P : Program} {ops : Array Oper} {Q : Exit → Act → World → Prop} {i : Nat} {o : Oper} {A : Act} {w w' : World} {y : Value} {K : Act → World → Prop} (S : Sem Value) (hi : ops[i]? = some o) (hg : o.guard = none) (he : execOp A.eval o = (do pure (.value (← S)))) (hr : S.run P w = .ok y w') (hK : K (A.put o.dst y) w') : wpOp P ops Q i K A w :=
 wpOp_val hi hg (x := y) (w' := w') (by rw [he]; simp [hr]) hK
theorem wpOp_gis {P : Program} {ops : Array Oper} {Q : Exit → Act → World → Prop} {i : Nat} {o : Oper} {A : Act} {w w' : World} {y : Value} {K : Act → World → Prop} (S : Sem Value) (hi : ops[i]? = some o) (hw : Region.wanted o (yielded ops A.tmps) = true) (he : execOp A.eval o = (do pure (.value (← S)))) (hr : S.run P w = .ok y w') (hK : K (A.put o.dst y) w') : wpOp P ops Q i K A w := by
 unfold wpOp
 simp only [hi]
 rw [if_pos hw]
 left
 unfold Oper.wp
 rw [show (execOp A.eval o).run P w = .ok (.value y) w' by rw [he]; simp [hr]]
 exact hK
theorem exec_len {A : Act} {d : Option Tmp} {ty t : TypeId} {pos : String} {aft : Array Edge} {gd : Option (Nat × Bool)} {P : Program} {w : World} {x : Operand} {a : Option Addr} {n c : Nat} {e : TypeId} (ht : P.underlying t = some (.slice e)) (he : A.eval x = .slice a n c) :
  (execOp A.eval { dst := d, op := .call { callee := .builtin .len, args := #[x], argTypes := #[t] }, type := ty, pos := pos, after := aft, guard := gd }).run P w = .ok (.value (.int .i64 n)) w := by
 simp only [execOp, resolve, invoke, builtin, Sem.run_bind, Sem.run_pure, Result.andThen_ok, List.map_toArray, List.map_cons, List.map_nil, he]
 simp [Builtin.len_, run_underlying ht, goInt]
theorem wanted_of {ops : Array Oper} {A : Act} {o : Oper} {k : Nat} {b : Bool} {d : Tmp} (hg : o.guard = some (k, b)) (hd : dstOf ops k = some d) (he : A.eval (.tmp d) = .bool b) : Region.wanted o (yielded ops A.tmps) = true := by
 have h1 : A.tmps[d]? = some (.bool b) := by
  unfold Act.eval at he
  simp only [Array.getD_eq_getD_getElem?] at he
  cases hq : A.tmps[d]? with
  | none => rw [hq] at he; cases he
  | some x => rw [hq] at he; simpa using he
 have h2 : yielded ops A.tmps k = some b := by
  unfold yielded
  unfold dstOf at hd
  rw [hd]
  simp only [Option.bind_some, h1]
 simp [Region.wanted, hg, h2]
theorem wpOp_g {P : Program} {ops : Array Oper} {Q : Exit → Act → World → Prop} {i : Nat} {o : Oper} {a : Act} {w : World} {K : Act → World → Prop} (hi : ops[i]? = some o) (hw : Region.wanted o (yielded ops a.tmps) = true) (h : o.wp P a w K Q) : wpOp P ops Q i K a w := by
 unfold wpOp
 simp only [hi]
 rw [if_pos hw]
 exact .inl h
theorem wpOp_gval {P : Program} {ops : Array Oper} {Q : Exit → Act → World → Prop} {i : Nat} {o : Oper} {a : Act} {w w' : World} {x : Value} {K : Act → World → Prop} (hi : ops[i]? = some o) (hw : Region.wanted o (yielded ops a.tmps) = true) (hr : (execOp a.eval o).run P w = .ok (.value x) w') (hK : K (a.put o.dst x) w') : wpOp P ops Q i K a w := by
 refine wpOp_g hi hw ?_
 unfold Oper.wp
 rw [hr]
 exact hK
theorem wpOp_genter {P : Program} {ops : Array Oper} {Q : Exit → Act → World → Prop} {i : Nat} {o : Oper} {a : Act} {w w' : World} {f : FuncId} {args : Array Value} {K : Act → World → Prop} (hi : ops[i]? = some o) (hw : Region.wanted o (yielded ops a.tmps) = true) (hr : (execOp a.eval o).run P w = .ok (.enter f args) w')
  {R : Ending → World → Prop} (hc : Calls P f args w' R) (hK : ∀ e w2, R e w2 → ∃ v, e = .returned v ∧ K (a.put o.dst v) w2) : wpOp P ops Q i K a w := by
 refine wpOp_g hi hw ?_
 unfold Oper.wp
 rw [hr]
 show Calls P f args w' _
 refine hc.mono fun e w2 h => ?_
 obtain ⟨v, rfl, h2⟩ := hK e w2 h
 exact h2
theorem wanted_none {ops : Array Oper} {A : Act} {o : Oper} (hg : o.guard = none) : Region.wanted o (yielded ops A.tmps) = true := by simp [Region.wanted, hg]
theorem exec_pick {A : Act} {d : Option Tmp} {ty : TypeId} {pos : String} {aft : Array Edge} {gd : Option (Nat × Bool)} {P : Program} {w : World} {c a b : Operand} {y : Value} (hc : A.eval c = .bool true) (ha : A.eval a = y) :
  (execOp A.eval { dst := d, op := .pick c a b, type := ty, pos := pos, after := aft, guard := gd }).run P w = .ok (.value y) w := by
 simp only [execOp, hc, ha]
 rfl
theorem wpOp_gcall {P : Program} {ops : Array Oper} {Q : Exit → Act → World → Prop} {i : Nat} {A : Act} {w : World} {K : Act → World → Prop} {d : Option Tmp} {ty : TypeId} {pos : String} {aft : Array Edge} {gd : Option (Nat × Bool)} {f : FuncId} {xs : Array Operand} {ts : Array TypeId} {args : Array Value} {R : Ending → World → Prop} (hi : ops[i]? = some { dst := d, op := .call { callee := .value (.func f), args := xs, argTypes := ts }, type := ty, pos := pos, after := aft, guard := gd })
  (hw : Region.wanted { dst := d, op := .call { callee := .value (.func f), args := xs, argTypes := ts }, type := ty, pos := pos, after := aft, guard := gd } (yielded ops A.tmps) = true) (ha : xs.map A.eval = args) (hf : (callFunc f args).run P w = .ok (.enter f args) w) (hc : Calls P f args w R) (hK : ∀ e w2, R e w2 → ∃ v, e = .returned v ∧ K (A.put d v) w2) : wpOp P ops Q i K A w :=
 wpOp_genter hi hw (w' := w) (f := f) (args := args) (by subst ha; simp [execOp, resolve, invoke, Act.eval, Deferred.ofValue, hf]) hc hK
structure RJ (W : World) (As : List Nat) (ty : Nat → TypeId) (deps : Nat → List Nat) (val : Nat → List Nat → Value) (cont : (Nat → Nat) → (Nat → Bool) → Nat → Array Value) (G : Nat → Nat) (L : Nat → Bool) (v : Nat → Value) (w : World) : Prop where
 fr : Fr W w
 vl : ∀ i, L i = true → v i = val i ((deps i).map G)
 bk : ∀ i ∈ As, L i = true → W.heap.size ≤ G i ∧ Blk w (G i) (cont G L i) (ty i)
 ne : ∀ i ∈ As, ∀ j ∈ As, L i = true → L j = true → i ≠ j → G i ≠ G j
 dp : ∀ i, L i = true → ∀ d ∈ deps i, L d = true
section
variable {W : World} {As : List Nat} {ty : Nat → TypeId} {deps : Nat → List Nat} {val : Nat → List Nat → Value} {cont : (Nat → Nat) → (Nat → Bool) → Nat → Array Value} {G : Nat → Nat} {L : Nat → Bool} {v : Nat → Value} {w w' : World}
theorem RJ.no (J : RJ W As ty deps val cont G L v w) {k i : Nat} (hi : L i = false) (hd : i ∈ deps k) : L k = false := bne fun h => bf (J.dp k h i hd) hi
theorem updL_ne {i j : Nat} (h : j ≠ i) : updL L i j = L j := if_neg h
theorem updL_at (i : Nat) : updL L i i = true := if_pos rfl
theorem upd_ne {i j : Nat} {x : Value} (h : j ≠ i) : upd v i x j = v j := if_neg h
theorem upd_at (i : Nat) (x : Value) : upd v i x i = x := if_pos rfl
theorem RJ.put (J : RJ W As ty deps val cont G L v w) (i : Nat) (hA : i ∉ As) (k : Nat) (hk : k ∈ As) (hl : L k = true) (hd : ∀ d ∈ deps i, L d = true) (hc : ∀ j ∈ As, j ≠ k → L j = true → cont G (updL L i) j = cont G L j)
  (fr : Fr W w') (hnew : Blk w' (G k) (cont G (updL L i) k) (ty k)) (hold : ∀ b arr T, b ≠ G k → Blk w b arr T → Blk w' b arr T) : RJ W As ty deps val cont G (updL L i) (upd v i (val i ((deps i).map G))) w' where
 fr := fr
 vl := fun j hj => by
  by_cases e : j = i
  · subst e; exact upd_at _ _
  · rw [upd_ne e]; rw [updL_ne e] at hj; exact J.vl j hj
 bk := fun j hj h => by
  have e : j ≠ i := fun e => hA (e ▸ hj)
  rw [updL_ne e] at h
  by_cases ek : j = k
  · subst ek; exact ⟨(J.bk j hj h).1, hnew⟩
  ·
   rw [hc j hj ek h]
   exact ⟨(J.bk j hj h).1, hold _ _ _ (J.ne j hj k hk h hl ek) (J.bk j hj h).2⟩
 ne := fun a ha b hb h1 h2 => by
  have ea : a ≠ i := fun e => hA (e ▸ ha)
  have eb : b ≠ i := fun e => hA (e ▸ hb)
  rw [updL_ne ea] at h1
  rw [updL_ne eb] at h2
  exact J.ne a ha b hb h1 h2
 dp := fun j hj d hd' => by
  by_cases e : j = i
  ·
   subst e
   by_cases e2 : d = j
   · subst e2; exact updL_at _
   · rw [updL_ne e2]; exact hd d hd'
  ·
   rw [updL_ne e] at hj
   by_cases e2 : d = i
   · subst e2; exact updL_at _
   · rw [updL_ne e2]; exact J.dp j hj d hd'
theorem RJ.pure (J : RJ W As ty deps val cont G L v w) (i : Nat) (hA : i ∉ As) (hd : ∀ d ∈ deps i, L d = true) (hc : ∀ j ∈ As, L j = true → cont G (updL L i) j = cont G L j)
  (f : Fr w w') : RJ W As ty deps val cont G (updL L i) (upd v i (val i ((deps i).map G))) w' where
 fr := J.fr.trans f
 vl := fun j hj => by
  by_cases e : j = i
  · subst e; exact upd_at _ _
  · rw [upd_ne e]; rw [updL_ne e] at hj; exact J.vl j hj
 bk := fun j hj h => by
  have e : j ≠ i := fun e => hA (e ▸ hj)
  rw [updL_ne e] at h
  rw [hc j hj h]
  exact ⟨(J.bk j hj h).1, (J.bk j hj h).2.fr f⟩
 ne := fun a ha b hb h1 h2 => by
  have ea : a ≠ i := fun e => hA (e ▸ ha)
  have eb : b ≠ i := fun e => hA (e ▸ hb)
  rw [updL_ne ea] at h1
  rw [updL_ne eb] at h2
  exact J.ne a ha b hb h1 h2
 dp := fun j hj d hd' => by
  by_cases e2 : d = i
  · subst e2; exact updL_at _
  ·
   rw [updL_ne e2]
   by_cases e : j = i
   · subst e; exact hd d hd'
   · rw [updL_ne e] at hj; exact J.dp j hj d hd'
theorem RJ.new (J : RJ W As ty deps val cont G L v w) (i : Nat) (hi : i ∈ As) (hno : L i = false) (hdi : deps i = [i]) (hc : ∀ j ∈ As, j ≠ i → L j = true → cont (updG G i w.heap.size) (updL L i) j = cont G L j)
  {arr : Array Value} (ha : cont (updG G i w.heap.size) (updL L i) i = arr) : RJ W As ty deps val cont (updG G i w.heap.size) (updL L i) (upd v i (val i [w.heap.size])) (w.alloc (.cells arr (ty i))) where
 fr := J.fr.alloc _
 vl := fun j hj => by
  by_cases e : j = i
  ·
   subst e
   rw [upd_at, hdi]
   simp only [List.map_cons, List.map_nil, updG, if_true]
  ·
   rw [upd_ne e]; rw [updL_ne e] at hj
   rw [J.vl j hj]
   congr 1
   refine List.map_congr_left fun d hd => ?_
   have : d ≠ i := fun e2 => bf (J.dp j hj d hd) (e2 ▸ hno)
   simp only [updG, if_neg this]
 bk := fun j hj h => by
  by_cases e : j = i
  ·
   subst e
   rw [ha]
   simp only [updG, if_true]
   exact ⟨J.fr.size, Blk.new w _ _⟩
  ·
   rw [updL_ne e] at h
   rw [hc j hj e h]
   simp only [updG, if_neg e]
   exact ⟨(J.bk j hj h).1, (J.bk j hj h).2.old _⟩
 ne := fun a ha' b hb h1 h2 hne => by
  by_cases ea : a = i
  ·
   subst ea
   have eb : b ≠ a := fun e => hne e.symm
   rw [updL_ne eb] at h2
   simp only [updG, if_true, if_neg eb]
   exact Nat.ne_of_gt (J.bk b hb h2).2.lt
  ·
   rw [updL_ne ea] at h1
   by_cases eb : b = i
   ·
    subst eb
    simp only [updG, if_true, if_neg ea]
    exact Nat.ne_of_lt (J.bk a ha' h1).2.lt
   ·
    rw [updL_ne eb] at h2
    simp only [updG, if_neg ea, if_neg eb]
    exact J.ne a ha' b hb h1 h2 hne
 dp := fun j hj d hd' => by
  by_cases e2 : d = i
  · subst e2; exact updL_at _
  ·
   rw [updL_ne e2]
   by_cases e : j = i
   ·
    subst e
    rw [hdi] at hd'
    simp only [List.mem_cons, List.not_mem_nil, or_false] at hd'
    exact absurd hd' e2
   · rw [updL_ne e] at hj; exact J.dp j hj d hd'
end
def over (cur : Array Value) (m : Nat) (news : List Value) : Array Value := (cur.toList.take m ++ news ++ cur.toList.drop (m + news.length)).toArray
theorem Fr.row {a w : World} (h : Fr a w) (g : Nat) (hg : a.heap.size ≤ g) (xs : Array Value) : Fr a (w.setRow g xs) := below_setRow h hg xs
end Go.Proofs.YtbcfdhimngoplaaGreatDoor
namespace Go.Proofs.YtbcfdhimngoplaaGreatDoor
open Go.ChangeShapes Go.WideShapes Go.ChangeAt Go.RowKit
set_option linter.unusedVariables false
set_option linter.unusedSimpArgs false
set_option maxRecDepth 100000
set_option maxHeartbeats 2000000
structure Sp where
 As : List Nat
 ty : Nat → TypeId
 deps : Nat → List Nat
 dv : Nat → List Nat
 val : Nat → List Nat → List Value → Value
 cont : (Nat → Nat) → (Nat → Value) → (Nat → Bool) → Nat → Array Value
 Xs : List Nat
 cons : Nat → List Nat
 X : Nat → List Nat → List Value → Value → World → Prop
structure RZ (S : Sp) (W : World) (G : Nat → Nat) (L : Nat → Bool) (v : Nat → Value) (w : World) : Prop where
 fr : Fr W w
 vl : ∀ i, i ∉ S.Xs → L i = true → v i = S.val i ((S.deps i).map G) ((S.dv i).map v)
 xs : ∀ i ∈ S.Xs, L i = true → (∀ c ∈ S.cons i, L c = false) → S.X i ((S.deps i).map G) ((S.dv i).map v) (v i) w
 bk : ∀ i ∈ S.As, L i = true → W.heap.size ≤ G i ∧ Blk w (G i) (S.cont G v L i) (S.ty i)
 ne : ∀ i ∈ S.As, ∀ j ∈ S.As, L i = true → L j = true → i ≠ j → G i ≠ G j
 dp : ∀ i, L i = true → ∀ d ∈ S.deps i, L d = true
 dw : ∀ i, L i = true → ∀ d ∈ S.dv i, L d = true
section
variable {S : Sp} {W : World} {G : Nat → Nat} {L : Nat → Bool} {v : Nat → Value} {w w' : World}
theorem RZ.no (J : RZ S W G L v w) {k i : Nat} (hi : L i = false) (hd : i ∈ S.deps k) : L k = false := bne fun h => bf (J.dp k h i hd) hi
theorem RZ.nov (J : RZ S W G L v w) {k i : Nat} (hi : L i = false) (hd : i ∈ S.dv k) : L k = false := bne fun h => bf (J.dw k h i hd) hi
theorem map_upd {i : Nat} {x : Value} {l : List Nat} (h : i ∉ l) : l.map (upd v i x) = l.map v := List.map_congr_left fun d hd => upd_ne (fun e => h (e ▸ hd))
theorem map_updG {i x : Nat} {l : List Nat} (h : i ∉ l) : l.map (updG G i x) = l.map G := List.map_congr_left fun d hd => by
 have : d ≠ i := fun e => h (e ▸ hd)
 simp only [updG, if_neg this]
theorem RZ.step (J : RZ S W G L v w) (i : Nat) (x : Value) (hno : L i = false) (hA : i ∉ S.As) (hd : ∀ d ∈ S.deps i, L d = true) (hw : ∀ d ∈ S.dv i, L d = true) (fr : Fr W w')
  (hv : i ∉ S.Xs → x = S.val i ((S.deps i).map G) ((S.dv i).map v))
  (hx : i ∈ S.Xs → S.X i ((S.deps i).map G) ((S.dv i).map v) x w')
  (hxs : ∀ j ∈ S.Xs, j ≠ i → L j = true → (∀ c ∈ S.cons j, updL L i c = false) → S.X j ((S.deps j).map G) ((S.dv j).map v) (v j) w → S.X j ((S.deps j).map G) ((S.dv j).map v) (v j) w')
  (hbk : ∀ k ∈ S.As, L k = true → Blk w (G k) (S.cont G v L k) (S.ty k) → Blk w' (G k) (S.cont G (upd v i x) (updL L i) k) (S.ty k)) : RZ S W G (updL L i) (upd v i x) w' where
 fr := fr
 vl := fun j hj hl => by
  by_cases e : j = i
  ·
   subst e
   rw [upd_at, map_upd (fun h => bf (hw j h) hno)]
   exact hv hj
  ·
   rw [updL_ne e] at hl
   rw [upd_ne e, map_upd (fun h => bf (J.dw j hl i h) hno)]
   exact J.vl j hj hl
 xs := fun j hj hl hc => by
  by_cases e : j = i
  ·
   subst e
   rw [upd_at, map_upd (fun h => bf (hw j h) hno)]
   exact hx hj
  ·
   rw [updL_ne e] at hl
   rw [upd_ne e, map_upd (fun h => bf (J.dw j hl i h) hno)]
   refine hxs j hj e hl hc (J.xs j hj hl fun c hcc => ?_)
   have := hc c hcc
   by_cases ec : c = i
   · subst ec; rw [updL_at] at this; cases this
   · rwa [updL_ne ec] at this
 bk := fun k hk hl => by
  have e : k ≠ i := fun e => hA (e ▸ hk)
  rw [updL_ne e] at hl
  exact ⟨(J.bk k hk hl).1, hbk k hk hl (J.bk k hk hl).2⟩
 ne := fun a ha b hb h1 h2 => by
  have ea : a ≠ i := fun e => hA (e ▸ ha)
  have eb : b ≠ i := fun e => hA (e ▸ hb)
  rw [updL_ne ea] at h1
  rw [updL_ne eb] at h2
  exact J.ne a ha b hb h1 h2
 dp := fun j hj d hd' => by
  by_cases e2 : d = i
  · subst e2; exact updL_at _
  ·
   rw [updL_ne e2]
   by_cases e : j = i
   · subst e; exact hd d hd'
   · rw [updL_ne e] at hj; exact J.dp j hj d hd'
 dw := fun j hj d hd' => by
  by_cases e2 : d = i
  · subst e2; exact updL_at _
  ·
   rw [updL_ne e2]
   by_cases e : j = i
   · subst e; exact hw d hd'
   · rw [updL_ne e] at hj; exact J.dw j hj d hd'
theorem RZ.pure (J : RZ S W G L v w) (i : Nat) (hno : L i = false) (hA : i ∉ S.As) (hX : i ∉ S.Xs) (hd : ∀ d ∈ S.deps i, L d = true) (hw : ∀ d ∈ S.dv i, L d = true) (f : Fr w w')
  (hst : ∀ j gs vs x w w', S.X j gs vs x w → Fr w w' → S.X j gs vs x w')
  (hc : ∀ k ∈ S.As, L k = true → S.cont G (upd v i (S.val i ((S.deps i).map G) ((S.dv i).map v))) (updL L i) k = S.cont G v L k) : RZ S W G (updL L i) (upd v i (S.val i ((S.deps i).map G) ((S.dv i).map v))) w' :=
 J.step i _ hno hA hd hw (J.fr.trans f) (fun _ => rfl) (fun h => absurd h hX) (fun j _ _ _ _ h => hst _ _ _ _ _ _ h f) (fun k hk hl h => by rw [hc k hk hl]; exact h.fr f)
theorem RZ.ex (J : RZ S W G L v w) (i : Nat) (x : Value) (hno : L i = false) (hA : i ∉ S.As) (hX : i ∈ S.Xs) (hd : ∀ d ∈ S.deps i, L d = true) (hw : ∀ d ∈ S.dv i, L d = true) (f : Fr w w')
  (hst : ∀ j gs vs x w w', S.X j gs vs x w → Fr w w' → S.X j gs vs x w') (hx : S.X i ((S.deps i).map G) ((S.dv i).map v) x w')
  (hc : ∀ k ∈ S.As, L k = true → S.cont G (upd v i x) (updL L i) k = S.cont G v L k) : RZ S W G (updL L i) (upd v i x) w' :=
 J.step i _ hno hA hd hw (J.fr.trans f) (fun h => absurd hX h) (fun _ => hx) (fun j _ _ _ _ h => hst _ _ _ _ _ _ h f) (fun k hk hl h => by rw [hc k hk hl]; exact h.fr f)
theorem RZ.new (J : RZ S W G L v w) (i : Nat) (hi : i ∈ S.As) (hX : i ∉ S.Xs) (hno : L i = false) (hdi : S.deps i = [i]) (hw : ∀ d ∈ S.dv i, L d = true)
  (hst : ∀ j gs vs x w w', S.X j gs vs x w → Fr w w' → S.X j gs vs x w')
  (hc : ∀ j ∈ S.As, j ≠ i → L j = true → S.cont (updG G i w.heap.size) (upd v i (S.val i [w.heap.size] ((S.dv i).map v))) (updL L i) j = S.cont G v L j)
  {arr : Array Value} (ha : S.cont (updG G i w.heap.size) (upd v i (S.val i [w.heap.size] ((S.dv i).map v))) (updL L i) i = arr) : RZ S W (updG G i w.heap.size) (updL L i) (upd v i (S.val i [w.heap.size] ((S.dv i).map v))) (w.alloc (.cells arr (S.ty i))) where
 fr := J.fr.alloc _
 vl := fun j hj hl => by
  by_cases e : j = i
  ·
   subst e
   rw [upd_at, hdi, map_upd (fun h => bf (hw j h) hno)]
   simp only [List.map_cons, List.map_nil, updG, if_true]
  ·
   rw [updL_ne e] at hl
   rw [upd_ne e, map_upd (fun h => bf (J.dw j hl i h) hno), map_updG (fun h => bf (J.dp j hl i h) hno)]
   exact J.vl j hj hl
 xs := fun j hj hl hcc => by
  have e : j ≠ i := fun e => hX (e ▸ hj)
  rw [updL_ne e] at hl
  rw [upd_ne e, map_upd (fun h => bf (J.dw j hl i h) hno), map_updG (fun h => bf (J.dp j hl i h) hno)]
  refine hst _ _ _ _ _ _ (J.xs j hj hl fun c hc2 => ?_) ((Fr.refl w).alloc _)
  have := hcc c hc2
  by_cases ec : c = i
  · subst ec; rw [updL_at] at this; cases this
  · rwa [updL_ne ec] at this
 bk := fun j hj h => by
  by_cases e : j = i
  ·
   subst e
   rw [ha]
   simp only [updG, if_true]
   exact ⟨J.fr.size, Blk.new w _ _⟩
  ·
   rw [updL_ne e] at h
   rw [hc j hj e h]
   simp only [updG, if_neg e]
   exact ⟨(J.bk j hj h).1, (J.bk j hj h).2.old _⟩
 ne := fun a ha' b hb h1 h2 hne => by
  by_cases ea : a = i
  ·
   subst ea
   have eb : b ≠ a := fun e => hne e.symm
   rw [updL_ne eb] at h2
   simp only [updG, if_true, if_neg eb]
   exact Nat.ne_of_gt (J.bk b hb h2).2.lt
  ·
   rw [updL_ne ea] at h1
   by_cases eb : b = i
   ·
    subst eb
    simp only [updG, if_true, if_neg ea]
    exact Nat.ne_of_lt (J.bk a ha' h1).2.lt
   ·
    rw [updL_ne eb] at h2
    simp only [updG, if_neg ea, if_neg eb]
    exact J.ne a ha' b hb h1 h2 hne
 dp := fun j hj d hd' => by
  by_cases e2 : d = i
  · subst e2; exact updL_at _
  ·
   rw [updL_ne e2]
   by_cases e : j = i
   ·
    subst e
    rw [hdi] at hd'
    simp only [List.mem_cons, List.not_mem_nil, or_false] at hd'
    exact absurd hd' e2
   · rw [updL_ne e] at hj; exact J.dp j hj d hd'
 dw := fun j hj d hd' => by
  by_cases e2 : d = i
  · subst e2; exact updL_at _
  ·
   rw [updL_ne e2]
   by_cases e : j = i
   · subst e; exact hw d hd'
   · rw [updL_ne e] at hj; exact J.dw j hj d hd'
theorem RZ.pure' (J : RZ S W G L v w) (i : Nat) (x : Value) (hno : L i = false) (hA : i ∉ S.As) (hX : i ∉ S.Xs) (hd : ∀ d ∈ S.deps i, L d = true) (hw : ∀ d ∈ S.dv i, L d = true) (hx : x = S.val i ((S.deps i).map G) ((S.dv i).map v)) (f : Fr w w')
  (hst : ∀ j gs vs x w w', S.X j gs vs x w → Fr w w' → S.X j gs vs x w')
  (hc : ∀ k ∈ S.As, L k = true → S.cont G (upd v i x) (updL L i) k = S.cont G v L k) : RZ S W G (updL L i) (upd v i x) w' :=
 J.step i _ hno hA hd hw (J.fr.trans f) (fun _ => hx) (fun h => absurd h hX) (fun j _ _ _ _ h => hst _ _ _ _ _ _ h f) (fun k hk hl h => by rw [hc k hk hl]; exact h.fr f)
theorem RZ.start (hW : Fr W w) (n : Nat) (v : Nat → Value) : RZ S W (fun _ => 0) (fun i => (Array.replicate n false).getD i false) v w := by
 have h : ∀ i, (Array.replicate n false).getD i false = true → False := fun i h => by
  rw [show (Array.replicate n false).getD i false = false by unfold Array.getD; split <;> simp] at h
  cases h
 exact ⟨hW, fun i _ hl => (h i hl).elim, fun i _ hl => (h i hl).elim, fun i _ hl => (h i hl).elim, fun i _ _ _ hl => (h i hl).elim, fun i hl => (h i hl).elim, fun i hl => (h i hl).elim⟩
end
theorem all_done {ops : Array Oper} {listed : Array Bool} (hs : listed.size = ops.size) (hr : Region.ready .any ops listed = []) (hwf : ((List.range ops.size).all fun i => match ops[i]? with | none => true | some o => o.after.toList.all fun e => !Region.binds .any e || decide (e.on < i)) = true) : ∀ i, i < ops.size → listed.getD i false = true := by
 intro i
 induction i using Nat.strongRecOn with
 | ind i ih =>
  intro hi
  have h1 := List.all_eq_true.1 hwf i (List.mem_range.2 hi)
  obtain ⟨o, ho⟩ : ∃ o, ops[i]? = some o := ⟨_, Array.getElem?_eq_getElem hi⟩
  rw [ho] at h1
  simp only at h1
  cases hq : listed.getD i false with
  | true => rfl
  | false =>
   have hlt : i < listed.size := by rw [hs]; exact hi
   have : i ∈ Region.ready .any ops listed := mem_ready.2 ⟨by
    unfold Array.getD at hq ⊢
    rw [dif_pos hlt] at hq ⊢
    exact hq, o, ho, fun e he hb => by
     have h3 := List.all_eq_true.1 h1 e (Array.mem_toList_iff.2 he)
     rw [hb, Bool.not_true, Bool.false_or] at h3
     have h2 := of_decide_eq_true h3
     exact ih e.on h2 (Nat.lt_trans h2 hi)⟩
   rw [hr] at this
   cases this
theorem exec_mv {A : Act} {d : Option Tmp} {ty : TypeId} {pos : String} {aft : Array Edge} {gd : Option (Nat × Bool)} {P : Program} {w : World} {x : Operand} {y : Value} (hx : A.eval x = y) :
  (execOp A.eval { dst := d, op := .move x, type := ty, pos := pos, after := aft, guard := gd }).run P w = .ok (.value y) w := by
 simp only [execOp, hx]
 rfl
theorem exec_as {A : Act} {d : Option Tmp} {ty : TypeId} {pos : String} {aft : Array Edge} {gd : Option (Nat × Bool)} {P : Program} {w : World} {x : Operand} {y : Value} (hx : A.eval x = y) :
  (execOp A.eval { dst := d, op := .assign x, type := ty, pos := pos, after := aft, guard := gd }).run P w = .ok (.value y) w := by
 simp only [execOp, hx]
 rfl
def tupAt (x : Value) (k : Nat) : Value := match x with
 | .tuple vs => vs.getD k undef
 | _ => undef
end Go.Proofs.YtbcfdhimngoplaaGreatDoor
