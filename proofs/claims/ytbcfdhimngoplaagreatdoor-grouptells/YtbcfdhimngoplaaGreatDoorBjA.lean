/-
  What the examples of bags are made of: values, nodes, rows; and what is answered of them.
-/
import Derived.Test.YtbcfdhimngoplaaGreatDoorGqF
import Derived.Test.YtbcfdhimngoplaaGreatDoorGqE
import Derived.Test.YtbcfdhimngoplaaGreatDoorGqD
import Derived.Test.YtbcfdhimngoplaaGreatDoorGqC
namespace Go.Proofs.YtbcfdhimngoplaaGreatDoor
open Go.ChangeShapes Go.WideShapes Go.ChangeAt Go.RowKit
set_option linter.unusedVariables false
set_option linter.unusedSimpArgs false
set_option maxRecDepth 100000
set_option maxHeartbeats 2000000
theorem lit_many {α : Type} (E : Cd α) (W : World) (l : List α) (T : TypeId) : IsL E (W.alloc (.cells (flat E l).toArray T)) (.slice (some ⟨W.heap.size, 0, none⟩) l.length l.length) l := by
 refine ⟨_, _, rfl, Nat.le_refl _, Or.inr ⟨W.heap.size, 0, rfl, by simp, ?_⟩⟩
 intro j u hu
 rw [Nat.zero_add]
 refine (Blk.new W (flat E l).toArray T).cell j ?_
 simpa using hu
theorem putL_defers {ops : Array Oper} {listed : Array Bool} {v : Nat → Value} : ∀ (l : List Nat) (a : Act), (putL ops listed v l a).defers = a.defers
 | [], a => rfl
 | j :: r, a => by
  unfold putL
  rw [putL_defers r]
  split
  · cases dstOf ops j <;> simp [Act.put]
  · rfl
theorem tail_one {ops : Array Oper} {listed : Array Bool} {v : Nat → Value} {l : List Nat} {a : Act} {w : World} {K : Exit → Act → World → Prop} (i : Nat) (d : Tmp) (x : Value) (hv : v i = x) (hl : listed.getD i false = true) (hdst : dstOf ops i = some d) (hi : i ∈ l) (hnd : l.Nodup) (hno : ∀ j ∈ l, j ≠ i → dstOf ops j ≠ some d) (hsz : d < a.tmps.size)
  (hK : ∀ a' : Act, a'.tmps.size = a.tmps.size → a'.defers = a.defers → a'.eval (.tmp d) = x → K .normal a' w) : K .normal (putL ops listed v l a) w :=
 hK _ (putL_size _ _) (putL_defers _ _) ((putL_at hdst hl l a hi hnd hno hsz).trans hv)
theorem no_dst {ops : Array Oper} {d : Tmp} {n : Nat} (h : ((List.range n).all fun j => dstOf ops j != some d) = true) (j : Nat) (hj : j < n) : dstOf ops j ≠ some d := by
 have := List.all_eq_true.1 h j (List.mem_range.2 hj)
 simpa using this
theorem vInt_any (n : Int) (w : World) : Calls Tryz.prog 33 #[.int .i64 n] w fun e w' => e = .returned (.agg #[.int .i64 1, .int .i64 n, .string ⟨#[]⟩]) ∧ Fr w w' := by
 go_enter Tryz.func33, Tryz.ntmps33
 go_wp2
 refine bodyPost_ret (v := .agg #[.int .i64 1, .int .i64 n, .string ⟨#[]⟩]) (by simp [results, Tryz.results33, go_sem]) rfl ?_
 exact ⟨rfl, (Fr.refl _).alloc _⟩
theorem vText_any (s : ByteArray) (w : World) : Calls Tryz.prog 34 #[.string s] w fun e w' => e = .returned (.agg #[.int .i64 2, .int .i64 0, .string s]) ∧ Fr w w' := by
 go_enter Tryz.func34, Tryz.ntmps34
 go_wp2
 refine bodyPost_ret (v := .agg #[.int .i64 2, .int .i64 0, .string s]) (by simp [results, Tryz.results34, go_sem]) rfl ?_
 exact ⟨rfl, (Fr.refl _).alloc _⟩
theorem nOp_any (op kids : Int) (w : World) : Calls Tryz.prog 38 #[.int .i64 op, .int .i64 kids] w fun e w' => e = .returned (.agg #[.int .i64 op, .int .i64 kids, .int .i64 0, .int .i64 0, .string ⟨#[]⟩, .string ⟨#[]⟩]) ∧ Fr w w' := by
 go_enter Tryz.func38, Tryz.ntmps38
 go_wp2
 refine bodyPost_ret (v := .agg #[.int .i64 op, .int .i64 kids, .int .i64 0, .int .i64 0, .string ⟨#[]⟩, .string ⟨#[]⟩]) (by simp [results, Tryz.results38, go_sem]) rfl ?_
 exact ⟨rfl, (Fr.refl _).alloc _⟩
theorem nCol_any (s : ByteArray) (w : World) : Calls Tryz.prog 36 #[.string s] w fun e w' => e = .returned (.agg #[.int .i64 2, .int .i64 0, .int .i64 0, .int .i64 0, .string ⟨#[]⟩, .string s]) ∧ Fr w w' := by
 go_enter Tryz.func36, Tryz.ntmps36
 go_wp2
 refine bodyPost_ret (v := .agg #[.int .i64 2, .int .i64 0, .int .i64 0, .int .i64 0, .string ⟨#[]⟩, .string s]) (by simp [results, Tryz.results36, go_sem]) rfl ?_
 exact ⟨rfl, (Fr.refl _).alloc _⟩
theorem nLit_any (k n : Int) (s : ByteArray) (w : World) : Calls Tryz.prog 37 #[.agg #[.int .i64 k, .int .i64 n, .string s]] w fun e w' => e = .returned (.agg #[.int .i64 1, .int .i64 0, .int .i64 k, .int .i64 n, .string s, .string ⟨#[]⟩]) ∧ Fr w w' := by
 go_enter Tryz.func37, Tryz.ntmps37
 go_wp2
 refine bodyPost_ret (v := .agg #[.int .i64 1, .int .i64 0, .int .i64 k, .int .i64 n, .string s, .string ⟨#[]⟩]) (by simp [results, Tryz.results37, go_sem]) rfl ?_
 exact ⟨rfl, ((Fr.refl _).alloc _).alloc _⟩
theorem nodes_any (a : Option Addr) (n c : Nat) (w : World) : Calls Tryz.prog 35 #[.slice a n c] w fun e w' => e = .returned (.slice a n c) ∧ w' = w := by
 go_enter Tryz.func35, Tryz.ntmps35
 go_wp2
 go_ret
 exact ⟨rfl, rfl⟩
theorem rowOf_any (a : Option Addr) (n c : Nat) (w : World) : Calls Tryz.prog 32 #[.slice a n c] w fun e w' => e = .returned (.slice a n c) ∧ w' = w := by
 go_enter Tryz.func32, Tryz.ntmps32
 go_wp2
 go_ret
 exact ⟨rfl, rfl⟩
theorem rowsOf_any (a : Option Addr) (n c : Nat) (w : World) : Calls Tryz.prog 31 #[.slice a n c] w fun e w' => e = .returned (.slice a n c) ∧ w' = w := by
 go_enter Tryz.func31, Tryz.ntmps31
 go_wp2
 go_ret
 exact ⟨rfl, rfl⟩
theorem flat_sq : ∀ qs : List Sq, flat cdS qs = qs.map Sq.v
 | [] => rfl
 | x :: t => by rw [flat_cons, flat_sq t]; rfl
theorem isL_blkV {w : World} {g : Nat} (l : List VM.Vl) (hb : Blk w g (flat cdV l).toArray 56) : IsL cdV w (.slice (some ⟨g, 0, none⟩) l.length l.length) l := by
 refine ⟨_, _, rfl, Nat.le_refl _, .inr ⟨g, 0, rfl, hb.lt, fun j u hj => ?_⟩⟩
 rw [Nat.zero_add]
 refine hb.cell j ?_
 simpa using hj
theorem isRR_blk {w : World} {g : Nat} (qs : List Sq) (ls : List (List VM.Vl)) (hb : Blk w g (qs.map Sq.v).toArray 31) (hl : qs.length = ls.length) (h : ∀ i (h1 : i < qs.length) (h2 : i < ls.length), IsL cdV w qs[i].v ls[i]) : IsRR w (.slice (some ⟨g, 0, none⟩) qs.length qs.length) ls := by
 refine ⟨qs, ⟨_, _, rfl, Nat.le_refl _, .inr ⟨g, 0, rfl, hb.lt, fun j u hj => ?_⟩⟩, hl, h⟩
 rw [Nat.zero_add]
 refine hb.cell j ?_
 rw [flat_sq] at hj
 simpa using hj
theorem isRR_one {w : World} {g : Nat} {a : Sq} {la : List VM.Vl} (hb : Blk w g #[a.v] 31) (ha : IsL cdV w a.v la) : IsRR w (.slice (some ⟨g, 0, none⟩) 1 1) [la] :=
 isRR_blk [a] [la] hb rfl fun i h1 h2 => by
  match i, h1 with
  | 0, _ => exact ha
theorem isRR_three {w : World} {g : Nat} {a b c : Sq} {la lb lc : List VM.Vl} (hb : Blk w g #[a.v, b.v, c.v] 31) (ha : IsL cdV w a.v la) (hbb : IsL cdV w b.v lb) (hc : IsL cdV w c.v lc) : IsRR w (.slice (some ⟨g, 0, none⟩) 3 3) [la, lb, lc] :=
 isRR_blk [a, b, c] [la, lb, lc] hb rfl fun i h1 h2 => by
  match i, h1 with
  | 0, _ => exact ha
  | 1, _ => exact hbb
  | 2, _ => exact hc
theorem isL_blk {α : Type} (E : Cd α) {w : World} {g : Nat} (l : List α) {T : TypeId} (hb : Blk w g (flat E l).toArray T) : IsL E w (.slice (some ⟨g, 0, none⟩) l.length l.length) l := by
 refine ⟨_, _, rfl, Nat.le_refl _, .inr ⟨g, 0, rfl, hb.lt, fun j u hj => ?_⟩⟩
 rw [Nat.zero_add]
 refine hb.cell j ?_
 simpa using hj
theorem isEE_two {w : World} {g : Nat} {a b : Sq} {la lb : List EX.Nd} {T : TypeId} (hb : Blk w g #[a.v, b.v] T) (ha : IsL cdN w a.v la) (hbb : IsL cdN w b.v lb) : IsEE w (.slice (some ⟨g, 0, none⟩) 2 2) [la, lb] := by
 refine ⟨[a, b], isL_blk cdS [a, b] hb, rfl, fun i h1 h2 => ?_⟩
 match i, h1 with
 | 0, _ => exact ha
 | 1, _ => exact hbb
theorem isRR_front {W : World} {a : Option Addr} {n c : Nat} {ls : List (List VM.Vl)} (h : IsRR W (.slice a n c) ls) (k : Nat) (hk : k ≤ n) : IsRR W (.slice a k c) (ls.take k) := by
 have := isRR_cut h 0 k (by omega) a (fun b o e => .inr (by rw [e, Nat.add_zero]))
 simpa using this
namespace BJ
open VM
def tb : Vl := ⟨2, 0, ⟨#[98]⟩⟩
def vi (n : Int) : Vl := ⟨1, n, ⟨#[]⟩⟩
def ra : List Vl := [vi 2, tb]
def rb : List Vl := [vi 1, tb]
def ls : List (List Vl) := [ra, rb, ra]
def cs : List ByteArray := [⟨#[110]⟩, ⟨#[115]⟩]
def nc (s : ByteArray) : EX.Nd := ⟨2, 0, EX.nul, s⟩
def nl (n : Int) : EX.Nd := ⟨1, 0, vi n, ⟨#[]⟩⟩
def no (op kids : Int) : EX.Nd := ⟨op, kids, EX.nul, ⟨#[]⟩⟩
def eF : List EX.Nd := [nc ⟨#[110]⟩, nl 1, no 14 2]
def e1 : List EX.Nd := [nc ⟨#[115]⟩]
def e2 : List EX.Nd := [nc ⟨#[110]⟩, no 3 1]
theorem fil : BG.fil ls cs eF = .ok [ra, ra] := by kernel_rfl
theorem srt : BG.srt ls [⟨1, false⟩, ⟨0, false⟩] = .ok [rb, ra, ra] := by kernel_rfl
theorem dst : BG.dst ls = .ok [ra, rb] := by kernel_rfl
theorem grp : BG.gpO ls [1] [⟨2, 0⟩, ⟨1, -1⟩] = .ok [[tb, vi 5, vi 3]] := by kernel_rfl
theorem prj : BG.prj [ra] cs [e1, e2] = .ok [[tb, vi (-2)]] := by kernel_rfl
theorem jn : BG.jn [ra] [ra, rb] = .ok [[vi 2, tb, vi 2, tb], [vi 2, tb, vi 1, tb]] := by kernel_rfl
theorem lim : BG.lim ls 1 1 = .ok [rb] := by kernel_rfl
theorem chk : BG.chk [[], ra] = 1 := by kernel_rfl
theorem gd_vi {n : Int} (h : WH.Ok n) : EV.gd (vi n) := ⟨h, Nat.zero_le _⟩
theorem gd_tb : EV.gd tb := ⟨⟨by decide, by decide⟩, by decide⟩
theorem gdr : ∀ r ∈ ls, ∀ x ∈ r, EV.gd x := by
 intro r hr x hx
 simp only [ls, ra, rb, List.mem_cons, List.not_mem_nil, or_false] at hr
 rcases hr with rfl | rfl | rfl <;> simp only [List.mem_cons, List.not_mem_nil, or_false] at hx <;> rcases hx with rfl | rfl
 all_goals first | exact gd_tb | exact gd_vi ⟨by decide, by decide⟩
theorem wdr : ∀ r ∈ ls, ∀ x ∈ r, LM.wide x := fun r hr x hx => ⟨(gdr r hr x hx).1.1, (gdr r hr x hx).1.2⟩
theorem len2 : ∀ r ∈ ls, r.length ≤ 9223372036854775806 := by
 intro r hr
 simp only [ls, ra, rb, List.mem_cons, List.not_mem_nil, or_false] at hr
 rcases hr with rfl | rfl | rfl <;> decide
theorem csz : ∀ c ∈ cs, c.size ≤ 140737488355327 := by
 intro c hc
 simp only [cs, List.mem_cons, List.not_mem_nil, or_false] at hc
 rcases hc with rfl | rfl <;> decide
theorem nmF : ∀ n ∈ eF, n.nm.size ≤ 140737488355327 := by
 intro n hn
 simp only [eF, List.mem_cons, List.not_mem_nil, or_false] at hn
 rcases hn with rfl | rfl | rfl <;> decide
theorem gdF : ∀ n ∈ eF, EV.gd n.v := by
 intro n hn
 simp only [eF, List.mem_cons, List.not_mem_nil, or_false] at hn
 rcases hn with rfl | rfl | rfl
 · exact EV.gd_nul
 · exact gd_vi ⟨by decide, by decide⟩
 · exact EV.gd_nul
theorem nmP : ∀ e ∈ [e1, e2], ∀ n ∈ e, n.nm.size ≤ 140737488355327 := by
 intro e he n hn
 simp only [e1, e2, List.mem_cons, List.not_mem_nil, or_false] at he
 rcases he with rfl | rfl <;> simp only [List.mem_cons, List.not_mem_nil, or_false] at hn
 · subst hn; decide
 · rcases hn with rfl | rfl <;> decide
theorem gdP : ∀ e ∈ [e1, e2], ∀ n ∈ e, EV.gd n.v := by
 intro e he n hn
 simp only [e1, e2, List.mem_cons, List.not_mem_nil, or_false] at he
 rcases he with rfl | rfl <;> simp only [List.mem_cons, List.not_mem_nil, or_false] at hn
 · subst hn; exact EV.gd_nul
 · rcases hn with rfl | rfl <;> exact EV.gd_nul
theorem lenA {ls : List (List Vl)} (h : (ls.all fun r => Nat.ble r.length 9223372036854775806) = true) : ∀ r ∈ ls, r.length ≤ 9223372036854775806 := fun r hr => Nat.le_of_ble_eq_true (List.all_eq_true.1 h r hr)
end BJ
theorem join_look {w : World} {a : Option Addr} {c : Nat} {x : List VM.Vl} (h : IsRR w (.slice a 2 c) [x, [BJ.vi 2, BJ.tb, BJ.vi 1, BJ.tb]]) : ∃ nb no qb qo qc, a = some ⟨nb, no, none⟩ ∧ nb < w.heap.size ∧ qb < w.heap.size ∧ w.cell? ⟨nb, no + 1, none⟩ = some (.slice (some ⟨qb, qo, none⟩) 4 qc) ∧ w.cell? ⟨qb, qo + 6, none⟩ = some (.int .i64 1) ∧ w.cell? ⟨qb, qo + 6 + 1, none⟩ = some (.int .i64 1) ∧ w.cell? ⟨qb, qo + 6 + 2, none⟩ = some (.string ⟨#[]⟩) := by
 obtain ⟨qs, hq, _, hc, hcell, hrow⟩ := h.at
 have h1 : 1 < qs.length := by rw [hq]; exact Nat.lt_succ_self 1
 obtain ⟨nb, no, rfl, hnb, hce⟩ := hcell 1 h1
 obtain ⟨hL, _⟩ := hrow 1 h1 (Nat.lt_succ_self 1)
 generalize qs[1] = q at hce hL
 obtain ⟨qa, qc, hq2, hqc, hqs⟩ := hL
 unfold Sq.v at hq2
 injection hq2 with e1 e2 e3
 rcases hqs with h0 | ⟨qb, qo, e4, hqb, hat⟩
 · cases h0
 ·
  refine ⟨nb, no, qb, qo, q.c, rfl, hnb, hqb, ?_, hat 6 _ rfl, hat 7 _ rfl, hat 8 _ rfl⟩
  rw [hce, e1, e4, e2]
  rfl
end Go.Proofs.YtbcfdhimngoplaaGreatDoor
