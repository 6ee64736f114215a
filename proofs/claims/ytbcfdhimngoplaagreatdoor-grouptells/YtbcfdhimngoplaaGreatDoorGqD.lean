/-
  What belongs together: BgS, BgT, BgU, BgV, BgW, Tot.
-/
import Derived.Test.YtbcfdhimngoplaaGreatDoorGqC
import Derived.Deep.DeepCutAuto
import Derived.Deep.CutRange
import Derived.Test.YtbcfdhimngoplaaGreatDoorGpC
namespace Go.Proofs.YtbcfdhimngoplaaGreatDoor
set_option linter.unusedVariables false
set_option linter.unusedSimpArgs false
namespace BG
open VM
def nulV : Vl := ⟨0, 0, ⟨#[]⟩⟩
def kv (k : Ky) (r : List Vl) : Vl := r.getD k.col.toNat nulV
def colLt (k : Ky) (a b : List Vl) : Bool := if k.desc = true then decide (CM.ord (kv k b) (kv k a) < 0) else decide (CM.ord (kv k a) (kv k b) < 0)
def klt (ks : List Ky) : List Vl → List Vl → Bool := BO.lexAll (ks.map colLt)
theorem ord_self (a : Vl) : CM.ord a a = 0 := by have := SM.ord_anti a a; omega
theorem col_weak (k : Ky) : BO.Weak (colLt k) := by
 unfold colLt
 cases k.desc with
 | true =>
  simp only [if_true]
  refine ⟨fun a => ?_, fun a b h => ?_, fun a b c h => ?_⟩
  · simp [ord_self]
  ·
   have := SM.ord_anti (kv k a) (kv k b)
   simp only [decide_eq_true_eq, decide_eq_false_iff_not] at h ⊢
   omega
  ·
   simp only [decide_eq_true_eq] at h ⊢
   have h1 := SM.ord_anti (kv k a) (kv k b)
   have h2 := SM.ord_anti (kv k b) (kv k c)
   have h3 := SM.ord_anti (kv k a) (kv k c)
   have h4 := SM.ord_trans (kv k a) (kv k b) (kv k c)
   omega
 | false =>
  simp only [Bool.false_eq_true, if_false]
  refine ⟨fun a => ?_, fun a b h => ?_, fun a b c h => ?_⟩
  · simp [ord_self]
  ·
   have := SM.ord_anti (kv k a) (kv k b)
   simp only [decide_eq_true_eq, decide_eq_false_iff_not] at h ⊢
   omega
  ·
   simp only [decide_eq_true_eq] at h ⊢
   have h1 := SM.ord_anti (kv k a) (kv k b)
   have h2 := SM.ord_anti (kv k b) (kv k c)
   have h3 := SM.ord_anti (kv k a) (kv k c)
   have h4 := SM.ord_trans (kv k c) (kv k b) (kv k a)
   omega
theorem klt_weak (ks : List Ky) : BO.Weak (klt ks) := BO.lexAll_weak (fun f hf => by
 obtain ⟨k, _, rfl⟩ := List.mem_map.1 hf
 exact col_weak k)
theorem cc_lt {k : Ky} {a b : List Vl} (h : chkAll [kv k a, kv k b] = 0) : (cc k a b < 0 ↔ colLt k a b = true) ∧ (0 < cc k a b ↔ colLt k b a = true) := by
 have hc : CM.cmp (kv k a) (kv k b) = CM.ord (kv k a) (kv k b) := if_pos h
 have h1 := SM.ord_anti (kv k a) (kv k b)
 have e : cc k a b = if k.desc = true then -(CM.ord (kv k a) (kv k b)) else CM.ord (kv k a) (kv k b) := by
  rw [← hc]; rfl
 rw [e]
 unfold colLt
 cases k.desc with
 | true =>
  simp only [if_true, decide_eq_true_eq]
  constructor <;> constructor <;> intro _ <;> omega
 | false =>
  simp only [Bool.false_eq_true, if_false, decide_eq_true_eq]
  constructor <;> constructor <;> intro _ <;> omega
theorem cmpK_lt : ∀ {ks : List Ky} {a b : List Vl}, (∀ k ∈ ks, chkAll [kv k a, kv k b] = 0) → (cmpK ks a b < 0 ↔ klt ks a b = true)
 | [], a, b, _ => by simp [cmpK, klt, BO.lexAll]
 | k :: ks, a, b, h => by
  have ih := cmpK_lt (ks := ks) (a := a) (b := b) (fun x hx => h x (by simp [hx]))
  obtain ⟨h1, h2⟩ := cc_lt (h k (by simp))
  have e : klt (k :: ks) a b = (colLt k a b || (!colLt k b a && klt ks a b)) := rfl
  rw [e, cmpK]
  by_cases c0 : cc k a b = 0
  ·
   rw [if_neg (by simpa using c0), ih]
   have n1 : colLt k a b = false := by cases hq : colLt k a b with | false => rfl | true => have := h1.2 hq; omega
   have n2 : colLt k b a = false := by cases hq : colLt k b a with | false => rfl | true => have := h2.2 hq; omega
   rw [n1, n2]
   simp
  ·
   rw [if_pos c0]
   by_cases c1 : cc k a b < 0
   ·
    rw [h1.1 c1]
    simp [c1]
   ·
    have n1 : colLt k a b = false := by cases hq : colLt k a b with | false => rfl | true => exact absurd (h1.2 hq) c1
    have n2 : colLt k b a = true := h2.1 (by omega)
    rw [n1, n2]
    simp [c1]
end BG
namespace BO
variable {α β : Type}
theorem map_ins {lt : β → β → Bool} (f : α → β) (x : α) : ∀ (l : List α), (ins (fun a b => lt (f a) (f b)) x l).map f = ins lt (f x) (l.map f)
 | [] => rfl
 | y :: l => by
  simp only [ins, List.map_cons]
  split
  · simp
  · simp [map_ins f x l]
theorem map_fold {lt : β → β → Bool} (f : α → β) : ∀ (l m : List α), (l.foldl (fun m x => ins (fun a b => lt (f a) (f b)) x m) m).map f = (l.map f).foldl (fun m x => ins lt x m) (m.map f)
 | [], m => rfl
 | x :: l, m => by
  simp only [List.foldl_cons, List.map_cons]
  rw [map_fold f l, map_ins]
theorem map_sort {lt : β → β → Bool} (f : α → β) (l : List α) : (sort (fun a b => lt (f a) (f b)) l).map f = sort lt (l.map f) := map_fold f l []
theorem weak_map {lt : β → β → Bool} (h : Weak lt) (f : α → β) : Weak (fun a b : α => lt (f a) (f b)) := ⟨fun a => h.irrefl _, fun a b => h.asym _ _, fun a b c => h.neg _ _ _⟩
theorem ins_stop {lt : α → α → Bool} (h : Weak lt) {x : α} {a b : List α} (hs : Sorted lt (a ++ b)) (hb : ∀ y ∈ b, lt x y = true) (ha : ∀ y, a.getLast? = some y → lt x y = false) : ins lt x (a ++ b) = a ++ x :: b := by
 refine ins_at (fun y hy => ?_) (fun y hy => ?_)
 ·
  cases b with
  | nil => cases hy
  | cons z b => cases hy; exact hb _ (by simp)
 ·
  obtain ⟨z, hz⟩ : ∃ z, a.getLast? = some z := by
   cases hq : a.getLast? with
   | none => rw [List.getLast?_eq_none_iff] at hq; rw [hq] at hy; cases hy
   | some z => exact ⟨z, rfl⟩
  have h1 := ha z hz
  cases hq : lt x y with
  | false => rfl
  | true =>
   rcases h.neg x z y hq with h2 | h2
   · rw [h1] at h2; cases h2
   ·
    obtain ⟨ys, rfl⟩ := List.getLast?_eq_some_iff.1 hz
    have hp := (List.pairwise_append.1 hs).1
    rcases List.mem_append.1 hy with h3 | h3
    ·
     have := (List.pairwise_append.1 hp).2.2 y h3 z (by simp)
     rw [this] at h2
     cases h2
    ·
     simp at h3
     subst h3
     rw [h.irrefl] at h2
     cases h2
theorem sort_snoc {lt : α → α → Bool} (l : List α) (x : α) : sort lt (l ++ [x]) = ins lt x (sort lt l) := by simp [sort, List.foldl_append]
theorem sort_len {lt : α → α → Bool} (l : List α) : (sort lt l).length = l.length := (sort_perm l).length_eq
end BO
end Go.Proofs.YtbcfdhimngoplaaGreatDoor
namespace Go.Proofs.YtbcfdhimngoplaaGreatDoor
open Go.ChangeShapes Go.WideShapes Go.ChangeAt Go.RowKit
set_option linter.unusedVariables false
set_option linter.unusedSimpArgs false
set_option maxRecDepth 100000
set_option maxHeartbeats 2000000
abbrev Pr := Sq × List VM.Vl
def prV (p : Pr) : Value := .slice p.1.a p.1.n p.1.c
structure SR (w : World) (B G : Nat) (ps : List Pr) : Prop where
 b : Blk w G (ps.map prV).toArray 31
 own : ∀ p ∈ ps, w.ownsRow B 56 3 p.1.v p.2.length (flat cdV p.2)
theorem SR.fr {w w' : World} {B G : Nat} {ps : List Pr} (h : SR w B G ps) (f : Fr w w') : SR w' B G ps := ⟨h.b.fr f, fun p hp => own_fr (h.own p hp) f⟩
theorem SR.cell {w : World} {B G : Nat} {a b : List Pr} {x : Pr} (h : SR w B G (a ++ x :: b)) : w.cell? ⟨G, a.length, none⟩ = some (.slice x.1.a x.1.n x.1.c) := by
 refine h.b.cell a.length ?_
 simp [prV]
theorem SR.swap {w : World} {B G : Nat} {a b : List Pr} {x y : Pr} (h : SR w B G (a ++ y :: x :: b)) : SR ((w.setCell ⟨G, a.length + 1, none⟩ (.slice y.1.a y.1.n y.1.c)).setCell ⟨G, a.length, none⟩ (.slice x.1.a x.1.n x.1.c)) B G (a ++ x :: y :: b) := by
 refine ⟨?_, fun p hp => ?_⟩
 ·
  have hb := (h.b.set (a.length + 1) (.slice y.1.a y.1.n y.1.c)).set a.length (.slice x.1.a x.1.n x.1.c)
  have e : ((((a ++ y :: x :: b).map prV).toArray.setIfInBounds (a.length + 1) (.slice y.1.a y.1.n y.1.c)).setIfInBounds a.length (.slice x.1.a x.1.n x.1.c)) = ((a ++ x :: y :: b).map prV).toArray := by
   apply Array.toList_inj.1
   simp only [Array.toList_setIfInBounds, List.map_append, List.map_cons]
   rw [List.set_append_right _ _ (by simp), List.set_append_right _ _ (by simp)]
   simp [prV]
  rw [e] at hb
  exact hb
 ·
  have hm : p ∈ a ++ y :: x :: b := by
   simp only [List.mem_append, List.mem_cons] at hp ⊢
   rcases hp with h | h | h | h
   · exact .inl h
   · exact .inr (.inr (.inl h))
   · exact .inr (.inl h)
   · exact .inr (.inr (.inr h))
  have keep : ∀ (W : World) (j : Nat) (u : Value) (arr : Array Value), Blk W G arr 31 → W.ownsRow B 56 3 p.1.v p.2.length (flat cdV p.2) → (W.setCell ⟨G, j, none⟩ u).ownsRow B 56 3 p.1.v p.2.length (flat cdV p.2) := fun W j u arr hb ho => own_keep ho fun k cur hk hkc => by
   have hne : G ≠ k := by
    rintro rfl
    unfold Blk at hb
    rw [hb] at hkc
    simp only [Option.some.injEq, Obj.cells.injEq] at hkc
    exact absurd hkc.2.1 (by decide)
   simp only [World.setCell, Array.getElem?_modify, if_neg hne]
  exact keep _ _ _ _ (h.b.set _ _) (keep _ _ _ _ h.b (h.own p hm))
theorem grown_set {w w1 : World} {G : Nat} (h : w.grownBy w1 (some G)) (j : Nat) (u : Value) : w.grownBy (w1.setCell ⟨G, j, none⟩ u) (some G) :=
 ⟨h.os, h.tape, h.output, by simp [World.setCell]; exact h.size, fun k hk hne => by
  have : G ≠ k := fun e => hne (by rw [e])
  simp only [World.setCell, Array.getElem?_modify, if_neg this]
  exact h.block k hk hne⟩
theorem grown_then {w w1 w2 : World} {r : Option Nat} (h : w.grownBy w1 r) (f : Fr w1 w2) : w.grownBy w2 r :=
 ⟨f.os.trans h.os, f.tape.trans h.tape, f.output.trans h.output, Nat.le_trans h.size f.size, fun k hk hne => (f.block k (Nat.lt_of_lt_of_le hk h.size)).trans (h.block k hk hne)⟩
def plt (ks : List BG.Ky) (p q : Pr) : Bool := BG.klt ks p.2 q.2
theorem plt_weak (ks : List BG.Ky) : BO.Weak (plt ks) := BO.weak_map (BG.klt_weak ks) (fun p : Pr => p.2)
def Fit (ks : List BG.Ky) (r : List VM.Vl) : Prop := (∀ k ∈ ks, 0 ≤ k.col ∧ k.col < (r.length : Int)) ∧ VM.chkAll r = 0
theorem chk_at : ∀ {r : List VM.Vl}, VM.chkAll r = 0 → ∀ x ∈ r, VM.chk x = 0
 | [], _, x, hx => by cases hx
 | y :: t, h, x, hx => by
  have e : VM.chkAll (y :: t) = if VM.chk y = 0 then VM.chkAll t else VM.chk y := rfl
  rw [e] at h
  split at h
  ·
   rename_i h0
   rcases List.mem_cons.1 hx with rfl | hx
   · exact h0
   · exact chk_at h x hx
  · rename_i h0; exact absurd h h0
theorem Fit.two {ks : List BG.Ky} {a b : List VM.Vl} (ha : Fit ks a) (hb : Fit ks b) : ∀ k ∈ ks, VM.chkAll [BG.kv k a, BG.kv k b] = 0 := fun k hk => by
 have h1 := ha.1 k hk
 have h2 := hb.1 k hk
 have m1 : BG.kv k a ∈ a := by
  unfold BG.kv
  rw [List.getD_eq_getElem?_getD, List.getElem?_eq_getElem (show k.col.toNat < a.length by omega)]
  exact List.getElem_mem _
 have m2 : BG.kv k b ∈ b := by
  unfold BG.kv
  rw [List.getD_eq_getElem?_getD, List.getElem?_eq_getElem (show k.col.toNat < b.length by omega)]
  exact List.getElem_mem _
 have c1 := chk_at ha.2 _ m1
 have c2 := chk_at hb.2 _ m2
 show (if VM.chk (BG.kv k a) = 0 then (if VM.chk (BG.kv k b) = 0 then 0 else VM.chk (BG.kv k b)) else VM.chk (BG.kv k a)) = 0
 rw [if_pos c1, if_pos c2]
theorem insSort_any (kv : Value) (ks : List BG.Ky) (B G : Nat) (P0 mid Q0 : List Pr) (w : World) (h : SR w B G (P0 ++ mid ++ Q0)) (hk : ∀ w', w.grownBy w' (some G) → IsL cdY w' kv ks) (hf : ∀ p ∈ mid, Fit ks p.2) (hl : ks.length ≤ 1000) (n : Nat) (hn : n = (P0 ++ mid ++ Q0).length) (hn1 : n ≤ 1000) :
  Calls Tryz.prog 76 #[.slice (some ⟨G, 0, none⟩) n n, .int .i64 (P0.length : Int), .int .i64 ((P0.length + mid.length : Nat) : Int), .func (.func 29) #[kv] #[]] w fun e w' => e = .returned (.tuple #[]) ∧ SR w' B G (P0 ++ BO.sort (plt ks) mid ++ Q0) ∧ w.grownBy w' (some G) := by
 have HKs := hideP hk
 have HFt := hideP hf
 have H0 := hideP h
 obtain ⟨ka, kn, kc, rfl⟩ : ∃ a n c, kv = .slice a n c := by obtain ⟨a, c, h, _⟩ := hk w (grown_same w _); exact ⟨a, _, c, h⟩
 have hlen : P0.length + mid.length ≤ n := by rw [hn]; simp <;> omega
 clear hk hf h
 generalize ha : P0.length = a at *
 obtain ⟨bN, hbN⟩ : ∃ b, a + mid.length = b := ⟨_, rfl⟩
 rw [hbN]
 have HNn := hideP hn
 have HAa := hideP ha
 clear hn ha
 go_enter Tryz.func76, Tryz.ntmps76
 go_wp2_with fail
 go_loopw [8, 9] (fun iv _ wr => ∃ t I : Nat, iv = .int .i64 (I : Int) ∧ I = a + t ∧ 1 ≤ t ∧ (t ≤ mid.length ∨ t = 1) ∧ SR wr B G (P0 ++ BO.sort (plt ks) (mid.take t) ++ mid.drop t ++ Q0) ∧ w.grownBy wr (some G)) (fun iv _ _ => bN - (intOf iv).toNat)
 case atStart =>
  refine ⟨1, a + 1, by go_num, rfl, Nat.le_refl _, .inr rfl, ?_, grown_same _ _⟩
  have e : BO.sort (plt ks) (mid.take 1) = mid.take 1 := by
   cases mid with
   | nil => rfl
   | cons x t => rfl
  rw [e, List.append_assoc P0, List.take_append_drop]
  exact H0.out
 case round =>
  obtain ⟨t, I, rfl, hI, ht1, ht2, hsr, hgr⟩ := hrel
  have HI := hideP hI
  have hIn : I ≤ 1001 := by omega
  by_cases hlt : t < mid.length
  case neg =>
   have hlt' : ¬ ((I : Int) < (bN : Int)) := by omega
   have e1 : mid.take t = mid := List.take_of_length_le (by omega)
   have e2 : mid.drop t = [] := List.drop_eq_nil_of_le (by omega)
   rw [e1, e2, List.append_nil] at hsr
   have HS := hideP hsr
   have HG := hideP hgr
   clear hsr hgr
   go_wp2_with fail
   go_end0
   exact ⟨by first | rfl | trivial, by have := HS.out; simpa [List.append_assoc] using this, HG.out⟩
  ·
   have hlt' : (I : Int) < (bN : Int) := by omega
   clear hI
   have hd : mid.drop t = mid[t] :: mid.drop (t + 1) := List.drop_eq_getElem_cons hlt
   have hfx := HFt.out mid[t] (List.getElem_mem hlt)
   have htk : BO.sort (plt ks) (mid.take (t + 1)) = BO.ins (plt ks) mid[t] (BO.sort (plt ks) (mid.take t)) := by rw [List.take_succ_eq_append_getElem hlt, BO.sort_snoc]
   have hso := (BO.sort_of (plt_weak ks) (mid.take t)).sorted
   have hmm : ∀ p ∈ BO.sort (plt ks) (mid.take t), Fit ks p.2 := fun p hp => HFt.out p (List.mem_of_mem_take ((BO.sort_perm _).mem_iff.1 hp))
   have hsl : (BO.sort (plt ks) (mid.take t)).length = t := by rw [BO.sort_len, List.length_take]; omega
   rw [hd] at hsr
   generalize mid[t] = x at *
   generalize hrest : mid.drop (t + 1) = rest at *
   generalize BO.sort (plt ks) (mid.take t) = S at *
   generalize hS2 : BO.sort (plt ks) (mid.take (t + 1)) = S2 at *
   have HS2 := hideP hS2
   have HTk := hideP htk
   have HSo := hideP hso
   have HMm := hideP hmm
   have HRe := hideP hrest
   have HFx := hideP hfx
   have HSl := hideP hsl
   clear hd htk hso hmm hrest hS2 hfx hsl
   go_wp2_with fail
   go_loopw [9] (fun jv wr => ∃ (pre suf : List Pr) (Jn : Nat), jv = .int .i64 (Jn : Int) ∧ Jn = a + pre.length ∧ S = pre ++ suf ∧ (∀ y ∈ suf, plt ks x y = true) ∧ SR wr B G (P0 ++ pre ++ x :: suf ++ rest ++ Q0) ∧ w.grownBy wr (some G)) (fun jv _ => (intOf jv).toNat - a)
   case atStart => exact ⟨S, [], I, rfl, by rw [HSl.out, HI.out], by simp, by simp, by simpa using hsr, hgr⟩
   case round =>
    obtain ⟨pre, suf, Jn, rfl, hJn, hSp, hsuf, hsr2, hgr2⟩ := hrel
    rcases List.eq_nil_or_concat pre with rfl | ⟨pre', y, rfl⟩
    ·
     have HIn := hideP (show S2 = x :: suf from by
      rw [HTk.out, hSp]
      exact BO.ins_stop (plt_weak ks) (a := []) (by have := HSo.out; rw [hSp] at this; exact this) hsuf (fun y hy => by cases hy))
     have HSr := hideP (show SR wr B G (P0 ++ S2 ++ rest ++ Q0) from by rw [HIn.out]; simpa using hsr2)
     have HGr := hideP hgr2
     clear hsr2 hgr2 hSp hsuf
     simp only [List.length_nil, Nat.add_zero] at hJn
     rw [hJn]
     clear hJn
     have hFF : ((a : Int) < (a : Int)) = False := by simp
     have HSr := hideP HSr.out
     clear hlen hsr hgr
     go_upto_region 4 with fail
     go_region
     all_goals (
      have HSr9 := hideP (HSr.out.fr (Fr.drew (Fr.refl _)))
      have HGr9 := hideP (grown_then HGr.out (Fr.drew (Fr.refl _)))
      go_wp2_with fail
      go_roundw
      case rel => exact ⟨t + 1, I + 1, by go_num, by have := HI.out; omega, by omega, .inl (by omega), by rw [HS2.out, HRe.out]; exact HSr9.out, HGr9.out⟩
      case measure => simp [intOf]; omega)
    ·
     rw [List.concat_eq_append] at hSp hsr2 hJn
     obtain ⟨M, hM⟩ : ∃ M, a + pre'.length = M := ⟨_, rfl⟩
     have hMj : a + (pre' ++ [y]).length = M + 1 := by simp; omega
     rw [hMj] at hJn
     rw [hJn]
     clear hJn
     have hcut : P0 ++ (pre' ++ [y]) ++ x :: suf ++ rest ++ Q0 = (P0 ++ pre') ++ y :: x :: (suf ++ rest ++ Q0) := by simp
     rw [hcut] at hsr2
     have hMl : (P0 ++ pre').length = M := by have := HAa.out; simp; omega
     have hMn : M + 1 < n := by
      have h1 : S.length = t := HSl.out
      rw [hSp] at h1
      simp at h1
      omega
     have hFy := HMm.out y (by rw [hSp]; simp)
     have hcl := BG.cmpK_lt (Fit.two HFx.out hFy)
     have hcx : ∀ W, Fr wr W → W.cell? ⟨G, M + 1, none⟩ = some (.slice x.1.a x.1.n x.1.c) := fun W f => by
      have h := hsr2.fr f
      rw [show P0 ++ pre' ++ y :: x :: (suf ++ rest ++ Q0) = (P0 ++ pre' ++ [y]) ++ x :: (suf ++ rest ++ Q0) by simp] at h
      have h2 := h.cell
      rw [show (P0 ++ pre' ++ [y]).length = M + 1 by rw [List.length_append, hMl]; rfl] at h2
      exact h2
     have hcy : ∀ W, Fr wr W → W.cell? ⟨G, M, none⟩ = some (.slice y.1.a y.1.n y.1.c) := fun W f => by
      have h2 := (hsr2.fr f).cell
      rw [hMl] at h2
      exact h2
     have hox := hsr2.own x (by simp)
     have hoy := hsr2.own y (by simp)
     have HCx := hideP hcx
     have HCy := hideP hcy
     have HCm := hideP (fun W (f : Fr wr W) => compare_any (.slice ka kn kc) x.1.v y.1.v ks x.2 y.2 W (HKs.out W (grown_then hgr2 f)) (isL_own (own_fr hox f)) (isL_own (own_fr hoy f)) (fun k hk => ⟨(HFx.out.1 k hk).1, (HFx.out.1 k hk).2, (hFy.1 k hk).2⟩) hl)
     generalize BG.cmpK ks x.2 y.2 = cm at *
     obtain ⟨xq, hxq⟩ : ∃ q, q = x.1 := ⟨_, rfl⟩
     obtain ⟨yq, hyq⟩ : ∃ q, q = y.1 := ⟨_, rfl⟩
     rw [← hxq] at HCx HCm
     rw [← hyq] at HCy HCm
     have hMa : (a : Int) < (M : Int) + 1 := by omega
     have hM1 : IntKind.i64.wrap ((M : Int) + 1 - 1) = (M : Int) := by rw [IntKind.wrap_i64]; omega
     have hM2 : (M : Int) + 1 < (n : Int) := by omega
     have hM4 : ¬ ((M : Int) + 1 < 0) := by omega
     have hM5 : IntKind.i64.wrap (M : Int) = (M : Int) := by rw [IntKind.wrap_i64]; omega
     have hM3 : (M : Int) < (n : Int) := by omega
     have HSr := hideP hsr2
     have HGr := hideP hgr2
     have HSp := hideP hSp
     have HSu := hideP hsuf
     have HCl := hideP hcl
     have HMl := hideP hMl
     clear hsr2 hgr2 hcx hcy hox hoy hSp hsuf hcl hFy hcut hMj
     have hM6 : (0 : Int) ≤ (M : Int) + 1 := by omega
     have hM7 : (((M : Int) + 1) < 0) = False := by simp; omega
     have hz : Fr wr wr.drew := Fr.drew (Fr.refl wr)
     have HS := hideP (show wr.cell? ⟨G, M + 1, none⟩ = some (.slice xq.a xq.n xq.c) ∧ wr.cell? ⟨G, M, none⟩ = some (.slice yq.a yq.n yq.c) by subst hxq hyq; exact ⟨HCx.out wr (Fr.refl _), HCy.out wr (Fr.refl _)⟩)
     have HM9 := hideP hM
     have HT2 := hideP ht2
     have HBn := hideP hbN
     have HXq := hideP hxq
     have HYq := hideP hyq
     clear hsr hgr hM ht2 hbN hlen hMl hxq hyq
     go_upto_region 4 with fail
     go_region_held3 (fun W => W.cell? ⟨G, M + 1, none⟩ = some (.slice xq.a xq.n xq.c) ∧ W.cell? ⟨G, M, none⟩ = some (.slice yq.a yq.n yq.c)) (first | exact HS.out | exact c2_after hz HS.out | exact c2_after hf9 HS.out) (first
      | (go_at_call 29; refine (HCm.out _ hz).mono ?_; rintro _ w3 ⟨rfl, f3⟩; have hf9 := hz.trans f3; clear f3))
     all_goals (
      have HSr9 := hideP (HSr.out.fr hf9)
      have HGr9 := hideP (grown_then HGr.out hf9)
      have cx := HCx.out w3 hf9
      have cy := HCy.out w3 hf9
      have hxq := HXq.out
      have hyq := HYq.out
      subst hxq hyq
      by_cases hcm : cm < 0
      ·
       have hb : decide (cm < 0) = true := decide_eq_true hcm
       have zx := HSr9.out.b.frozen (M + 1)
       have zy := HSr9.out.b.frozen M
       have ey : ((P0 ++ pre' ++ y :: x :: (suf ++ rest ++ Q0)).map prV).toArray[M]? = some (.slice y.1.a y.1.n y.1.c) := by
        have h9 := HMl.out
        rw [← h9]
        simp [prV]
       have hb2 := HSr9.out.b.set (M + 1) (.slice y.1.a y.1.n y.1.c)
       have cy2 := hb2.cell M (u := .slice y.1.a y.1.n y.1.c) (by rw [Array.getElem?_setIfInBounds_ne (by omega)]; exact ey)
       have zy2 := hb2.frozen M
       have hsw := HSr9.out.swap
       rw [HMl.out] at hsw
       have HSw := hideP (hsw.fr (Fr.drew (Fr.refl _)))
       have HGw := hideP (grown_then (grown_set (grown_set HGr9.out (M + 1) (.slice y.1.a y.1.n y.1.c)) M (.slice x.1.a x.1.n x.1.c)) (Fr.drew (Fr.refl _)))
       have hpl : plt ks x y = true := HCl.out.1 hcm
       have HPl := hideP hpl
       have HMe := hideP HM9.out
       clear ey hb2 hsw hpl HSr9 HGr9 HSr HGr HCx HCy HCm hcm hf9 hz HS HXq HYq
       rw [hb]
       clear hb
       go_wp2_with fail
       go_region
       go_wp2_with fail
       go_roundw
       case rel => exact ⟨pre', y :: suf, M, by go_num, HMe.out.symm, by rw [HSp.out]; simp, fun z hz => by
        rcases List.mem_cons.1 hz with rfl | hz
        · exact HPl.out
        · exact HSu.out z hz, by have h9 := HSw.out; simpa using h9, HGw.out⟩
       case measure => simp [intOf]; have := HMe.out; omega
      ·
       have hb : decide (cm < 0) = false := decide_eq_false hcm
       have hpl : plt ks x y = false := by
        cases hq : plt ks x y with
        | false => rfl
        | true => exact absurd (HCl.out.2 hq) hcm
       have HIn := hideP (show S2 = pre' ++ [y] ++ x :: suf from by
        rw [HTk.out, HSp.out]
        refine BO.ins_stop (plt_weak ks) (by have := HSo.out; rw [HSp.out] at this; exact this) HSu.out (fun z hz => ?_)
        rw [List.getLast?_concat] at hz
        cases hz
        exact hpl)
       have HSr8 := hideP (show SR w3 B G (P0 ++ S2 ++ rest ++ Q0) from by rw [HIn.out]; simpa using HSr9.out)
       clear hpl HSr9 HSr HCx HCy HCm hcm hf9 hz HS cx cy
       rw [hb]
       clear hb
       go_wp2_with fail
       go_roundw
       case rel => exact ⟨t + 1, I + 1, by go_num, by have := HI.out; omega, by omega, by have := HT2.out; omega, by rw [HS2.out, HRe.out]; exact HSr8.out, HGr9.out⟩
       case measure => have := HBn.out; simp [intOf]; omega)
end Go.Proofs.YtbcfdhimngoplaaGreatDoor
namespace Go.Proofs.YtbcfdhimngoplaaGreatDoor
open Go.ChangeShapes Go.WideShapes Go.ChangeAt Go.RowKit
set_option linter.unusedVariables false
set_option linter.unusedSimpArgs false
set_option maxRecDepth 100000
set_option maxHeartbeats 2000000
theorem grown_trans {w w1 w2 : World} {r : Option Nat} (h : w.grownBy w1 r) (g : w1.grownBy w2 r) : w.grownBy w2 r :=
 ⟨g.os.trans h.os, g.tape.trans h.tape, g.output.trans h.output, Nat.le_trans h.size g.size, fun k hk hne => (g.block k (Nat.lt_of_lt_of_le hk h.size) hne).trans (h.block k hk hne)⟩
theorem stable_short (kv : Value) (ks : List BG.Ky) (B G : Nat) (ps : List Pr) (w : World) (h : SR w B G ps) (hk : ∀ w', w.grownBy w' (some G) → IsL cdY w' kv ks) (hf : ∀ p ∈ ps, Fit ks p.2) (hl : ks.length ≤ 1000) (n : Nat) (hn : n = ps.length) (hn1 : n < 20) :
  Calls Tryz.prog 59 #[.slice (some ⟨G, 0, none⟩) n n, .int .i64 (n : Int), .func (.func 29) #[kv] #[]] w fun e w' => e = .returned (.tuple #[]) ∧ SR w' B G (BO.sort (plt ks) ps) ∧ w.grownBy w' (some G) := by
 have HI := hideP (fun W (g : w.grownBy W (some G)) (hs : SR W B G ps) => insSort_any kv ks B G [] ps [] W (by simpa using hs) (fun w' g' => hk w' (grown_trans g g')) hf hl n (by simpa using hn) (by omega))
 obtain ⟨ka, kn, kc, rfl⟩ : ∃ a n c, kv = .slice a n c := by obtain ⟨a, c, h, _⟩ := hk w (grown_same w _); exact ⟨a, _, c, h⟩
 have H0 := hideP h
 simp only [List.length_nil, Nat.zero_add, List.nil_append, List.append_nil] at HI
 rw [← hn] at HI
 clear hk hf h hn
 go_enter Tryz.func59, Tryz.ntmps59
 go_wp2_with fail
 go_loopw [7, 8] (fun av bv wr => av = .int .i64 0 ∧ bv = .int .i64 20 ∧ wr = w) (fun _ _ _ => 0)
 case atStart => exact ⟨rfl, rfl, rfl⟩
 case round =>
  obtain ⟨rfl, rfl, rfl⟩ := hrel
  have h1 : ¬ ((20 : Int) ≤ (n : Int)) := by omega
  have h2 : (n : Int) < 20 := by omega
  have ci := HI.out wr (grown_same _ _) H0.out
  rw [show ((0 : Nat) : Int) = 0 from rfl] at ci
  go_wp2_with fail
  refine ci.mono ?_
  rintro _ w1 ⟨rfl, hs1, hg1⟩
  have HS1 := hideP hs1
  have HG1 := hideP hg1
  clear hs1 hg1 ci
  go_wp2_with fail
  obtain ⟨w0, rfl⟩ : ∃ x, x = wr := ⟨_, rfl⟩
  go_loopw [6, 7, 8, 9] (fun sv _ _ _ W => sv = .int .i64 20 ∧ W = w1) (fun _ _ _ _ _ => 0)
  case atStart => exact ⟨rfl, rfl⟩
  case round =>
   obtain ⟨rfl, rfl⟩ := hrel
   have h3 : ¬ ((20 : Int) < (n : Int)) := by omega
   go_wp2_with fail
   go_end0
   exact ⟨by first | rfl | trivial, HS1.out, HG1.out⟩
theorem sortStable_short (kv : Value) (ks : List BG.Ky) (B G : Nat) (ps : List Pr) (w : World) (h : SR w B G ps) (hk : ∀ w', w.grownBy w' (some G) → IsL cdY w' kv ks) (hf : ∀ p ∈ ps, Fit ks p.2) (hl : ks.length ≤ 1000) (n : Nat) (hn : n = ps.length) (hn1 : n < 20) :
  Calls Tryz.prog 28 #[.slice (some ⟨G, 0, none⟩) n n, .func (.func 29) #[kv] #[]] w fun e w' => e = .returned (.tuple #[]) ∧ SR w' B G (BO.sort (plt ks) ps) ∧ w.grownBy w' (some G) := by
 have HI := hideP (stable_short kv ks B G ps w h hk hf hl n hn hn1)
 obtain ⟨ka, kn, kc, rfl⟩ : ∃ a n c, kv = .slice a n c := by obtain ⟨a, c, h, _⟩ := hk w (grown_same w _); exact ⟨a, _, c, h⟩
 clear hk hf h hn
 go_enter Tryz.func28, Tryz.ntmps28
 go_wp2_with fail
 refine HI.out.mono ?_
 rintro _ w1 ⟨rfl, hs1, hg1⟩
 have HS1 := hideP hs1
 have HG1 := hideP hg1
 clear hs1 hg1 HI
 go_wp2_with fail
 go_end0
 exact ⟨by first | rfl | trivial, HS1.out, HG1.out⟩
namespace BG
def hasC (ls : List (List VM.Vl)) (col : Int) : Bool := decide (ls.length = 0) || (decide (0 ≤ col) && decide (col < (wd ls : Int)))
def srt (ls : List (List VM.Vl)) (ks : List Ky) : Except Nat (List (List VM.Vl)) := if chk ls ≠ 0 then .error (chk ls) else if 8 < ks.length then .error 2 else if ks.all (fun k => hasC ls k.col) = false then .error 3 else .ok (BO.sort (klt ks) ls)
end BG
theorem hasColumn_any (v : Value) (ls : List (List VM.Vl)) (col : Int) (w : World) (h : IsRR w v ls) (hL : ls.length ≤ 9223372036854775806) : Calls Tryz.prog 26 #[v, .int .i64 col] w fun e w' => e = .returned (.bool (BG.hasC ls col)) ∧ Fr w w' := by
 have HW := hideP (fun W (f : Fr w W) => width_any v ls W (h.fr f))
 have HK : Hid (BG.hasC ls col = (decide (ls.length = 0) || (decide (0 ≤ col) && decide (col < (BG.wd ls : Int))))) := rfl
 obtain ⟨a, c, rfl⟩ := h.slice
 clear h
 generalize BG.hasC ls col = R at *
 generalize BG.wd ls = wd at *
 generalize ls.length = n at *
 by_cases h0 : n = 0
 ·
  subst h0
  have HR := hideP (show R = true by rw [HK.out]; simp)
  go_enter Tryz.func26, Tryz.ntmps26
  go_wp2_with fail
  go_ret
  exact ⟨by rw [HR.out]; rfl, Fr.refl _⟩
 ·
  have q0 : ((n : Int) == 0) = false := beq_false_of_ne (by omega)
  have q1 : ¬ ((n : Int) = 0) := by omega
  by_cases h1 : 0 ≤ col
  ·
   have HR := hideP (show R = decide (col < (wd : Int)) by rw [HK.out]; simp [h0, h1])
   go_enter Tryz.func26, Tryz.ntmps26
   go_wp2_with fail
   refine (HW.out _ (Fr.refl _)).mono ?_
   rintro _ w1 ⟨rfl, rfl⟩
   go_wp2_with fail
   go_ret
   exact ⟨by rw [HR.out]; rfl, Fr.refl _⟩
  ·
   have HR := hideP (show R = false by rw [HK.out]; simp [h0, h1])
   have h1' : ¬ (col ≥ 0) := by omega
   go_enter Tryz.func26, Tryz.ntmps26
   go_wp2_with fail
   go_ret
   exact ⟨by rw [HR.out]; rfl, Fr.refl _⟩
theorem OwnRR.sr {B : Nat} {w : World} {v : Value} {ls : List (List VM.Vl)} (h : OwnRR B w v ls) : ∃ (G : Nat) (ps : List Pr), v = .slice (some ⟨G, 0, none⟩) ls.length ls.length ∧ ps.map (·.2) = ls ∧ SR w B G ps ∧ B ≤ G := by
 obtain ⟨G, arr, qs, rfl, hG, hb, ⟨hq, hs⟩, hc, ho⟩ := h
 have hz : (qs.zip ls).map (·.2) = ls := by rw [List.map_snd_zip]; omega
 have e : ((qs.zip ls).map prV).toArray = arr := by
  apply Array.ext
  · simp [hq, hs]
  ·
   intro j h1 h2
   have h3 : j < qs.length := by omega
   have h4 := hc j h3
   rw [Array.getElem?_eq_getElem h2] at h4
   injection h4 with h4
   rw [h4]
   simp [prV]
 refine ⟨G, qs.zip ls, rfl, hz, ⟨by rw [e]; exact hb, fun p hp => ?_⟩, hG⟩
 obtain ⟨j, hj, rfl⟩ := List.getElem_of_mem hp
 have hj1 : j < qs.length := by simp at hj; omega
 have hj2 : j < ls.length := by omega
 have := ho j hj1 hj2
 simpa using this
theorem SR.orr {B G : Nat} {w : World} {ps : List Pr} (h : SR w B G ps) (hB : B ≤ G) (hl : ps.length ≤ maxLen) : ORR B w (.slice (some ⟨G, 0, none⟩) ps.length ps.length) (ps.map (·.2)) := by
 have := OwnRR.orr (B := B) (w := w) (v := .slice (some ⟨G, 0, none⟩) ps.length ps.length) (ls := ps.map (·.2)) ⟨G, _, ps.map (·.1), by simp, hB, h.b, ⟨by simp, by simp⟩, fun j hj => by
  have hj' : j < ps.length := by simpa using hj
  simp [prV, hj'], fun j h1 h2 => by
  have hj' : j < ps.length := by simpa using h1
  have := h.own ps[j] (List.getElem_mem hj')
  simpa using this⟩ (by simpa using hl)
 simpa using this
end Go.Proofs.YtbcfdhimngoplaaGreatDoor
namespace Go.Proofs.YtbcfdhimngoplaaGreatDoor
open Go.ChangeShapes Go.WideShapes Go.ChangeAt Go.RowKit
set_option linter.unusedVariables false
set_option linter.unusedSimpArgs false
set_option maxRecDepth 100000
set_option maxHeartbeats 2000000
theorem BG.all_drop {p : BG.Ky → Bool} {ks : List BG.Ky} {i : Nat} (hi : i < ks.length) : (ks.drop i).all p = (p ks[i] && (ks.drop (i + 1)).all p) := by
 rw [List.drop_eq_getElem_cons hi, List.all_cons]
theorem isY_keep {w w2 w' : World} {G : Nat} {v : Value} {ks : List BG.Ky} (h : IsL cdY w v ks) (f : Fr w w2) (hG : w.heap.size ≤ G) (g : w2.grownBy w' (some G)) : IsL cdY w' v ks := by
 obtain ⟨a, cap, rfl, hc, h0 | ⟨b, o, rfl, hb, hh⟩⟩ := h
 · exact ⟨a, cap, rfl, hc, .inl h0⟩
 ·
  have hb2 : b < w2.heap.size := Nat.lt_of_lt_of_le hb f.size
  have hk : w'.heap[b]? = w.heap[b]? := (g.block b hb2 (fun e => by injection e with e; omega)).trans (f.block b hb)
  refine ⟨_, cap, rfl, hc, .inr ⟨b, o, rfl, Nat.lt_of_lt_of_le hb2 g.size, ?_⟩⟩
  intro j u hu
  exact (World.cell?_of_block hk).trans (hh j u hu)
theorem sort_short (v kv : Value) (ls : List (List VM.Vl)) (ks : List BG.Ky) (w : World) (h : IsRR w v ls) (hk : IsL cdY w kv ks) (hL : ls.length < 20) (hR : ∀ r ∈ ls, r.length ≤ 9223372036854775806) (hK : ks.length ≤ 9223372036854775806) :
  Calls Tryz.prog 10 #[v, kv] w fun r w' => RA w.heap.size (BG.srt ls ks) r w' ∧ Fr w w' := by
 have HK : Hid (BG.srt ls ks = if BG.chk ls ≠ 0 then .error (BG.chk ls) else if 8 < ks.length then .error 2 else if ks.all (fun k => BG.hasC ls k.col) = false then .error 3 else .ok (BO.sort (BG.klt ks) ls)) := rfl
 have HCk := hideP (bagCheck_any v ls w h (by omega) hR)
 have HHc := hideP (fun col W (f : Fr w W) => hasColumn_any v ls col W (h.fr f) (by omega))
 have HRl := hideP (fun (h0 : BG.chk ls = 0) => BG.chk_all h0)
 have HCp := hideP (fun (h0 : BG.chk ls = 0) W (f : Fr w W) => copied_any v ls W (h.fr f) (by omega) (fun r hr => by have := ((BG.chk_all h0).2 r hr).1; omega))
 obtain ⟨a, c, rfl⟩ := h.slice
 have HY := hideP hk
 obtain ⟨ka, kc, rfl, hkc, hks⟩ := hk
 have HKs := hideP hks
 clear h hR hks
 generalize BG.srt ls ks = R at *
 by_cases h0 : BG.chk ls = 0
 case neg =>
  replace HK := hideP (HK.out.trans (if_pos h0))
  generalize BG.chk ls = z at *
  have e1 : ((z : Int) != 0) = true := by simp; omega
  have e2 : ¬ ((z : Int) = 0) := by omega
  go_enter Tryz.func10, Tryz.ntmps10
  go_wp2_with fail
  refine HCk.out.mono ?_
  rintro _ w1 ⟨rfl, f1⟩
  have F1 := hideP f1
  clear f1 HCk
  go_wp2_with fail
  go_ret2
  exact ⟨by rw [HK.out]; rfl, F1.out⟩
 replace HK := hideP (HK.out.trans (if_neg (by simpa using h0)))
 have HAl := hideP (HRl.out h0).2
 replace HCp := hideP (HCp.out h0)
 rw [h0] at HCk
 clear HRl h0
 by_cases h8 : 8 < ks.length
 ·
  replace HK := hideP (HK.out.trans (if_pos h8))
  have h8' : (8 : Int) < (ks.length : Int) := by omega
  go_enter Tryz.func10, Tryz.ntmps10
  go_wp2_with fail
  refine HCk.out.mono ?_
  rintro _ w1 ⟨rfl, f1⟩
  have F1 := hideP f1
  clear f1 HCk
  go_wp2_with fail
  go_ret2
  exact ⟨by rw [HK.out]; rfl, F1.out⟩
 replace HK := hideP (HK.out.trans (if_neg h8))
 have h8' : ¬ (8 : Int) < (ks.length : Int) := by omega
 have h8n : ks.length ≤ 8 := by omega
 clear h8
 go_enter Tryz.func10, Tryz.ntmps10
 go_wp2_with fail
 refine HCk.out.mono ?_
 rintro _ w1 ⟨rfl, f1⟩
 have F1 := hideP f1
 clear f1 HCk
 go_wp2_with fail
 clear h8'
 go_loopw [8, 20] (fun _ iv wr => ∃ i : Nat, iv = .int .i64 i ∧ i ≤ ks.length ∧ ks.all (fun k => BG.hasC ls k.col) = (ks.drop i).all (fun k => BG.hasC ls k.col) ∧ Fr w wr) (fun _ iv _ => ks.length - (intOf iv).toNat)
 case atStart => exact ⟨0, rfl, Nat.zero_le _, rfl, F1.out⟩
 case round =>
  obtain ⟨i, rfl, hi, hal, hfr⟩ := hrel
  by_cases hlt : i < ks.length
  ·
   have hlt' : (i : Int) < (ks.length : Int) := by omega
   obtain ⟨bk, ok, rfl, hbk, hkat⟩ : ∃ b o, ka = some ⟨b, o, none⟩ ∧ b < w.heap.size ∧ At cdY w b o ks := by
    rcases HKs.out with h | h
    · rw [h] at hlt; simp at hlt
    · exact h
   obtain ⟨c0, c1⟩ := (hkat.fr hbk hfr).y2 i hlt
   rw [BG.all_drop hlt] at hal
   generalize ks[i] = y at *
   obtain ⟨col, ds⟩ := y
   simp only at c0 c1 hal
   have FA := hideP (hfr.alloc (.cells #[.int .i64 col, .bool ds] 46))
   have ch := HHc.out col _ FA.out
   have HAi := hideP hal
   generalize BG.hasC ls col = hc at *
   clear hal hfr hkat
   cases hc with
   | true =>
    go_wp2_with fail
    refine ch.mono ?_
    rintro _ w2 ⟨rfl, f2⟩
    have F2 := hideP (FA.out.trans f2)
    clear f2
    go_wp2_with fail
    go_roundw
    case rel => exact ⟨i + 1, by go_num, by omega, HAi.out.trans (by simp), F2.out⟩
    case measure => simp [intOf]; omega
   | false =>
    have HZ := hideP (HK.out.trans (if_pos (HAi.out.trans (by simp))))
    go_wp2_with fail
    refine ch.mono ?_
    rintro _ w2 ⟨rfl, f2⟩
    have F2 := hideP (FA.out.trans f2)
    clear f2
    go_wp2_with fail
    go_ret2
    exact ⟨by rw [HZ.out]; rfl, F2.out⟩
  ·
   obtain rfl : i = ks.length := by omega
   have hT : ks.all (fun k => BG.hasC ls k.col) = true := by rw [hal, List.drop_length]; rfl
   replace HK := hideP (HK.out.trans (if_neg (by rw [hT]; decide)))
   have cc := HCp.out wr hfr
   have HF := hideP hfr
   have HTt := hideP hT
   clear hal hfr hT
   go_wp2_with fail
   refine cc.mono ?_
   rintro _ w2 ⟨⟨u, rfl, hO⟩, f2⟩
   obtain ⟨G, ps, rfl, hps, hsr, hG⟩ := hO.sr
   have F2 := hideP (HF.out.trans f2)
   have hpl : ls.length = ps.length := by rw [← hps, List.length_map]
   have hGw : w.heap.size ≤ G := Nat.le_trans HF.out.size hG
   have hfit : ∀ p ∈ ps, Fit ks p.2 := fun p hp => by
    have hm : p.2 ∈ ls := by rw [← hps]; exact List.mem_map_of_mem hp
    obtain ⟨h8r, hca, hwd⟩ := HAl.out _ hm
    refine ⟨fun k hk => ?_, hca⟩
    have h1 := List.all_eq_true.1 HTt.out k hk
    unfold BG.hasC at h1
    have hne : ¬ ls.length = 0 := by intro e; rw [List.length_eq_zero_iff.1 e] at hm; cases hm
    simp only [hne, decide_false, Bool.false_or, Bool.and_eq_true, decide_eq_true_eq] at h1
    rw [hwd]
    exact h1
   have cs := sortStable_short (.slice ka ks.length kc) ks wr.heap.size G ps w2 hsr (fun w' g => isY_keep HY.out F2.out hGw g) hfit (by omega) ls.length hpl (by omega)
   have HPl := hideP hpl
   have HPs := hideP hps
   clear hpl hps hsr hfit hO f2 cc
   go_wp2_with fail
   refine cs.mono ?_
   rintro _ w3 ⟨rfl, hs3, hg3⟩
   have hsl : (BO.sort (plt ks) ps).length = ls.length := by rw [BO.sort_len, HPl.out]
   have hmp : (BO.sort (plt ks) ps).map (·.2) = BO.sort (BG.klt ks) ls := by
    have := BO.map_sort (lt := BG.klt ks) (fun p : Pr => p.2) ps
    rw [HPs.out] at this
    exact this
   have hor := hs3.orr hG (by rw [hsl]; unfold maxLen; omega)
   rw [hsl, hmp] at hor
   have HO3 := hideP (hor.low HF.out.size)
   have F3 := hideP (show Fr w w3 from Below.grown F2.out hg3 F2.out.size (fun k hk => by injection hk with hk; omega))
   clear hs3 hg3 hor hsl hmp
   go_wp2_with fail
   go_ret2
   exact ⟨by rw [HK.out]; exact ⟨_, rfl, HO3.out⟩, F3.out⟩
end Go.Proofs.YtbcfdhimngoplaaGreatDoor
namespace Go.Proofs.YtbcfdhimngoplaaGreatDoor
open Go.ChangeShapes Go.WideShapes Go.ChangeAt Go.RowKit
set_option linter.unusedVariables false
set_option linter.unusedSimpArgs false
set_option maxRecDepth 100000
set_option maxHeartbeats 2000000
theorem At.zz {w : World} {b o : Nat} {l : List Int} (h : At cdZ w b o l) (i : Nat) (hi : i < l.length) : w.cell? ⟨b, o + i, none⟩ = some (.int .i64 l[i]) :=
 h i _ (by have := flat_get cdZ l i 0 hi (by decide); simpa [cdZ] using this)
namespace BG
open VM
def pck (r : List Vl) (by_ : List Int) : List Vl := by_.map fun c => r.getD c.toNat nulV
def vls (ls : List (List Vl)) (col : Nat) : List Vl := (ls.map fun r => r.getD col nulV).filter fun x => decide (x.k ≠ 0)
def far (side : Int) (x : Vl) (l : List Vl) : Vl := l.foldl (fun f v => if CM.cmp v f = side then v else f) x
end BG
theorem bnumber_any (n : Int) (w : World) : Calls Tryz.prog 70 #[.int .i64 n] w fun e w' => e = .returned (.agg #[.int .i64 1, .int .i64 n, .string ⟨#[]⟩]) ∧ Fr w w' := by
 go_enter Tryz.func70, Tryz.ntmps70
 go_wp2_with fail
 exact bodyPost_ret (v := .agg #[.int .i64 1, .int .i64 n, .string ⟨#[]⟩]) (by simp [results, Tryz.results70, go_sem]) rfl ⟨rfl, (Fr.refl w).alloc _⟩
theorem picked_any (v u : Value) (r : List VM.Vl) (cs : List Int) (w : World) (hr : IsL cdV w v r) (hc : IsL cdZ w u cs) (hin : ∀ c ∈ cs, 0 ≤ c ∧ c < (r.length : Int)) (hl : cs.length ≤ 1000) :
  Calls Tryz.prog 69 #[v, u] w fun e w' => ∃ x, e = .returned x ∧ w'.ownsRow w.heap.size 56 3 x cs.length (flat cdV (BG.pck r cs)) ∧ Fr w w' := by
 obtain ⟨j0, hj0, jz0, jz1, jz2⟩ := info_parts Tryz.infoV9
 obtain ⟨ra, rc, rfl, hrc, hrs⟩ := hr
 obtain ⟨ca, cc, rfl, hcc, hcs⟩ := hc
 have HRs := hideP hrs
 have HCs := hideP hcs
 have HIn := hideP hin
 clear hrs hcs hin
 go_enter Tryz.func69, Tryz.ntmps69
 go_wp2_with fail
 go_loopw [5, 7, 10] (fun kv _ iv wr => ∃ i : Nat, iv = .int .i64 i ∧ i ≤ cs.length ∧ wr.ownsRow w.heap.size 56 3 kv i (flat cdV (BG.pck r (cs.take i))) ∧ Fr w wr) (fun _ _ iv _ => cs.length - (intOf iv).toNat)
 case atStart => exact ⟨0, rfl, Nat.zero_le _, World.ownsRow_nil _ _ _ _, Fr.refl _⟩
 case round =>
  obtain ⟨i, rfl, hi, hown, hfr⟩ := hrel
  obtain ⟨fa, fc, rfl⟩ := own_slice hown
  by_cases hlt : i < cs.length
  ·
   have hlt' : (i : Int) < (cs.length : Int) := by omega
   obtain ⟨b, o, rfl, hb, hat⟩ : ∃ b o, ca = some ⟨b, o, none⟩ ∧ b < w.heap.size ∧ At cdZ w b o cs := by
    rcases HCs.out with h | h
    · rw [h] at hlt; simp at hlt
    · exact h
   have c0 := (hat.fr hb hfr).zz i hlt
   have hci := HIn.out cs[i] (List.getElem_mem hlt)
   have hst : BG.pck r (cs.take (i + 1)) = BG.pck r (cs.take i) ++ [r.getD cs[i].toNat BG.nulV] := by
    unfold BG.pck
    rw [List.take_succ_eq_append_getElem hlt, List.map_append]
    rfl
   generalize cs[i] = col at *
   obtain ⟨C, rfl⟩ : ∃ C : Nat, col = (C : Int) := ⟨col.toNat, by omega⟩
   have hCr : C < r.length := by omega
   obtain ⟨rb, ro, rfl, hrb, hrat⟩ : ∃ b o, ra = some ⟨b, o, none⟩ ∧ b < w.heap.size ∧ At cdV w b o r := by
    rcases HRs.out with h | h
    · rw [h] at hCr; simp at hCr
    · exact h
   obtain ⟨d0, d1, d2⟩ := (hrat.fr hrb hfr).v3 C hCr
   have hgd : r.getD ((C : Int)).toNat BG.nulV = r[C] := by rw [Int.toNat_natCast, List.getD_eq_getElem?_getD, List.getElem?_eq_getElem hCr]; rfl
   rw [hgd] at hst
   generalize r[C] = y at *
   obtain ⟨yk, yn, ys⟩ := y
   simp only at d0 d1 d2
   have hC' : (C : Int) < (r.length : Int) := by omega
   have HSt := hideP hst
   have HO := hideP (own_fr hown ((Fr.refl wr).alloc (.cells #[.int .i64 yk, .int .i64 yn, .string ys] 56)))
   have HF := hideP hfr
   have HLit := hideP (lit_one cdV wr ⟨yk, yn, ys⟩ 56)
   have hsz := hfr.size
   clear hst hown hfr hat hrat hgd hci
   go_wp2_with (at_builtin; refine wpList_append_L cdV rfl _ _ 31 56 j0 _ 32 rfl Tryz.underlying31 hj0 jz0 jz1 jz2 rfl w.heap.size _ i _ rfl HO.out (.slice (some ⟨wr.heap.size, 0, none⟩) 1 1) [⟨yk, yn, ys⟩] rfl HLit.out ?c3 ?c4 ?c5 ?_)
   case c3 => unfold maxLen; simp <;> omega
   case c4 => simp <;> omega
   case c5 => simp <;> omega
   intro v2 wB own2 gr2
   have HN2 := hideP own2
   have FB := hideP (show Fr w wB from Below.grown (HF.out.alloc _) gr2 (by simp <;> omega) (own_base HO.out))
   clear own2 gr2
   go_wp2_with fail
   go_roundw
   case rel => exact ⟨i + 1, by go_num, by omega, by rw [HSt.out]; exact HN2.out, FB.out⟩
   case measure => simp [intOf]; omega
  ·
   obtain rfl : i = cs.length := by omega
   rw [List.take_length] at hown
   have HO := hideP hown
   have HF := hideP hfr
   clear hown hfr
   go_wp2_with fail
   go_ret
   exact ⟨_, rfl, HO.out, HF.out⟩
theorem BG.vls_step (ls : List (List VM.Vl)) (col i : Nat) (h : i < ls.length) : BG.vls (ls.take (i + 1)) col = BG.vls (ls.take i) col ++ (if (ls[i].getD col BG.nulV).k = 0 then [] else [ls[i].getD col BG.nulV]) := by
 unfold BG.vls
 rw [List.take_succ_eq_append_getElem h, List.map_append, List.filter_append]
 congr 1
 simp only [List.map_cons, List.map_nil]
 generalize ls[i].getD col BG.nulV = y
 by_cases h0 : y.k = 0
 · rw [if_pos h0]; simp [h0]
 · rw [if_neg h0]; simp [h0]
theorem BG.vls_len (ls : List (List VM.Vl)) (col i : Nat) : (BG.vls (ls.take i) col).length ≤ i := by
 unfold BG.vls
 refine Nat.le_trans (List.length_filter_le _ _) ?_
 rw [List.length_map]
 exact List.length_take_le _ _
theorem gvalues_any (sv rv : Value) (ls : List (List VM.Vl)) (C : Nat) (w : World) (hs : ∃ a n c, sv = .slice a n c) (hr : IsRR w rv ls) (hin : ∀ r ∈ ls, C < r.length) (hl : ls.length ≤ 1000) (hL : ∀ r ∈ ls, r.length ≤ 1000) :
  Calls Tryz.prog 71 #[.agg #[sv, rv], .int .i64 (C : Int)] w fun e w' => ∃ x, e = .returned x ∧ w'.ownsRow w.heap.size 56 3 x (BG.vls ls C).length (flat cdV (BG.vls ls C)) ∧ Fr w w' := by
 obtain ⟨j0, hj0, jz0, jz1, jz2⟩ := info_parts Tryz.infoV9
 obtain ⟨sa, sn, sc, rfl⟩ := hs
 obtain ⟨a, c, rfl⟩ := hr.slice
 obtain ⟨qs, hq, _, hc, hcell, hrow⟩ := hr.at
 have HCe := hideP hcell
 have HRo := hideP hrow
 have HIn := hideP hin
 have HLl := hideP hL
 clear hcell hrow hr hin hL
 have F0 := hideP ((Fr.refl w).alloc (.cells #[.slice sa sn sc, .slice a ls.length c] 88))
 go_enter Tryz.func71, Tryz.ntmps71
 go_wp2_with fail
 go_loopw [5, 7, 11] (fun kv _ iv wr => ∃ i : Nat, iv = .int .i64 i ∧ i ≤ ls.length ∧ wr.ownsRow w.heap.size 56 3 kv (BG.vls (ls.take i) C).length (flat cdV (BG.vls (ls.take i) C)) ∧ Fr w wr) (fun _ _ iv _ => ls.length - (intOf iv).toNat)
 case atStart => exact ⟨0, rfl, Nat.zero_le _, World.ownsRow_nil _ _ _ _, F0.out⟩
 case round =>
  obtain ⟨i, rfl, hi, hown, hfr⟩ := hrel
  obtain ⟨fa, fc, rfl⟩ := own_slice hown
  by_cases hlt : i < ls.length
  ·
   have hlt' : (i : Int) < (ls.length : Int) := by omega
   obtain ⟨b, o, rfl, hbb, c0⟩ := HCe.out i (by omega)
   obtain ⟨h1, h2⟩ := HRo.out i (by omega) hlt
   have d0 := (Below.cell hfr (World.block_lt_of_cell? _ _ c0)).trans c0
   have hst := BG.vls_step ls C i hlt
   have hvl := BG.vls_len ls C i
   have hCr := HIn.out ls[i] (List.getElem_mem hlt)
   generalize ls[i] = r at *
   obtain ⟨q, hqq⟩ : ∃ q, (qs[i]'(by omega)) = q := ⟨_, rfl⟩
   rw [hqq] at h1 h2 d0
   obtain ⟨qa, qn, qc⟩ := q
   simp only [Sq.v] at h1 h2 d0
   obtain ⟨ra, rc, er, _, hrs⟩ := h1
   simp only [Value.slice.injEq] at er
   obtain ⟨rfl, rfl, rfl⟩ := er
   obtain ⟨rb, ro, rfl, hrb, hrat⟩ : ∃ b o, qa = some ⟨b, o, none⟩ ∧ b < w.heap.size ∧ At cdV w b o r := by
    rcases hrs with h | h
    · rw [h] at hCr; simp at hCr
    · exact h
   obtain ⟨e0, e1, e2⟩ := (hrat.fr hrb hfr).v3 C hCr
   have hgd : r.getD C BG.nulV = r[C] := by rw [List.getD_eq_getElem?_getD, List.getElem?_eq_getElem hCr]; rfl
   rw [hgd] at hst
   generalize r[C] = y at *
   obtain ⟨yk, yn, ys⟩ := y
   simp only at e0 e1 e2 hst
   have hC' : (C : Int) < (r.length : Int) := by omega
   generalize BG.vls (ls.take i) C = vs at *
   generalize hvs' : BG.vls (ls.take (i + 1)) C = vs' at *
   have HSt := hideP hst
   have HVs := hideP hvs'
   have HF := hideP hfr
   have HO0 := hideP hown
   have hsz := hfr.size
   generalize r.length = rl at *
   obtain ⟨m, hm⟩ : ∃ m, vs.length = m := ⟨_, rfl⟩
   rw [hm] at HO0 hvl ⊢
   have HMm := hideP hm
   clear hst hown hfr hrat hgd c0 hqq hvs' hm hrs
   by_cases hk : yk = 0
   ·
    have HS2 := hideP (HSt.out.trans (by rw [if_pos hk, List.append_nil]))
    have k1 : (yk != 0) = false := by simp [hk]
    subst hk
    go_wp2_with fail
    go_roundw
    case rel => exact ⟨i + 1, by go_num, by omega, by rw [HVs.out, HS2.out, HMm.out]; exact HO0.out, HF.out⟩
    case measure => simp [intOf]; omega
   ·
    have HS2 := hideP (HSt.out.trans (by rw [if_neg hk]))
    have k1 : (yk != 0) = true := by simp [hk]
    have HO := hideP (own_fr HO0.out ((Fr.refl wr).alloc (.cells #[.int .i64 yk, .int .i64 yn, .string ys] 56)))
    have HLit := hideP (lit_one cdV wr ⟨yk, yn, ys⟩ 56)
    clear HO0
    go_wp2_with (at_builtin; refine wpList_append_L cdV rfl _ _ 31 56 j0 _ 32 rfl Tryz.underlying31 hj0 jz0 jz1 jz2 rfl w.heap.size _ m _ rfl HO.out (.slice (some ⟨wr.heap.size, 0, none⟩) 1 1) [⟨yk, yn, ys⟩] rfl HLit.out ?c3 ?c4 ?c5 ?_)
    case c3 => unfold maxLen; first | omega | (simp <;> omega)
    case c4 => first | omega | (simp <;> omega)
    case c5 => first | omega | (simp <;> omega)
    intro v2 wB own2 gr2
    have HN2 := hideP own2
    have FB := hideP (show Fr w wB from Below.grown (HF.out.alloc _) gr2 (by simp <;> omega) (own_base HO.out))
    clear own2 gr2
    go_wp2_with fail
    go_roundw
    case rel => exact ⟨i + 1, by go_num, by omega, by rw [HVs.out, HS2.out, List.length_append, HMm.out]; exact HN2.out, FB.out⟩
    case measure => simp [intOf]; omega
  ·
   obtain rfl : i = ls.length := by omega
   rw [List.take_length] at hown ⊢
   have HO := hideP hown
   have HF := hideP hfr
   clear hown hfr
   go_wp2_with fail
   go_ret
   exact ⟨_, rfl, HO.out, HF.out⟩
theorem farthest_any (v : Value) (x0 : VM.Vl) (t : List VM.Vl) (side : Int) (w : World) (hv : IsL cdV w v (x0 :: t)) (hl : t.length ≤ 1000) :
  Calls Tryz.prog 73 #[v, .int .i64 side] w fun e w' => e = .returned (vlV (BG.far side x0 (x0 :: t))) ∧ Fr w w' := by
 obtain ⟨a, c, rfl, hc, hs⟩ := hv
 obtain ⟨b, o, rfl, hb, hat⟩ : ∃ b o, a = some ⟨b, o, none⟩ ∧ b < w.heap.size ∧ At cdV w b o (x0 :: t) := by
  rcases hs with h | h
  · cases h
  · exact h
 clear hs
 have HAt := hideP hat
 generalize hL : x0 :: t = L at *
 have hn : 0 < L.length := by rw [← hL]; simp
 have hn2 : L.length ≤ 1001 := by rw [← hL]; simp; omega
 obtain ⟨c0, c1, c2⟩ := hat.v3 0 hn
 have hx0 : L[0] = x0 := by simp [← hL]
 rw [hx0] at c0 c1 c2
 have HR0 : Hid (BG.far side x0 L = BG.far side x0 (L.drop 0)) := by unfold Hid; rfl
 clear hat hL hx0
 generalize BG.far side x0 L = R at *
 obtain ⟨k0, n0, s0⟩ := x0
 simp only [Nat.zero_mul, Nat.add_zero] at c0 c1 c2
 have hn' : (0 : Int) < (L.length : Int) := by omega
 have HB4 := hideP (Blk.new w #[.int .i64 0, .int .i64 0, .string ⟨#[]⟩] 56)
 have HB5 := hideP (Blk.new (w.alloc (.cells #[.int .i64 0, .int .i64 0, .string ⟨#[]⟩] 56)) #[.int .i64 k0, .int .i64 n0, .string s0] 56)
 have F5 := hideP (((Fr.refl w).alloc (.cells #[.int .i64 0, .int .i64 0, .string ⟨#[]⟩] 56)).alloc (.cells #[.int .i64 k0, .int .i64 n0, .string s0] 56))
 have HB4' := hideP (HB4.out.old (.cells #[.int .i64 k0, .int .i64 n0, .string s0] 56))
 go_enter Tryz.func73, Tryz.ntmps73
 go_wp2_with fail
 obtain ⟨b4, hb4⟩ : ∃ x, w.heap.size = x := ⟨_, rfl⟩
 have hb5 : (w.alloc (.cells #[.int .i64 0, .int .i64 0, .string ⟨#[]⟩] 56)).heap.size = b4 + 1 := by rw [World.size_alloc, hb4]
 rw [hb5] at HB5
 rw [hb4] at HB4' ⊢
 generalize (w.alloc (.cells #[.int .i64 0, .int .i64 0, .string ⟨#[]⟩] 56)).alloc (.cells #[.int .i64 k0, .int .i64 n0, .string s0] 56) = W5 at *
 have HW4 := hideP hb4
 clear hb4 hb5 c0 c1 c2 HB4
 go_loopw [7, 8, 9, 15] (fun _ _ _ iv wr => ∃ (i : Nat) (f : VM.Vl), iv = .int .i64 i ∧ i ≤ L.length ∧ R = BG.far side f (L.drop i) ∧ Blk wr b4 #[.int .i64 0, .int .i64 0, .string ⟨#[]⟩] 56 ∧ Blk wr (b4 + 1) #[.int .i64 f.k, .int .i64 f.n, .string f.s] 56 ∧ Fr w wr) (fun _ _ _ iv _ => L.length - (intOf iv).toNat)
 case atStart => exact ⟨0, ⟨k0, n0, s0⟩, rfl, Nat.zero_le _, HR0.out, HB4'.out, HB5.out, F5.out⟩
 case round =>
  obtain ⟨i, f, rfl, hi, hR, h4, h5, hfr⟩ := hrel
  obtain ⟨fk, fn, fs⟩ := f
  simp only at h5
  have q0 := h5.cell 0 rfl
  have q1 := h5.cell 1 rfl
  have q2 := h5.cell 2 rfl
  by_cases hlt : i < L.length
  ·
   have hlt' : (i : Int) < (L.length : Int) := by omega
   obtain ⟨d0, d1, d2⟩ := (HAt.out.fr hb hfr).v3 i hlt
   have hst : R = BG.far side (if CM.cmp L[i] ⟨fk, fn, fs⟩ = side then L[i] else ⟨fk, fn, fs⟩) (L.drop (i + 1)) := by
    rw [hR, List.drop_eq_getElem_cons hlt]
    rfl
   have cc := fun W => valCompare_any L[i] ⟨fk, fn, fs⟩ W
   generalize L[i] = x at *
   obtain ⟨xk, xn, xs⟩ := x
   simp only [VM.Vl.val] at d0 d1 d2 cc
   have FA := hideP (hfr.alloc (.cells #[.int .i64 xk, .int .i64 xn, .string xs] 56))
   have H4 := hideP (h4.old (.cells #[.int .i64 xk, .int .i64 xn, .string xs] 56))
   have H5 := hideP (h5.old (.cells #[.int .i64 xk, .int .i64 xn, .string xs] 56))
   have H7 := hideP (Blk.new wr #[.int .i64 xk, .int .i64 xn, .string xs] 56)
   have hlt4 := h4.lt
   have hlt5 := h5.lt
   have HSt := hideP hst
   generalize CM.cmp ⟨xk, xn, xs⟩ ⟨fk, fn, fs⟩ = cm at *
   clear hst hR h4 h5 hfr
   go_wp2_with fail
   refine (cc _).mono ?_
   rintro _ w2 ⟨rfl, f2⟩
   have F2 := hideP (FA.out.trans f2)
   have K4 := hideP (H4.out.fr f2)
   have K5 := hideP (H5.out.fr f2)
   have K7 := hideP (H7.out.fr f2)
   clear f2 cc d0 d1 d2 q0 q1 q2
   generalize VM.chkAll [⟨xk, xn, xs⟩, ⟨fk, fn, fs⟩] = ck at *
   by_cases hcm : cm = side
   ·
    have HS2 := hideP (HSt.out.trans (by rw [if_pos hcm]))
    subst hcm
    have q0 := K7.out.cell 0 rfl
    have q1 := K7.out.cell 1 rfl
    have q2 := K7.out.cell 2 rfl
    have p0 := K5.out.cell 0 rfl
    have p1 := K5.out.cell 1 rfl
    have p2 := K5.out.cell 2 rfl
    have y0 := K5.out.frozen 0
    have y1 := K5.out.frozen 1
    have y2 := K5.out.frozen 2
    have hge := HW4.out
    have N4 := hideP (((K4.out.other (show b4 + 1 ≠ b4 by omega) 0 (.int .i64 xk)).other (show b4 + 1 ≠ b4 by omega) 1 (.int .i64 xn)).other (show b4 + 1 ≠ b4 by omega) 2 (.string xs))
    have N5 := hideP (K5.out.put3 (.int .i64 xk) (.int .i64 xn) (.string xs))
    have NF := hideP (F2.out.put3 (b4 + 1) (by omega) (.int .i64 xk) (.int .i64 xn) (.string xs))
    go_wp2_with fail
    go_roundw
    case rel => exact ⟨i + 1, ⟨xk, xn, xs⟩, by go_num, by omega, HS2.out, N4.out, N5.out, NF.out⟩
    case measure => simp [intOf]; omega
   ·
    have HS2 := hideP (HSt.out.trans (by rw [if_neg hcm]))
    have e1 : (cm == side) = false := beq_false_of_ne hcm
    go_wp2_with fail
    go_roundw
    case rel => exact ⟨i + 1, ⟨fk, fn, fs⟩, by go_num, by omega, HS2.out, K4.out, K5.out, F2.out⟩
    case measure => simp [intOf]; omega
  ·
   obtain rfl : i = L.length := by omega
   have HZ := hideP (show R = ⟨fk, fn, fs⟩ by rw [hR, List.drop_length]; rfl)
   have z0 := h4.cell 0 rfl
   have z1 := h4.cell 1 rfl
   have z2 := h4.cell 2 rfl
   have y0 := h4.frozen 0
   have y1 := h4.frozen 1
   have y2 := h4.frozen 2
   have HF := hideP hfr
   have H4 := hideP h4
   clear hR hfr h4 h5
   go_wp2_with fail
   have N4 := H4.out.put3 (.int .i64 fk) (.int .i64 fn) (.string fs)
   have r0 := N4.cell 0 rfl
   have r1 := N4.cell 1 rfl
   have r2 := N4.cell 2 rfl
   unfold put3 at r0 r1 r2
   refine bodyPost_ret (v := .agg #[.int .i64 fk, .int .i64 fn, .string fs]) ?_ rfl ⟨by rw [HZ.out]; rfl, HF.out.put3 b4 (by have := HW4.out; omega) _ _ _⟩
   simp [results, Tryz.results73, go_sem, r0, r1, r2]
end Go.Proofs.YtbcfdhimngoplaaGreatDoor
namespace Go.Proofs.YtbcfdhimngoplaaGreatDoor
open Go.ChangeShapes Go.WideShapes Go.ChangeAt Go.RowKit
set_option linter.unusedVariables false
set_option maxRecDepth 100000
def TotAt (w : World) (b o : Nat) (l : List Int) : Prop := ∀ i (h : i < l.length), w.cell? ⟨b, o + i, none⟩ = some (.int .i64 l[i])
def IsTots (w : World) (v : Value) (l : List Int) : Prop :=
 ∃ (a : Option Addr) (cap : Nat), v = .slice a l.length cap ∧ l.length ≤ cap ∧ (l = [] ∨ ∃ b o, a = some ⟨b, o, none⟩ ∧ b < w.heap.size ∧ TotAt w b o l)
theorem TotAt.fr {w w' : World} {b o : Nat} {l : List Int} (h : TotAt w b o l) (hb : b < w.heap.size) (f : Fr w w') : TotAt w' b o l :=
 fun i hi => (Below.cell f hb).trans (h i hi)
theorem IsTots.fr {w w' : World} {v : Value} {l : List Int} (h : IsTots w v l) (f : Fr w w') : IsTots w' v l := by
 obtain ⟨a, cap, rfl, hc, h0 | ⟨b, o, rfl, hb, hcl⟩⟩ := h
 · exact ⟨a, cap, rfl, hc, Or.inl h0⟩
 · exact ⟨_, cap, rfl, hc, Or.inr ⟨b, o, rfl, Nat.lt_of_lt_of_le hb f.size, hcl.fr hb f⟩⟩
theorem tot_add (x y : Int) (hx : 0 ≤ x) (hy : 0 ≤ y) (w : World) :
  (callFunc 101 #[.int .u64 x, .int .u64 y, .int .u64 0]).run Tryz.prog w =
   .ok (.value (.tuple #[.int .u64 ((x + y) % 18446744073709551616), .int .u64 ((x + y) / 18446744073709551616)])) w := by
 rw [run_callFunc_extern Tryz.func101 (by kernel_rfl) (by kernel_rfl) (by kernel_rfl) (e := add64Entry) (by kernel_rfl), run_add64 x y 0 hx hy (by decide) (by decide)]
 simp only [Result.andThen, Int.add_zero]
theorem tot_take (l : List Int) (k : Nat) (h : k < l.length) : (l.take (k + 1)).sum = (l.take k).sum + l[k] := by
 rw [List.take_succ_eq_append_getElem h, List.sum_append]
 simp
def sumTwo (l : List Int) : Value := if 40 < l.length then .tuple #[.int .i64 0, .int .i64 2] else two l.sum
set_option maxHeartbeats 1000000 in
theorem tsum_any (v : Value) (l : List Int) (w : World) (hr : IsTots w v l) (hok : ∀ x ∈ l, WH.Ok x) (hbig : l.length ≤ 9223372036854775807) :
  Calls Tryz.prog 90 #[v] w fun e w' => e = .returned (sumTwo l) ∧ w' = w := by
 obtain ⟨a, cap, rfl, _, hcs⟩ := hr
 unfold sumTwo
 by_cases h8 : 40 < l.length
 ·
  have h8' : (40 : Int) < (l.length : Int) := by omega
  rw [if_pos h8]
  clear hcs hok
  go_enter Tryz.func90, Tryz.ntmps90
  go_wp2_with fail
  go_ret2
  exact ⟨rfl, rfl⟩
 ·
  have h8' : ¬ (40 : Int) < (l.length : Int) := by omega
  rw [if_neg h8]
  have HC : Hid _ := hcs
  have HO : Hid _ := hok
  clear hcs hok
  go_enter Tryz.func90, Tryz.ntmps90
  go_wp2_with fail
  go_loop [4, 5, 16] (fun hv lv iv => ∃ (k : Nat) (hi lo : Int), k ≤ l.length ∧ iv = .int .i64 k ∧ hv = .int .i64 hi ∧ lv = .int .u64 lo ∧ 0 ≤ lo ∧ lo < 18446744073709551616 ∧ -(k : Int) ≤ hi ∧ hi ≤ k ∧ hi * 18446744073709551616 + lo = (l.take k).sum) (fun _ _ iv => l.length - (intOf iv).toNat)
  case atStart => exact ⟨0, 0, 0, Nat.zero_le _, rfl, rfl, rfl, by decide, by decide, by decide, by decide, by simp⟩
  case round =>
   obtain ⟨k, hi, lo, hk, rfl, rfl, rfl, l0, l1, g0, g1, hsum⟩ := hrel
   by_cases hlt : k < l.length
   ·
    obtain ⟨b, o, rfl, hb, hc⟩ : ∃ b o, a = some ⟨b, o, none⟩ ∧ b < w.heap.size ∧ TotAt w b o l := by
     rcases HC.out with h | h
     · subst h; simp at hlt
     · exact h
    have c0 := hc k hlt
    obtain ⟨n0, n1⟩ := HO.out l[k] (List.getElem_mem hlt)
    have hstep := tot_take l k hlt
    generalize hx : l[k] = n at c0 hstep n0 n1
    have HS : Hid _ := hstep
    have HS0 : Hid _ := hsum
    clear hx hstep hsum hc HC HO
    have hu : IntKind.u64.wrap n = n % 18446744073709551616 := IntKind.wrap_u64 n
    have hadd := tot_add lo (IntKind.u64.wrap n) l0 (by rw [hu]; omega) w
    rw [show (lo + IntKind.u64.wrap n) % 18446744073709551616 = (lo + n % 18446744073709551616) % 18446744073709551616 by rw [hu], show (lo + IntKind.u64.wrap n) / 18446744073709551616 = (lo + n % 18446744073709551616) / 18446744073709551616 by rw [hu]] at hadd
    have HU : Hid _ := hu
    clear hu
    have e1 : (lo + n % 18446744073709551616) / 18446744073709551616 = 0 ∨ (lo + n % 18446744073709551616) / 18446744073709551616 = 1 := by omega
    go_wp2_with fail
    go_round
    case rel =>
     refine ⟨k + 1, hi + (n / 9223372036854775808 + (lo + n % 18446744073709551616) / 18446744073709551616), (lo + n) % 18446744073709551616, by omega, by go_num, ?_, rfl, by omega, by omega, by omega, by omega, ?_⟩
     · rfl
     ·
      have := HS.out
      have := HS0.out
      omega
    case measure => simp [intOf]; omega
   ·
    have hkl : k = l.length := by omega
    subst hkl
    rw [List.take_length] at hsum
    have hw : wrap64 lo = if lo < 9223372036854775808 then lo else lo - 18446744073709551616 := by
     rw [wrap64]
     split <;> omega
    clear HC HO
    rcases WH.ok_em l.sum with ho | ho
    ·
     have HW : Hid _ := WH.val_ok ho
     have HE : Hid _ := WH.err_ok ho
     obtain ⟨o0, o1⟩ := ho
     have ht : hi = wrap64 lo / 9223372036854775808 := by rw [hw]; split <;> omega
     have HV : Hid (wrap64 lo = l.sum) := by unfold Hid; rw [hw]; split <;> omega
     have hne : (hi != wrap64 lo / 9223372036854775808) = false := by rw [← ht]; simp
     clear hsum hw o0 o1
     go_wp2_with fail
     go_ret2
     exact ⟨ret_two (HV.out.trans HW.out.symm) HE.out.symm, rfl⟩
    ·
     have HW : Hid _ := WH.val_over ho
     have HE : Hid _ := WH.err_over ho
     have ht : ¬ hi = wrap64 lo / 9223372036854775808 := by
      intro h
      apply ho
      unfold WH.Ok
      rw [h, hw] at hsum
      split at hsum <;> omega
     have hne : (hi != wrap64 lo / 9223372036854775808) = true := by simpa using ht
     clear hsum hw ho
     go_wp2_with fail
     go_ret2
     exact ⟨ret_two HW.out.symm HE.out.symm, rfl⟩
end Go.Proofs.YtbcfdhimngoplaaGreatDoor
