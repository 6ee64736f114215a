/-
  What belongs together: TsA, TsB, TsC, TsD.
-/
import Derived.Test.YtmemapfboefngaaCdK
import Derived.Test.YtmemapfboefngaaGtA
import Derived.Lib.Bytealg
namespace Go.Proofs.Ytmemapfboefngaa
open Go.ChangeShapes Go.WideShapes Go.ChangeAt Go.RowKit
set_option linter.unusedVariables false
set_option linter.unusedSimpArgs false
set_option maxRecDepth 100000
namespace TK
/-- a pair: a key and an Id -/
structure Pr where
  k : ByteArray
  n : Int
def lt (a b : ByteArray) : Bool := Op.bytesLess a.toList b.toList
theorem toList_inj {a b : ByteArray} (h : a.toList = b.toList) : a = b := by
  rw [Lib.toList_data, Lib.toList_data] at h
  have := Array.toList_inj.1 h
  cases a; cases b; simp_all
theorem toList_ne {a b : ByteArray} (h : a ≠ b) : (a.toList == b.toList) = false := by
  cases hb : a.toList == b.toList with
  | false => rfl
  | true => exact absurd (toList_inj (eq_of_beq hb)) h
theorem less_cb : ∀ (l m : List UInt8), Op.bytesLess l m = decide (Lib.compareBytes l m < 0) := by
  intro l
  induction l with
  | nil => intro m; cases m <;> simp [Op.bytesLess, Lib.compareBytes]
  | cons a l ih =>
    intro m
    cases m with
    | nil => simp [Op.bytesLess, Lib.compareBytes]
    | cons b m =>
      unfold Op.bytesLess
      rw [ih, Lib.compareBytes]
      by_cases h1 : a < b
      · simp [h1]
      · by_cases h2 : b < a
        · simp [h1, h2]
          intro h; subst h; exact absurd h2 h1
        · have : a = b := by
            rw [UInt8.lt_iff_toNat_lt] at h1 h2
            exact UInt8.toNat_inj.1 (by omega)
          simp [h1, h2, this]
theorem cb_anti : ∀ (l m : List UInt8), Lib.compareBytes m l = - Lib.compareBytes l m := by
  intro l
  induction l with
  | nil => intro m; cases m <;> simp [Lib.compareBytes]
  | cons a l ih =>
    intro m
    cases m with
    | nil => simp [Lib.compareBytes]
    | cons b m =>
      rw [Lib.compareBytes, Lib.compareBytes, ih]
      by_cases h1 : a < b
      · have h2 : ¬ b < a := by rw [UInt8.lt_iff_toNat_lt] at *; omega
        simp [h1, h2]
      · by_cases h2 : b < a <;> simp [h1, h2]
theorem cb_zero : ∀ (l m : List UInt8), Lib.compareBytes l m = 0 ↔ l = m := by
  intro l
  induction l with
  | nil => intro m; cases m <;> simp [Lib.compareBytes]
  | cons a l ih =>
    intro m
    cases m with
    | nil => simp [Lib.compareBytes]
    | cons b m =>
      rw [Lib.compareBytes]
      by_cases h1 : a < b
      · simp [h1]; intro h; subst h; rw [UInt8.lt_iff_toNat_lt] at h1; omega
      · by_cases h2 : b < a
        · simp [h1, h2]; intro h; subst h; exact absurd h2 h1
        · have : a = b := by
            rw [UInt8.lt_iff_toNat_lt] at h1 h2
            exact UInt8.toNat_inj.1 (by omega)
          simp [h1, h2, this, ih]
theorem lt_cb (a b : ByteArray) : lt a b = decide (Lib.compareBytes a.data.toList b.data.toList < 0) := by
  unfold lt
  rw [less_cb, Lib.toList_data, Lib.toList_data]
theorem gt_lt (a b : ByteArray) : (!(Op.bytesLess a.toList b.toList) && !(a.toList == b.toList)) = lt b a := by
  have h := cb_anti a.data.toList b.data.toList
  have hz := cb_zero a.data.toList b.data.toList
  unfold lt
  rw [less_cb, less_cb, Lib.toList_data, Lib.toList_data, h]
  generalize Lib.compareBytes a.data.toList b.data.toList = c at *
  by_cases e : a.data.toList = b.data.toList
  · have : c = 0 := hz.2 e
    subst this
    simp [e]
  · have : c ≠ 0 := fun x => e (hz.1 x)
    have e' : (a.data.toList == b.data.toList) = false := by simpa using e
    rw [e']
    by_cases h1 : c < 0
    · simp [h1]; omega
    · simp [h1]; omega
theorem cb_trans : ∀ (l m n : List UInt8), Lib.compareBytes l m < 0 → Lib.compareBytes m n < 0 → Lib.compareBytes l n < 0 := by
  intro l
  induction l with
  | nil =>
    intro m n h1 h2
    cases n with
    | nil => cases m <;> simp [Lib.compareBytes] at h1 h2
    | cons c n => simp [Lib.compareBytes]
  | cons a l ih =>
    intro m n h1 h2
    cases m with
    | nil => simp [Lib.compareBytes] at h1
    | cons b m =>
      cases n with
      | nil => simp [Lib.compareBytes] at h2
      | cons c n =>
        rw [Lib.compareBytes] at h1 h2 ⊢
        simp only [UInt8.lt_iff_toNat_lt] at h1 h2 ⊢
        by_cases e1 : a.toNat < b.toNat
        · by_cases e2 : c.toNat < b.toNat
          · rw [if_neg (by omega), if_pos e2] at h2
            omega
          · rw [if_pos (by omega)]; decide
        · rw [if_neg e1] at h1
          by_cases e3 : b.toNat < a.toNat
          · rw [if_pos e3] at h1; omega
          · rw [if_neg e3] at h1
            by_cases e4 : b.toNat < c.toNat
            · rw [if_pos (by omega)]; decide
            · rw [if_neg e4] at h2
              by_cases e5 : c.toNat < b.toNat
              · rw [if_pos e5] at h2; omega
              · rw [if_neg e5] at h2
                rw [if_neg (by omega), if_neg (by omega)]
                exact ih m n h1 h2
theorem lt_trans {a b c : ByteArray} (h1 : lt a b = true) (h2 : lt b c = true) : lt a c = true := by
  rw [lt_cb] at *
  simp only [decide_eq_true_eq] at *
  exact cb_trans _ _ _ h1 h2
theorem lt_irr (a : ByteArray) : lt a a = false := by
  rw [lt_cb, (cb_zero _ _).2 rfl]; rfl
theorem lt_asym {a b : ByteArray} (h : lt a b = true) : lt b a = false := by
  rw [lt_cb] at *
  rw [cb_anti a.data.toList b.data.toList]
  simp at *
  omega
theorem lt_tot {a b : ByteArray} (h1 : lt a b = false) (h2 : lt b a = false) : a = b := by
  rw [lt_cb] at h1 h2
  rw [cb_anti a.data.toList b.data.toList] at h2
  simp at h1 h2
  have := (cb_zero a.data.toList b.data.toList).1 (by omega)
  exact toList_inj (by rw [Lib.toList_data, Lib.toList_data]; exact this)
/-- is a key above the one before? -/
def rs : Option ByteArray → ByteArray → Bool
  | none, _ => true
  | some l, k => lt l k
/-- a leaf's pairs -/
def pE (st : Option ByteArray) : List Pr → Except Nat (Option ByteArray)
  | [] => .ok st
  | p :: t => if 40 < p.k.size then .error 2 else if rs st p.k = false then .error 4 else pE (some p.k) t
def szOk (many n : Nat) : Bool := !(decide (n = 0) || decide (4 < n) || (decide (n < 2) && decide (1 < many)))
def lE (many : Nat) (st : Option ByteArray) : List (List Pr) → Except Nat (Option ByteArray)
  | [] => .ok st
  | l :: t => if szOk many l.length = false then .error 1 else match pE st l with
    | .error c => .error c
    | .ok s => lE many s t
def er : Except Nat (Option ByteArray) → Nat
  | .error c => c
  | .ok _ => 0
def uE (below : Nat) : List (List Int) → Nat
  | [] => if 1 < below then 1 else 0
  | u :: us => if below < 2 then 1 else if u.any (fun x => decide (x < 2) || decide (4 < x)) = true then 1 else if u.sum ≠ (below : Int) then 1 else uE u.length us
def chk (L : List (List Pr)) (U : List (List Int)) : Nat :=
  if 64 < L.length ∨ 8 < U.length then 2 else if er (lE L.length none L) ≠ 0 then er (lE L.length none L) else if uE L.length U ≠ 0 then uE L.length U else if 64 < L.flatten.length then 2 else 0
theorem pE_ne {st : Option ByteArray} {l : List Pr} {c : Nat} (h : pE st l = .error c) : c ≠ 0 := by
  induction l generalizing st with
  | nil => cases h
  | cons p t ih =>
    rw [pE] at h
    split at h
    · cases h; decide
    split at h
    · cases h; decide
    · exact ih h
end TK
def prV (p : TK.Pr) : Value := .agg #[.string p.k, .int .i64 p.n]
def cdPr : Cd TK.Pr := ⟨2, fun p => [.string p.k, .int .i64 p.n], by decide, fun _ => rfl, fun x u h => by simp at h; rcases h with rfl | rfl <;> rfl⟩
def cdZ : Cd Int := ⟨1, fun x => [.int .i64 x], by decide, fun _ => rfl, fun x u h => by simp at h; subst h; rfl⟩
theorem At.p2 {w : World} {b o : Nat} {l : List TK.Pr} (h : At cdPr w b o l) (i : Nat) (hi : i < l.length) : w.cell? ⟨b, o + i * 2, none⟩ = some (.string l[i].k) ∧ w.cell? ⟨b, o + i * 2 + 1, none⟩ = some (.int .i64 l[i].n) := by
  have h0 := flat_get cdPr l i 0 hi (by decide)
  have h1 := flat_get cdPr l i 1 hi (by decide)
  exact ⟨h (i * 2) _ (by simpa [cdPr] using h0), by have := h (i * 2 + 1) _ (by simpa [cdPr] using h1); rwa [← Nat.add_assoc] at this⟩
theorem At.z1 {w : World} {b o : Nat} {l : List Int} (h : At cdZ w b o l) (i : Nat) (hi : i < l.length) : w.cell? ⟨b, o + i, none⟩ = some (.int .i64 l[i]) :=
  h i _ (by have := flat_get cdZ l i 0 hi (by decide); simpa [cdZ] using this)
structure Sq where
  a : Option Addr
  n : Nat
  c : Nat
def Sq.v (x : Sq) : Value := .slice x.a x.n x.c
def cdS : Cd Sq := ⟨1, fun x => [.slice x.a x.n x.c], by decide, fun _ => rfl, fun x u h => by simp at h; subst h; rfl⟩
theorem At.s1 {w : World} {b o : Nat} {l : List Sq} (h : At cdS w b o l) (i : Nat) (hi : i < l.length) : w.cell? ⟨b, o + i, none⟩ = some (.slice l[i].a l[i].n l[i].c) :=
  h i _ (by have := flat_get cdS l i 0 hi (by decide); simpa [cdS] using this)
/-- a slice of slices stands for a list of lists -/
def IsLL {α : Type} (E : Cd α) (w : World) (v : Value) (ls : List (List α)) : Prop := ∃ qs : List Sq, IsL cdS w v qs ∧ qs.length = ls.length ∧ ∀ i (h1 : i < qs.length) (h2 : i < ls.length), IsL E w qs[i].v ls[i]
section
variable {α : Type} {E : Cd α} {w w' : World} {v : Value} {ls : List (List α)}
theorem IsLL.fr (h : IsLL E w v ls) (f : Fr w w') : IsLL E w' v ls := by
  obtain ⟨qs, h1, h2, h3⟩ := h
  exact ⟨qs, h1.fr f, h2, fun i a b => (h3 i a b).fr f⟩
theorem IsLL.slice (h : IsLL E w v ls) : ∃ a c, v = .slice a ls.length c := by
  obtain ⟨qs, ⟨a, c, h1, _⟩, h2, _⟩ := h
  exact ⟨a, c, by rw [h1, h2]⟩
/-- the i-th list's own slice -/
theorem IsLL.at {a : Option Addr} {n c : Nat} (h : IsLL E w (.slice a n c) ls) : ∃ qs : List Sq, qs.length = ls.length ∧ n = ls.length ∧ n ≤ c ∧ (∀ i (h1 : i < qs.length), ∃ b o, a = some ⟨b, o, none⟩ ∧ b < w.heap.size ∧ w.cell? ⟨b, o + i, none⟩ = some (.slice qs[i].a qs[i].n qs[i].c)) ∧ ∀ i (h1 : i < qs.length) (h2 : i < ls.length), IsL E w qs[i].v ls[i] ∧ qs[i].n = ls[i].length := by
  obtain ⟨qs, ⟨a', c', e, hc, hcs⟩, h2, h3⟩ := h
  cases e
  refine ⟨qs, h2, h2, hc, fun i hi => ?_, fun i h4 h5 => ⟨h3 i h4 h5, ?_⟩⟩
  · rcases hcs with h | ⟨b, o, ha, hb, hat⟩
    · rw [h] at hi; simp at hi
    · exact ⟨b, o, ha, hb, hat.s1 i hi⟩
  · obtain ⟨a1, c1, e1, _⟩ := h3 i h4 h5
    unfold Sq.v at e1
    injection e1
end
/-- a tree in memory: its two slices -/
structure IsT (w : World) (p q : Value) (L : List (List TK.Pr)) (U : List (List Int)) : Prop where
  l : IsLL cdPr w p L
  u : IsLL cdZ w q U
theorem IsT.fr {w w' : World} {p q : Value} {L : List (List TK.Pr)} {U : List (List Int)} (h : IsT w p q L U) (f : Fr w w') : IsT w' p q L U := ⟨h.l.fr f, h.u.fr f⟩
end Go.Proofs.Ytmemapfboefngaa
namespace Go.Proofs.Ytmemapfboefngaa
open Go.ChangeShapes Go.WideShapes Go.ChangeAt Go.RowKit
set_option linter.unusedVariables false
set_option linter.unusedSimpArgs false
set_option maxRecDepth 100000
set_option maxHeartbeats 1000000
def fst : Option ByteArray → Bool
  | none => true
  | some _ => false
def lst : Option ByteArray → ByteArray
  | none => ⟨#[]⟩
  | some k => k
/-- the closure's two cells -/
structure Rz (w : World) (a b : Nat) (st : Option ByteArray) : Prop where
  f : Blk w a #[.bool (fst st)] 4
  l : Blk w b #[.string (lst st)] 9
theorem Rz.fr {w w' : World} {a b : Nat} {st : Option ByteArray} (h : Rz w a b st) (f : Fr w w') : Rz w' a b st := ⟨h.f.fr f, h.l.fr f⟩
theorem Rz.ne {w : World} {a b : Nat} {st : Option ByteArray} (h : Rz w a b st) : a ≠ b := by
  rintro rfl
  have h1 := h.f
  have h2 := h.l
  unfold Blk at h1 h2
  rw [h1] at h2
  simp only [Option.some.injEq, Obj.cells.injEq] at h2
  exact absurd h2.2.1 (by decide)
theorem Fr.setCell {a b : World} (h : Fr a b) (p : Nat) (i : Nat) (u : Value) (hp : a.heap.size ≤ p) : Fr a (b.setCell ⟨p, i, none⟩ u) := Below.setCell h hp _
theorem rising_any (w : World) : Calls Try.prog 53 #[] w fun e w' => e = .returned (.func (.func 68) #[] #[.pointer (some ⟨w.heap.size + 1, 0, none⟩), .pointer (some ⟨w.heap.size, 0, none⟩)]) ∧ Rz w' (w.heap.size + 1) w.heap.size none ∧ Fr w w' := by
  have hmf : ∀ (fn : Fn) (first cap : Array Value) (w : World), (Instr.makeFunc fn first cap).run Try.prog w = .ok (.func fn first cap) w := fun _ _ _ _ => rfl
  go_enter Try.func53, Try.ntmps53
  go_wp2_with fail
  go_ret
  refine ⟨rfl, ⟨?_, (Blk.new w _ _).old _⟩, ((Fr.refl w).alloc _).alloc _⟩
  have h := Blk.new (w.alloc (.cells #[.string ⟨#[]⟩] 9)) #[.bool true] 4
  rw [World.size_alloc] at h
  exact h
theorem risingClo_any (k : ByteArray) (st : Option ByteArray) (a b : Nat) (w : World) (h : Rz w a b st) :
    Calls Try.prog 68 #[.string k, .pointer (some ⟨a, 0, none⟩), .pointer (some ⟨b, 0, none⟩)] w fun e w' => e = .returned (.bool (TK.rs st k)) ∧ w' = (w.setCell ⟨b, 0, none⟩ (.string k)).setCell ⟨a, 0, none⟩ (.bool false) ∧ Rz w' a b (some k) := by
  have hne := h.ne
  have HR := hideP h
  have a0 := h.f.cell 0 (u := .bool (fst st)) rfl
  have b0 := h.l.cell 0 (u := .string (lst st)) rfl
  have a1 := h.f.frozen 0
  have b1 := h.l.frozen 0
  have a2 := ((h.f.other (b' := b) (Ne.symm hne) 0 (.string k)).cell 0 (u := .bool (fst st)) rfl)
  have a3 := ((h.f.other (b' := b) (Ne.symm hne) 0 (.string k)).frozen 0)
  have HZ : Hid (Rz ((w.setCell ⟨b, 0, none⟩ (.string k)).setCell ⟨a, 0, none⟩ (.bool false)) a b (some k)) := by
    refine ⟨?_, ?_⟩
    · have := (h.f.other (b' := b) (Ne.symm hne) 0 (.string k)).set 0 (.bool false)
      simpa [fst, lst] using this
    · have := (h.l.set 0 (.string k)).other (b' := a) hne 0 (.bool false)
      simpa [fst, lst] using this
  clear h
  cases st with
  | none =>
    simp only [fst, lst] at a0 b0 a2
    go_enter Try.func68, Try.ntmps68
    go_wp2_with fail
    go_ret
    exact ⟨rfl, rfl, HZ.out⟩
  | some l =>
    simp only [fst, lst] at a0 b0 a2
    have HG : Hid ((!(Op.bytesLess k.toList l.toList) && !(k.toList == l.toList)) = TK.lt l k) := TK.gt_lt k l
    go_enter Try.func68, Try.ntmps68
    go_wp2_with fail
    go_ret
    exact ⟨by show Ending.returned (.bool _) = .returned (.bool (TK.lt l k)); rw [← HG.out], rfl, HZ.out⟩
theorem TK.pE_step {st : Option ByteArray} {p : TK.Pr} {t : List TK.Pr} : TK.pE st (p :: t) = if 40 < p.k.size then .error 2 else if TK.rs st p.k = false then .error 4 else TK.pE (some p.k) t := rfl
/-- what is told of the leaves behind one -/
def TK.lN (m : Nat) (t : List (List TK.Pr)) : Except Nat (Option ByteArray) → Except Nat (Option ByteArray)
  | .error c => .error c
  | .ok s => TK.lE m s t
theorem TK.lE_step {m : Nat} {st : Option ByteArray} {l : List TK.Pr} {t : List (List TK.Pr)} : TK.lE m st (l :: t) = if TK.szOk m l.length = false then .error 1 else TK.lN m t (TK.pE st l) := by
  rw [TK.lE]
  split
  · rfl
  · cases TK.pE st l <;> rfl
end Go.Proofs.Ytmemapfboefngaa
namespace Go.Proofs.Ytmemapfboefngaa
open Go.ChangeShapes Go.WideShapes Go.ChangeAt Go.RowKit
set_option linter.unusedVariables false
set_option linter.unusedSimpArgs false
set_option maxRecDepth 100000
set_option maxHeartbeats 2000000
theorem checkLeaves_any (v : Value) (L : List (List TK.Pr)) (w : World) (h : IsLL cdPr w v L) (hL : L.length ≤ 9223372036854775806) (hR : ∀ r ∈ L, r.length ≤ 9223372036854775806) (hS : ∀ r ∈ L, ∀ p ∈ r, p.k.size ≤ 9223372036854775806) :
    Calls Try.prog 34 #[v] w fun e w' => e = .returned (.int .i64 ((TK.er (TK.lE L.length none L) : Nat) : Int)) ∧ Fr w w' := by
  have HCr := hideP (rising_any w)
  obtain ⟨a, c, rfl⟩ := h.slice
  obtain ⟨qs, hq, _, hc, hcell, hrow⟩ := h.at
  have HCe := hideP hcell
  have HRo := hideP hrow
  have HLn := hideP hR
  have HSz := hideP hS
  clear hcell hrow h hR hS
  obtain ⟨R, hres⟩ : ∃ R, TK.lE L.length none L = R := ⟨_, rfl⟩
  rw [hres]
  have HRes := hideP hres
  clear hres
  go_enter Try.func34, Try.ntmps34
  go_wp2_with fail
  refine HCr.out.mono ?_
  rintro _ w1 ⟨rfl, hz, f1⟩
  have HZ := hideP hz
  have F1 := hideP f1
  clear hz f1 HCr
  obtain ⟨B1, hB1⟩ : ∃ x, x = w.heap.size + 1 := ⟨_, rfl⟩
  obtain ⟨B0, hB0⟩ : ∃ x, x = w.heap.size := ⟨_, rfl⟩
  rw [← hB1, ← hB0] at HZ
  have HB1 := hideP (show w.heap.size ≤ B1 by omega)
  have HB0 := hideP (show w.heap.size ≤ B0 by omega)
  rw [← hB1, ← hB0]
  clear hB1 hB0
  go_wp2_with fail
  go_loopw [5, 7, 11] (fun _ _ iv wr => ∃ (i : Nat) (st : Option ByteArray), iv = .int .i64 i ∧ i ≤ L.length ∧ R = TK.lE L.length st (L.drop i) ∧ Rz wr B1 B0 st ∧ Fr w wr) (fun _ _ iv _ => L.length - (intOf iv).toNat)
  case atStart => exact ⟨0, none, rfl, Nat.zero_le _, HRes.out.symm, HZ.out, F1.out⟩
  case round =>
    obtain ⟨i, st, rfl, hi, hRi, hz, hfr⟩ := hrel
    by_cases hlt : i < L.length
    case neg =>
      obtain rfl : i = L.length := by omega
      have HE := hideP (show TK.er R = 0 by rw [hRi, List.drop_length]; rfl)
      have F := hideP hfr
      clear hRi hz hfr
      go_wp2_with fail
      go_ret
      exact ⟨by rw [HE.out]; rfl, F.out⟩
    have hlt' : (i : Int) < (L.length : Int) := by omega
    have hltL : i < L.length := hlt
    obtain ⟨b, o, rfl, hbb, c0⟩ := HCe.out i (by omega)
    obtain ⟨h1, h2⟩ := HRo.out i (by omega) hltL
    have d0 := (Below.cell hfr (World.block_lt_of_cell? _ _ c0)).trans c0
    rw [List.drop_eq_getElem_cons hltL, TK.lE_step] at hRi
    have hr1 := HLn.out _ (List.getElem_mem hltL)
    have hr2 := HSz.out _ (List.getElem_mem hltL)
    generalize hrr : L[i] = r at *
    clear hrr
    generalize hrest : L.drop (i + 1) = rest at *
    have HRest := hideP hrest
    clear hrest
    obtain ⟨q, hqq⟩ : ∃ q, (qs[i]'(by omega)) = q := ⟨_, rfl⟩
    rw [hqq] at h1 h2 d0
    obtain ⟨qa, qn, qc⟩ := q
    simp only [Sq.v] at h1 h2 d0
    subst h2
    obtain ⟨qa', qc', e1, hcap, hat⟩ := h1
    simp only [Value.slice.injEq] at e1
    obtain ⟨rfl, _, rfl⟩ := e1
    have HAt := hideP hat
    have HRi := hideP hRi
    have HZ1 := hideP hz
    have HF := hideP hfr
    have HSr := hideP hr2
    have HCa := hideP hcap
    clear hat hRi hz hfr hr2 hcap c0 hqq
    have bad : TK.szOk L.length r.length = false → TK.er R = 1 := fun h => by rw [HRi.out, if_pos h]; rfl
    have HBad := hideP bad
    clear bad
    by_cases e0 : r.length = 0
    · have HE := hideP (HBad.out (by unfold TK.szOk; simp [e0]))
      have e0' : ((r.length : Int) == 0) = true := by simp [e0]
      have e0'' : (r.length : Int) = 0 := by omega
      have F := hideP HF.out
      clear HRi HAt
      go_wp2_with fail
      go_ret
      exact ⟨by rw [HE.out]; rfl, F.out⟩
    have e0' : ((r.length : Int) == 0) = false := by simp; exact fun h => e0 (by rw [h]; rfl)
    by_cases e4 : 4 < r.length
    · have HE := hideP (HBad.out (by unfold TK.szOk; simp [e4]))
      have e4' : (4 : Int) < (r.length : Int) := by omega
      clear HRi HAt
      go_wp2_with fail
      go_ret
      exact ⟨by rw [HE.out]; rfl, HF.out⟩
    have e4' : ((4 : Int) < (r.length : Int)) = False := by simp; omega
    by_cases e2 : r.length < 2
    · have e2' : (r.length : Int) < 2 := by omega
      by_cases eL : 1 < L.length
      · have HE := hideP (HBad.out (by unfold TK.szOk; simp [e2, eL]))
        have eL' : (1 : Int) < (L.length : Int) := by omega
        clear HRi HAt
        go_wp2_with fail
        go_ret
        exact ⟨by rw [HE.out]; rfl, HF.out⟩
      · have eL' : ((1 : Int) < (L.length : Int)) = False := by simp; omega
        have HSz0 := hideP (show TK.szOk L.length r.length = true by unfold TK.szOk; simp [e0, e2]; omega)
        have HOk := hideP (show R = TK.lN L.length rest (TK.pE st r) by rw [HRi.out, if_neg (by rw [HSz0.out]; decide)])
        clear HRi HBad
        go_wp2_with fail
        clear d0
        go_loopw [7, 35] (fun _ iv wr => ∃ (j : Nat) (s : Option ByteArray), iv = .int .i64 j ∧ j ≤ r.length ∧ TK.pE st r = TK.pE s (r.drop j) ∧ Rz wr B1 B0 s ∧ Fr w wr) (fun _ iv _ => r.length - (intOf iv).toNat)
        case atStart => exact ⟨0, st, rfl, Nat.zero_le _, rfl, HZ1.out, HF.out⟩
        case round =>
          clear HZ1 HF
          obtain ⟨j, s, rfl, hj, hPj, hz, hfr⟩ := hrel
          by_cases hjl : j < r.length
          case neg =>
            obtain rfl : j = r.length := by omega
            have HN := hideP (show R = TK.lE L.length s rest by rw [HOk.out, hPj, List.drop_length]; rfl)
            have HZ2 := hideP hz
            have HF2 := hideP hfr
            clear hPj hz hfr
            go_wp2_with fail
            go_roundw
            case rel => exact ⟨i + 1, s, by go_num, by omega, by rw [HN.out, HRest.out], HZ2.out, HF2.out⟩
            case measure => simp [intOf]; omega
          have hjl' : (j : Int) < (r.length : Int) := by omega
          obtain ⟨gb, go, rfl, hgb, hat⟩ : ∃ b o, qa = some ⟨b, o, none⟩ ∧ b < w.heap.size ∧ At cdPr w b o r := by
            rcases HAt.out with h | h
            · subst h; simp at hjl
            · exact h
          obtain ⟨c1, c2⟩ := hat.p2 j hjl
          have d1 := (Below.cell hfr (World.block_lt_of_cell? _ _ c1)).trans c1
          have d2 := (Below.cell hfr (World.block_lt_of_cell? _ _ c2)).trans c2
          have hks := HSr.out _ (List.getElem_mem hjl)
          rw [List.drop_eq_getElem_cons hjl, TK.pE_step] at hPj
          generalize hpp : r[j] = p at *
          clear hpp c1 c2 hat
          obtain ⟨k, n⟩ := p
          simp only at d1 d2 hks hPj
          have HPj := hideP hPj
          have HZ2 := hideP (hz.fr ((Fr.refl wr).alloc (.cells #[.string k, .int .i64 n] 38)))
          have HF2 := hideP (hfr.alloc (.cells #[.string k, .int .i64 n] 38))
          clear hPj hz hfr
          by_cases e40 : 40 < k.size
          · have e40' : (40 : Int) < (k.size : Int) := by omega
            have HE := hideP (show TK.er R = 2 by rw [HOk.out, HPj.out, if_pos e40]; rfl)
            go_wp2_with fail
            go_ret
            exact ⟨by rw [HE.out]; rfl, HF2.out⟩
          have e40' : ¬ (40 : Int) < (k.size : Int) := by omega
          replace HPj := hideP (HPj.out.trans (if_neg e40))
          have HC := hideP (risingClo_any k s B1 B0 _ HZ2.out)
          have HSet := hideP (fun (x y : Value) => (HF2.out.setCell B0 0 x HB0.out).setCell B1 0 y HB1.out)
          go_wp2_with fail
          refine HC.out.mono ?_
          rintro _ w3 ⟨rfl, hw3, hz3⟩
          have HF3 := hideP (show Fr w w3 by rw [hw3]; exact HSet.out _ _)
          have HZ3 := hideP hz3
          clear hw3 hz3 HC HSet
          cases hb : TK.rs s k with
          | false =>
            have HE := hideP (show TK.er R = 4 by rw [HOk.out, HPj.out, if_pos hb]; rfl)
            clear hb
            go_wp2_with fail
            go_ret
            exact ⟨by rw [HE.out]; rfl, HF3.out⟩
          | true =>
            replace HPj := hideP (HPj.out.trans (if_neg (by rw [hb]; decide)))
            clear hb
            go_wp2_with fail
            go_roundw
            case rel => exact ⟨j + 1, some k, by go_num, by omega, HPj.out, HZ3.out, HF3.out⟩
            case measure => simp [intOf]; omega
    have e2' : ((r.length : Int) < 2) = False := by simp; omega
    have HSz0 := hideP (show TK.szOk L.length r.length = true by unfold TK.szOk; simp [e0]; omega)
    have HOk := hideP (show R = TK.lN L.length rest (TK.pE st r) by rw [HRi.out, if_neg (by rw [HSz0.out]; decide)])
    clear HRi HBad
    go_wp2_with fail
    clear d0
    go_loopw [7, 35] (fun _ iv wr => ∃ (j : Nat) (s : Option ByteArray), iv = .int .i64 j ∧ j ≤ r.length ∧ TK.pE st r = TK.pE s (r.drop j) ∧ Rz wr B1 B0 s ∧ Fr w wr) (fun _ iv _ => r.length - (intOf iv).toNat)
    case atStart => exact ⟨0, st, rfl, Nat.zero_le _, rfl, HZ1.out, HF.out⟩
    case round =>
      clear HZ1 HF
      obtain ⟨j, s, rfl, hj, hPj, hz, hfr⟩ := hrel
      by_cases hjl : j < r.length
      case neg =>
        obtain rfl : j = r.length := by omega
        have HN := hideP (show R = TK.lE L.length s rest by rw [HOk.out, hPj, List.drop_length]; rfl)
        have HZ2 := hideP hz
        have HF2 := hideP hfr
        clear hPj hz hfr
        go_wp2_with fail
        go_roundw
        case rel => exact ⟨i + 1, s, by go_num, by omega, by rw [HN.out, HRest.out], HZ2.out, HF2.out⟩
        case measure => simp [intOf]; omega
      have hjl' : (j : Int) < (r.length : Int) := by omega
      obtain ⟨gb, go, rfl, hgb, hat⟩ : ∃ b o, qa = some ⟨b, o, none⟩ ∧ b < w.heap.size ∧ At cdPr w b o r := by
        rcases HAt.out with h | h
        · subst h; simp at hjl
        · exact h
      obtain ⟨c1, c2⟩ := hat.p2 j hjl
      have d1 := (Below.cell hfr (World.block_lt_of_cell? _ _ c1)).trans c1
      have d2 := (Below.cell hfr (World.block_lt_of_cell? _ _ c2)).trans c2
      have hks := HSr.out _ (List.getElem_mem hjl)
      rw [List.drop_eq_getElem_cons hjl, TK.pE_step] at hPj
      generalize hpp : r[j] = p at *
      clear hpp c1 c2 hat
      obtain ⟨k, n⟩ := p
      simp only at d1 d2 hks hPj
      have HPj := hideP hPj
      have HZ2 := hideP (hz.fr ((Fr.refl wr).alloc (.cells #[.string k, .int .i64 n] 38)))
      have HF2 := hideP (hfr.alloc (.cells #[.string k, .int .i64 n] 38))
      clear hPj hz hfr
      by_cases e40 : 40 < k.size
      · have e40' : (40 : Int) < (k.size : Int) := by omega
        have HE := hideP (show TK.er R = 2 by rw [HOk.out, HPj.out, if_pos e40]; rfl)
        go_wp2_with fail
        go_ret
        exact ⟨by rw [HE.out]; rfl, HF2.out⟩
      have e40' : ¬ (40 : Int) < (k.size : Int) := by omega
      replace HPj := hideP (HPj.out.trans (if_neg e40))
      have HC := hideP (risingClo_any k s B1 B0 _ HZ2.out)
      have HSet := hideP (fun (x y : Value) => (HF2.out.setCell B0 0 x HB0.out).setCell B1 0 y HB1.out)
      go_wp2_with fail
      refine HC.out.mono ?_
      rintro _ w3 ⟨rfl, hw3, hz3⟩
      have HF3 := hideP (show Fr w w3 by rw [hw3]; exact HSet.out _ _)
      have HZ3 := hideP hz3
      clear hw3 hz3 HC HSet
      cases hb : TK.rs s k with
      | false =>
        have HE := hideP (show TK.er R = 4 by rw [HOk.out, HPj.out, if_pos hb]; rfl)
        clear hb
        go_wp2_with fail
        go_ret
        exact ⟨by rw [HE.out]; rfl, HF3.out⟩
      | true =>
        replace HPj := hideP (HPj.out.trans (if_neg (by rw [hb]; decide)))
        clear hb
        go_wp2_with fail
        go_roundw
        case rel => exact ⟨j + 1, some k, by go_num, by omega, HPj.out, HZ3.out, HF3.out⟩
        case measure => simp [intOf]; omega
end Go.Proofs.Ytmemapfboefngaa
namespace Go.Proofs.Ytmemapfboefngaa
open Go.ChangeShapes Go.WideShapes Go.ChangeAt Go.RowKit
set_option linter.unusedVariables false
set_option linter.unusedSimpArgs false
set_option maxRecDepth 100000
set_option maxHeartbeats 2000000
namespace TK
def bad (x : Int) : Bool := decide (x < 2) || decide (4 < x)
theorem uE_step {below : Nat} {u : List Int} {us : List (List Int)} : uE below (u :: us) = if below < 2 then 1 else if u.any bad = true then 1 else if u.sum ≠ (below : Int) then 1 else uE u.length us := rfl
theorem any_step {u : List Int} {j : Nat} (h : j < u.length) (h1 : (u.take j).any bad = false) (h2 : bad u[j] = false) : (u.take (j + 1)).any bad = false := by
  rw [List.take_succ_eq_append_getElem h, List.any_append, h1, Bool.false_or]
  simp [h2]
theorem sum_step {u : List Int} {j : Nat} (h : j < u.length) : (u.take (j + 1)).sum = (u.take j).sum + u[j] := by
  rw [List.take_succ_eq_append_getElem h, List.sum_append]
  simp
end TK
theorem checkUp_any (p q : Value) (L : List (List TK.Pr)) (U : List (List Int)) (w : World) (h : IsT w p q L U) (hL : L.length ≤ 1000000) (hU : U.length ≤ 9223372036854775806) (hR : ∀ u ∈ U, u.length ≤ 17592186044416) :
    Calls Try.prog 35 #[.agg #[p, q]] w fun e w' => e = .returned (.int .i64 ((TK.uE L.length U : Nat) : Int)) ∧ Fr w w' := by
  obtain ⟨pa, pc, rfl⟩ := h.l.slice
  obtain ⟨a, c, rfl⟩ := h.u.slice
  obtain ⟨qs, hq, _, hc, hcell, hrow⟩ := h.u.at
  have HCe := hideP hcell
  have HRo := hideP hrow
  have HLn := hideP hR
  clear hcell hrow h hR
  obtain ⟨R, hres⟩ : ∃ R, TK.uE L.length U = R := ⟨_, rfl⟩
  rw [hres]
  have HRes := hideP hres
  clear hres
  obtain ⟨b0, hb0⟩ : ∃ b, L.length = b := ⟨_, rfl⟩
  rw [hb0] at HRes hL ⊢
  have bb := Blk.new w #[.slice pa b0 pc, .slice a U.length c] 25
  have x0 := bb.cell 0 (u := .slice pa b0 pc) rfl
  have x1 := bb.cell 1 (u := .slice a U.length c) rfl
  have F0 := hideP ((Fr.refl w).alloc (.cells #[.slice pa b0 pc, .slice a U.length c] 25))
  clear bb hb0
  go_enter Try.func35, Try.ntmps35
  go_wp2_with fail
  clear x0 x1
  go_loopw [3, 5, 6, 8, 15] (fun bv _ _ _ iv wr => ∃ (i below : Nat), iv = .int .i64 i ∧ bv = .int .i64 (below : Int) ∧ i ≤ U.length ∧ R = TK.uE below (U.drop i) ∧ below ≤ 17592186044416 ∧ Fr w wr) (fun _ _ _ _ iv _ => U.length - (intOf iv).toNat)
  case atStart => exact ⟨0, b0, rfl, rfl, Nat.zero_le _, HRes.out.symm, by omega, F0.out⟩
  case round =>
    obtain ⟨i, below, rfl, rfl, hi, hRi, hbl, hfr⟩ := hrel
    by_cases hlt : i < U.length
    case neg =>
      obtain rfl : i = U.length := by omega
      have HE := hideP (show R = if 1 < below then 1 else 0 by rw [hRi, List.drop_length]; rfl)
      have F := hideP hfr
      clear hRi hfr
      by_cases h1 : 1 < below
      · have h1' : (1 : Int) < (below : Int) := by omega
        go_wp2_with fail
        go_ret
        exact ⟨by rw [HE.out, if_pos h1]; rfl, F.out⟩
      · have h1' : ¬ (1 : Int) < (below : Int) := by omega
        go_wp2_with fail
        go_ret
        exact ⟨by rw [HE.out, if_neg h1]; rfl, F.out⟩
    have hlt' : (i : Int) < (U.length : Int) := by omega
    obtain ⟨b, o, rfl, hbb, c0⟩ := HCe.out i (by omega)
    obtain ⟨h1, h2⟩ := HRo.out i (by omega) hlt
    have d0 := (Below.cell hfr (World.block_lt_of_cell? _ _ c0)).trans c0
    rw [List.drop_eq_getElem_cons hlt, TK.uE_step] at hRi
    have hr1 := HLn.out _ (List.getElem_mem hlt)
    generalize hrr : U[i] = r at *
    clear hrr
    generalize hrest : U.drop (i + 1) = rest at *
    have HRest := hideP hrest
    clear hrest
    obtain ⟨q, hqq⟩ : ∃ q, (qs[i]'(by omega)) = q := ⟨_, rfl⟩
    rw [hqq] at h1 h2 d0
    obtain ⟨qa, qn, qc⟩ := q
    simp only [Sq.v] at h1 h2 d0
    subst h2
    obtain ⟨qa', qc', e1, hcap, hat⟩ := h1
    simp only [Value.slice.injEq] at e1
    obtain ⟨rfl, _, rfl⟩ := e1
    have HAt := hideP hat
    have HF := hideP hfr
    have HRi := hideP hRi
    have HCa := hideP hcap
    clear hat hfr hRi hcap c0 hqq
    by_cases e2 : below < 2
    · have e2' : (below : Int) < 2 := by omega
      have HE := hideP (HRi.out.trans (if_pos e2))
      go_wp2_with fail
      go_ret
      exact ⟨by rw [HE.out]; rfl, HF.out⟩
    have e2' : ¬ (below : Int) < 2 := by omega
    replace HRi := hideP (HRi.out.trans (if_neg e2))
    go_wp2_with fail
    clear d0 e2'
    go_loopw [6, 8, 23] (fun av _ iv wr => ∃ (j : Nat) (s : Int), iv = .int .i64 j ∧ av = .int .i64 s ∧ j ≤ r.length ∧ (r.take j).any TK.bad = false ∧ s = (r.take j).sum ∧ (0 ≤ s ∧ s ≤ 4 * (j : Int)) ∧ Fr w wr) (fun _ _ iv _ => r.length - (intOf iv).toNat)
    case atStart => exact ⟨0, 0, rfl, rfl, Nat.zero_le _, rfl, rfl, by omega, HF.out⟩
    case round =>
      clear HF
      obtain ⟨j, s, rfl, rfl, hj, hany, hsum, hs, hfr⟩ := hrel
      by_cases hjl : j < r.length
      case neg =>
        obtain rfl : j = r.length := by omega
        rw [List.take_length] at hany hsum
        have HN := hideP (HRi.out.trans (if_neg (by rw [hany]; decide)))
        have HF2 := hideP hfr
        have HSum := hideP hsum
        clear hany hfr hsum
        by_cases es : s = (below : Int)
        · have HN2 := hideP (HN.out.trans (if_neg (by rw [← HSum.out, es]; simp)))
          subst es
          clear HN HSum
          go_wp2_with fail
          go_roundw
          case rel => exact ⟨i + 1, r.length, by go_num, rfl, by omega, by rw [HN2.out, HRest.out], by omega, HF2.out⟩
          case measure => simp [intOf]; omega
        · have HN2 := hideP (HN.out.trans (if_pos (by rw [← HSum.out]; exact es)))
          have es' : (s != (below : Int)) = true := by simpa using es
          clear HN HSum
          go_wp2_with fail
          go_ret
          exact ⟨by rw [HN2.out]; rfl, HF2.out⟩
      have hjl' : (j : Int) < (r.length : Int) := by omega
      obtain ⟨gb, go, rfl, hgb, hat⟩ : ∃ b o, qa = some ⟨b, o, none⟩ ∧ b < w.heap.size ∧ At cdZ w b o r := by
        rcases HAt.out with h | h
        · subst h; simp at hjl
        · exact h
      have c1 := hat.z1 j hjl
      have d1 := (Below.cell hfr (World.block_lt_of_cell? _ _ c1)).trans c1
      have hst := TK.sum_step hjl
      have hby : TK.bad r[j] = true → r.any TK.bad = true := fun hb => List.any_eq_true.2 ⟨r[j], List.getElem_mem _, hb⟩
      have han : TK.bad r[j] = false → (r.take (j + 1)).any TK.bad = false := TK.any_step hjl hany
      generalize hx : r[j] = x at *
      clear c1 hat hany
      have HBy := hideP hby
      have HAn := hideP han
      have HSt := hideP (show s + x = (r.take (j + 1)).sum by rw [hst, hsum])
      have HF2 := hideP hfr
      clear hby han hst hsum hfr hx
      by_cases g1 : x < 2
      · have HE := hideP (HRi.out.trans (if_pos (HBy.out (by unfold TK.bad; simp [g1]))))
        go_wp2_with fail
        go_ret
        exact ⟨by rw [HE.out]; rfl, HF2.out⟩
      by_cases g2 : 4 < x
      · have HE := hideP (HRi.out.trans (if_pos (HBy.out (by unfold TK.bad; simp [g2]))))
        go_wp2_with fail
        go_ret
        exact ⟨by rw [HE.out]; rfl, HF2.out⟩
      have HAn2 := hideP (HAn.out (by unfold TK.bad; simp [g1, g2]))
      have hb1 : 0 ≤ s + x ∧ s + x ≤ 4 * ((j : Int) + 1) := by omega
      go_wp2_with fail
      go_roundw
      case rel => exact ⟨j + 1, s + x, by go_num, by go_num, by omega, HAn2.out, HSt.out, by omega, HF2.out⟩
      case measure => simp [intOf]; omega
end Go.Proofs.Ytmemapfboefngaa
