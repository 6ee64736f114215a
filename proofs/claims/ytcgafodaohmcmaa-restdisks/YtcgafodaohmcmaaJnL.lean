/-
  Disks and stores as lists of pages, with the errors: plain functions, and how they go with those on all pages.
-/
import Derived.Test.YtcgafodaohmcmaaJnM
set_option linter.unusedVariables false
namespace Go.Proofs.Ytcgafodaohmcmaa
namespace JN
abbrev B := ByteArray
abbrev bl : B := ByteArray.empty
structure W where
  no : Int
  t : B
structure D where
  pg : List B
  wt : List W
def none : D := ⟨[], []⟩
def wchk : List W → Nat
  | [] => 0
  | w :: l => if w.no < 0 ∨ 31 < w.no then 3 else if 260 < w.t.size then 2 else wchk l
/-- is the last page blank? -/
def blankEnd (l : List B) : Bool := match l.getLast? with | .none => false | .some p => p.size == 0
def dchk (d : D) : Nat :=
  if 32 < d.pg.length then 2 else if d.pg.any (fun p => decide (260 < p.size)) then 2 else if blankEnd d.pg then 1
  else if 48 < d.wt.length then 2 else wchk d.wt
def fn (l : List B) : Pg B := fun n => l.getD n bl
def wn (w : W) : Wr B := (w.no.toNat, w.t)
def fnD (d : D) : Dk B := ⟨fn d.pg, d.wt.map wn⟩

/-- blank pages behind the last one are dropped -/
def trim : List B → List B
  | [] => []
  | p :: l => match trim l with
    | [] => if p.size = 0 then [] else [p]
    | q :: r => p :: q :: r
theorem size0 {p : B} (h : p.size = 0) : p = bl := by
  have : p.data.size = 0 := h
  simpa using this
theorem fn_trim : ∀ (l : List B), fn (trim l) = fn l
  | [] => rfl
  | p :: l => by
    have ih := fn_trim l
    funext n
    rw [trim]
    split
    · rename_i e
      rw [e] at ih
      cases n with
      | zero =>
        by_cases h : p.size = 0
        · simp [fn, size0 h]
        · simp [fn, h]
      | succ n =>
        have := congrFun ih n
        by_cases h : p.size = 0
        · simpa [fn, h] using this
        · simpa [fn, h] using this
    · rename_i q r e
      rw [e] at ih
      cases n with
      | zero => simp [fn]
      | succ n => simpa [fn] using congrFun ih n
theorem trim_len : ∀ (l : List B), (trim l).length ≤ l.length
  | [] => Nat.le_refl _
  | p :: l => by
    have ih := trim_len l
    rw [trim]; split
    · split <;> simp
    · rename_i q r e; rw [e] at ih; simpa using ih
theorem trim_mem {p : B} : ∀ (l : List B), p ∈ trim l → p ∈ l
  | [], h => h
  | q :: l, h => by
    have ih := trim_mem (p := p) l
    rw [trim] at h; split at h
    · split at h <;> simp_all
    · rename_i e; rw [e] at ih
      simp only [List.mem_cons] at h ih ⊢
      rcases h with h | h
      · exact .inl h
      · exact .inr (ih h)
theorem blank_cons (p q : B) (l : List B) : blankEnd (p :: q :: l) = blankEnd (q :: l) := by simp [blankEnd, List.getLast?_cons_cons]
theorem trim_end : ∀ (l : List B), blankEnd (trim l) = false
  | [] => rfl
  | p :: l => by
    have ih := trim_end l
    rw [trim]; split
    · split
      · rfl
      · rename_i h
        show (p.size == 0) = false
        exact beq_false_of_ne h
    · rename_i q r e; rw [e] at ih; rw [blank_cons]; exact ih
theorem trim_id : ∀ (l : List B), blankEnd l = false → trim l = l
  | [], _ => rfl
  | [p], h => by
    have : ¬ p.size = 0 := by simpa [blankEnd] using h
    simp [trim, this]
  | p :: q :: l, h => by
    rw [blank_cons] at h
    rw [trim, trim_id (q :: l) h]
/-- two lists of pages without blank ends are one, if all pages are alike -/
theorem fn_inj : ∀ (a b : List B), blankEnd a = false → blankEnd b = false → fn a = fn b → a = b := by
  have empty : ∀ (l : List B), blankEnd l = false → (∀ n, fn l n = bl) → l = [] := by
    intro l hl h
    match hg : l.getLast? with
    | .none => exact List.getLast?_eq_none_iff.mp hg
    | .some p =>
      have hp : ¬ p.size = 0 := by simpa [blankEnd, hg] using hl
      have : fn l (l.length - 1) = p := by
        rw [List.getLast?_eq_getElem?] at hg
        simp [fn, hg]
      rw [h] at this
      exact absurd (by rw [← this]; rfl) hp
  have tail : ∀ (p : B) (l : List B), blankEnd (p :: l) = false → blankEnd l = false := by
    intro p l h
    cases l with
    | nil => rfl
    | cons q l => rwa [blank_cons] at h
  intro a
  induction a with
  | nil => intro b _ hb h; exact (empty b hb fun n => by rw [← h]; simp [fn]).symm
  | cons p a ih =>
    intro b ha hb h
    cases b with
    | nil => exact empty _ ha fun n => by rw [h]; simp [fn]
    | cons q b =>
      have e0 : p = q := by simpa [fn] using congrFun h 0
      have e1 : a = b := ih b (tail p a ha) (tail q b hb) (funext fun n => by simpa [fn] using congrFun h (n + 1))
      rw [e0, e1]

def pagesOf (f : Pg B) : List B := trim ((List.range 32).map f)
theorem fn_pages (f : Pg B) (h : ∀ n, 32 ≤ n → f n = bl) : fn (pagesOf f) = f := by
  rw [pagesOf, fn_trim]
  funext n
  by_cases hn : n < 32
  · simp [fn, hn]
  · rw [h n (by omega)]; simp [fn, hn]

structure OkD (d : D) : Prop where
  len : d.pg.length ≤ 32
  size : ∀ p ∈ d.pg, p.size ≤ 260
  last : blankEnd d.pg = false
  many : d.wt.length ≤ 48
  each : ∀ w ∈ d.wt, (0 ≤ w.no ∧ w.no ≤ 31) ∧ w.t.size ≤ 260
theorem wchk_ok : ∀ (l : List W), wchk l = 0 ↔ ∀ w ∈ l, (0 ≤ w.no ∧ w.no ≤ 31) ∧ w.t.size ≤ 260
  | [] => by simp [wchk]
  | w :: l => by
    have ih := wchk_ok l
    rw [wchk]
    by_cases h1 : w.no < 0 ∨ 31 < w.no
    · rw [if_pos h1]
      constructor
      · intro h; omega
      · intro h; have := (h w (by simp)).1; omega
    · rw [if_neg h1]
      by_cases h2 : 260 < w.t.size
      · rw [if_pos h2]
        constructor
        · intro h; omega
        · intro h; have := (h w (by simp)).2; omega
      · rw [if_neg h2, ih]
        simp only [List.mem_cons, forall_eq_or_imp]
        constructor
        · intro h; exact ⟨⟨by omega, by omega⟩, h⟩
        · intro h; exact h.2
theorem dchk_ok (d : D) : dchk d = 0 ↔ OkD d := by
  rw [dchk]
  constructor
  · intro h
    split at h
    · omega
    split at h
    · omega
    split at h
    · omega
    split at h
    · omega
    rename_i a b c e
    exact ⟨by omega, by simpa using b, by simpa using c, by omega, (wchk_ok _).mp h⟩
  · rintro ⟨h1, h2, h3, h4, h5⟩
    rw [if_neg (by omega), if_neg (by simpa using h2), if_neg (by simp [h3]), if_neg (by omega)]
    exact (wchk_ok _).mpr h5
theorem ok_none : OkD none := ⟨by simp [none], by simp [none], rfl, by simp [none], by simp [none]⟩

def crashD (d : D) (m : Nat → Bool) : D × Nat :=
  if dchk d = 0 then (⟨pagesOf (land (fn d.pg) (d.wt.map wn) m), []⟩, 0) else (none, dchk d)
def readD (d : D) (n : Int) : B × Nat :=
  if dchk d = 0 then if n < 0 ∨ 31 < n then (bl, 3) else (land (fn d.pg) (d.wt.map wn) all n.toNat, 0) else (bl, dchk d)
def writeD (d : D) (n : Int) (t : B) : D × Nat :=
  if dchk d = 0 then if n < 0 ∨ 31 < n then (none, 3) else if 260 < t.size ∨ d.wt.length = 48 then (none, 2)
    else (⟨d.pg, d.wt ++ [⟨n, t⟩]⟩, 0) else (none, dchk d)

theorem nos_ok {l : List W} (h : ∀ w ∈ l, (0 ≤ w.no ∧ w.no ≤ 31) ∧ w.t.size ≤ 260) {n : Nat} (hn : 32 ≤ n) : n ∉ nos (l.map wn) := by
  simp only [nos, List.map_map, List.mem_map, not_exists, not_and]
  intro w hw e
  have := (h w hw).1
  simp only [Function.comp, wn] at e
  omega
theorem land_all (P : B → Prop) : ∀ (l : List (Wr B)) (p : Pg B) (m : Nat → Bool), (∀ n, P (p n)) → (∀ w ∈ l, P w.2) → ∀ n, P (land p l m n)
  | [], p, _, hp, _, n => hp n
  | w :: l, p, m, hp, hl, n => by
    rw [land]
    refine land_all P l _ _ (fun i => ?_) (fun x hx => hl x (by simp [hx])) n
    by_cases h : m 0
    · by_cases e : i = w.1
      · simpa [h, upd, e] using hl w (by simp)
      · simpa [h, upd, e] using hp i
    · simpa [h] using hp i
theorem fn_size {l : List B} (h : ∀ p ∈ l, p.size ≤ 260) (n : Nat) : (fn l n).size ≤ 260 := by
  rw [fn, List.getD_eq_getElem?_getD]
  cases e : l[n]? with
  | none => simp
  | some p => simpa using h p (List.mem_of_getElem? e)
theorem crash_ok {d : D} (h : OkD d) (m : Nat → Bool) :
    (crashD d m).2 = 0 ∧ OkD (crashD d m).1 ∧ (crashD d m).1.wt = [] ∧ fnD (crashD d m).1 = (fnD d).crash m := by
  have hc : dchk d = 0 := (dchk_ok d).mpr h
  have e : crashD d m = (⟨pagesOf (land (fn d.pg) (d.wt.map wn) m), []⟩, 0) := by rw [crashD, if_pos hc]
  rw [e]
  have hs : ∀ n, (land (fn d.pg) (d.wt.map wn) m n).size ≤ 260 :=
    land_all (fun p => p.size ≤ 260) _ _ _ (fn_size h.size) (by
      intro w hw
      obtain ⟨x, hx, rfl⟩ := List.mem_map.mp hw
      exact (h.each x hx).2)
  refine ⟨rfl, ⟨?_, ?_, trim_end _, by simp, by simp⟩, rfl, ?_⟩
  · exact Nat.le_trans (trim_len _) (by simp)
  · intro p hp
    obtain ⟨n, _, rfl⟩ := List.mem_map.mp (trim_mem _ hp)
    exact hs n
  · simp only [fnD, Dk.crash, List.map_nil]
    rw [fn_pages]
    intro n hn
    rw [land_out _ _ _ (nos_ok h.each hn)]
    have := h.len
    rw [fn, List.getD_eq_getElem?_getD, List.getElem?_eq_none (by omega)]; rfl
theorem write_ok {d : D} (h : OkD d) {n : Int} {t : B} (hn : 0 ≤ n ∧ n ≤ 31) (ht : t.size ≤ 260) (hw : d.wt.length < 48) :
    writeD d n t = (⟨d.pg, d.wt ++ [⟨n, t⟩]⟩, 0) ∧ OkD ⟨d.pg, d.wt ++ [⟨n, t⟩]⟩ ∧
      fnD ⟨d.pg, d.wt ++ [⟨n, t⟩]⟩ = (fnD d).write n.toNat t := by
  refine ⟨?_, ⟨h.len, h.size, h.last, by simp; omega, ?_⟩, by simp [fnD, Dk.write, wn]⟩
  · rw [writeD, if_pos ((dchk_ok d).mpr h), if_neg (by omega), if_neg (by omega)]
  · intro w hw
    simp only [List.mem_append, List.mem_singleton] at hw
    rcases hw with hw | rfl
    · exact h.each w hw
    · exact ⟨hn, ht⟩
theorem write_err {d : D} {n : Int} {t : B} (h : (writeD d n t).2 = 0) :
    OkD d ∧ (0 ≤ n ∧ n ≤ 31) ∧ t.size ≤ 260 ∧ d.wt.length < 48 := by
  rw [writeD] at h
  split at h
  · rename_i hc
    have hd := (dchk_ok d).mp hc
    split at h
    · simp at h
    · split at h
      · simp at h
      · have := hd.many
        exact ⟨hd, by omega, by omega, by omega⟩
  · rename_i hc; exact absurd h hc
/-- two disks at rest are one, if all pages are alike -/
theorem disk_inj {a b : D} (ha : OkD a) (hb : OkD b) (wa : a.wt = []) (wb : b.wt = []) (h : fnD a = fnD b) : a = b := by
  obtain ⟨p, v⟩ := a
  obtain ⟨q, w⟩ := b
  simp only at wa wb
  subst wa; subst wb
  have : fn p = fn q := congrArg Dk.pg h
  rw [fn_inj p q ha.last hb.last this]

/-! what O2 and O3 say -/
theorem disk_reads {d : D} {n : Int} {t : B} (h : (writeD d n t).2 = 0) :
    (crashD (writeD d n t).1 all).2 = 0 ∧ (crashD (writeD d n t).1 all).1.wt = [] ∧
    (∀ k : Int, readD (writeD d n t).1 k = readD (crashD (writeD d n t).1 all).1 k) ∧
    readD (writeD d n t).1 n = (t, 0) ∧ (∀ k : Int, (readD (writeD d n t).1 k).2 = (readD d k).2) ∧
    ∀ k : Int, k ≠ n → readD (writeD d n t).1 k = readD d k := by
  obtain ⟨hd, hn, ht, hw⟩ := write_err h
  obtain ⟨e, ho, hf⟩ := write_ok hd hn ht hw
  rw [e]
  obtain ⟨c1, c2, c3, c4⟩ := crash_ok ho all
  have hc := (dchk_ok d).mpr hd
  have hc1 := (dchk_ok _).mpr ho
  have hc2 := (dchk_ok _).mpr c2
  have land1 : land (fn d.pg) ((d.wt ++ [(⟨n, t⟩ : W)]).map wn) all = upd (land (fn d.pg) (d.wt.map wn) all) n.toNat t := by
    rw [List.map_append, land_append]; simp [land, wn, all]
  refine ⟨c1, c3, fun k => ?_, ?_, fun k => ?_, fun k hk => ?_⟩
  · rw [readD, if_pos hc1, readD, if_pos hc2]
    split
    · rfl
    · have : fn (crashD ⟨d.pg, d.wt ++ [⟨n, t⟩]⟩ all).1.pg = land (fn d.pg) ((d.wt ++ [(⟨n, t⟩ : W)]).map wn) all := congrArg Dk.pg c4
      rw [c3, this]; simp [land]
  · rw [readD, if_pos hc1, if_neg (by omega), land1]; simp [upd]
  · rw [readD, if_pos hc1, readD, if_pos hc]; split <;> rfl
  · rw [readD, if_pos hc1, readD, if_pos hc]
    split
    · rfl
    · rw [land1, upd, if_neg (by omega)]
theorem disk_good {d : D} (h : (crashD d all).2 = 0) (m : Nat → Bool) :
    crashD (crashD d all).1 m = ((crashD d all).1, 0) ∧ (crashD d fun _ => false) = (⟨d.pg, []⟩, 0) := by
  have hc : dchk d = 0 := by
    rw [crashD] at h; split at h
    · assumption
    · exact h
  have hd := (dchk_ok d).mp hc
  obtain ⟨c1, c2, c3, c4⟩ := crash_ok hd all
  obtain ⟨d1, d2, d3, d4⟩ := crash_ok c2 m
  obtain ⟨g1, g2, g3, g4⟩ := crash_ok hd (fun _ => false)
  have none_ : ∀ (l : List (Wr B)) (p : Pg B), land p l (fun _ => false) = p := by
    intro l; induction l with
    | nil => intro p; rfl
    | cons w l ih => intro p; exact ih p
  constructor
  · refine Prod.ext (disk_inj d2 c2 d3 c3 ?_) d1
    rw [d4]
    simp [Dk.crash, fnD, c3, land]
  · refine Prod.ext (disk_inj g2 ⟨hd.len, hd.size, hd.last, by simp, by simp⟩ g3 rfl ?_) g1
    rw [g4]
    simp [Dk.crash, fnD, none_]
theorem land_either {n : Nat} : ∀ (l : List (Wr B)) (p : Pg B) (m : Nat → Bool), land p l m n = p n ∨ ∃ w ∈ l, w.1 = n ∧ w.2 = land p l m n
  | [], p, _ => .inl rfl
  | w :: l, p, m => by
    rw [land]
    rcases land_either l (if m 0 then upd p w.1 w.2 else p) (fun i => m (i + 1)) (n := n) with h | ⟨x, hx, h⟩
    · by_cases hm : m 0
      · by_cases e : n = w.1
        · right; refine ⟨w, by simp, e.symm, ?_⟩; rw [h]; simp [hm, upd, e]
        · left; rw [h]; simp [hm, upd, e]
      · left; rw [h]; simp [hm]
    · exact .inr ⟨x, by simp [hx], h⟩
end JN
end Go.Proofs.Ytcgafodaohmcmaa
