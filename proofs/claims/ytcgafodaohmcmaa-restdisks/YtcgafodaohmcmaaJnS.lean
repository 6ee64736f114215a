/-
  Stores as lists of pages, with the errors: steps, playing, undoing; all or nothing.
-/
import Derived.Test.YtcgafodaohmcmaaJnL
set_option linter.unusedVariables false
set_option linter.unusedSimpArgs false
namespace Go.Proofs.Ytcgafodaohmcmaa
namespace JN
structure S where
  da : D
  jo : D
structure O where
  kind : Int
  no : Int
  t : B
def noneS : S := ⟨none, none⟩
def bs (p : B) : List UInt8 := p.data.toList
def hotB (p : B) : Bool := (bs p).head? == some 74
def countB (p : B) : Nat := ((bs p).getD 1 0).toNat
def headB (n : Nat) : B := ⟨#[74, n.toUInt8]⟩
def encB (n : Nat) (t : B) : B := ⟨#[(n / 256).toUInt8, n.toUInt8]⟩ ++ t
def decB (p : B) : Wr B := (((bs p).getD 1 0).toNat, p.extract 2 p.size)
def dashB : B := ⟨#[45]⟩
abbrev okhB (p : B) : Prop := p.size = 2 ∧ countB p ≤ 31
abbrev okeB (p : B) : Prop := 2 ≤ p.size ∧ (bs p).getD 0 0 = 0 ∧ ((bs p).getD 1 0).toNat ≤ 31
def cB : Code B where
  hot := hotB
  head := headB
  count := countB
  enc := encB
  dec := decB
  dash := dashB
  okh := okhB
  oke := okeB
  hot_head := fun n => by simp [hotB, bs, headB]
  hot_dash := by simp [hotB, bs, dashB]
theorem count_head {n : Nat} (h : n ≤ 31) : countB (headB n) = n := by
  simp [countB, headB, bs]; omega
theorem okh_head {n : Nat} (h : n ≤ 31) : okhB (headB n) := ⟨rfl, by rw [count_head h]; exact h⟩
theorem bs_enc (n : Nat) (t : B) : bs (encB n t) = (n / 256).toUInt8 :: n.toUInt8 :: bs t := by
  simp [bs, encB]
theorem size_enc (n : Nat) (t : B) : (encB n t).size = 2 + t.size := by
  have : (encB n t).size = (bs (encB n t)).length := by simp [bs]
  rw [this, bs_enc]; simp [bs]; omega
theorem dec_enc {n : Nat} (h : n ≤ 31) (t : B) : decB (encB n t) = (n, t) := by
  refine Prod.ext ?_ ?_
  · simp only [decB, bs_enc]; simp; omega
  · simp only [decB]
    apply ByteArray.ext
    apply Array.toList_inj.mp
    have e : (encB n t).data.toList = (n / 256).toUInt8 :: n.toUInt8 :: bs t := bs_enc n t
    rw [size_enc, ByteArray.data_extract, Array.toList_extract, e]
    simp [List.extract, bs]
    exact List.take_of_length_le (by simp)
theorem oke_enc {n : Nat} (h : n ≤ 31) (t : B) : okeB (encB n t) := by
  refine ⟨by rw [size_enc]; omega, ?_, ?_⟩
  · simp only [bs_enc]; rw [show n / 256 = 0 by omega]; rfl
  · simp only [bs_enc]; simp; omega

def schk (s : S) : Nat := if dchk s.da = 0 then dchk s.jo else dchk s.da
structure OkS (s : S) : Prop where
  da : OkD s.da
  jo : OkD s.jo
theorem schk_ok (s : S) : schk s = 0 ↔ OkS s := by
  rw [schk]
  constructor
  · intro h; split at h
    · exact ⟨(dchk_ok _).mp ‹_›, (dchk_ok _).mp h⟩
    · exact absurd h ‹_›
  · intro h; rw [if_pos ((dchk_ok _).mpr h.da)]; exact (dchk_ok _).mpr h.jo
def fnS (s : S) : St B := ⟨fnD s.da, fnD s.jo⟩
def hotS (s : S) : Bool := hotB (land (fn s.jo.pg) (s.jo.wt.map wn) all 0)
def opS (s : S) (o : O) : S × Nat :=
  if o.kind = 1 then (⟨(writeD s.da o.no o.t).1, s.jo⟩, (writeD s.da o.no o.t).2)
  else if o.kind = 2 then (⟨s.da, (writeD s.jo o.no o.t).1⟩, (writeD s.jo o.no o.t).2)
  else if o.kind = 3 then (⟨(crashD s.da all).1, s.jo⟩, (crashD s.da all).2)
  else if o.kind = 4 then (⟨s.da, (crashD s.jo all).1⟩, (crashD s.jo all).2)
  else (s, 7)
def playO : S → List O → S × Nat
  | s, [] => (s, 0)
  | s, o :: l => if (opS s o).2 = 0 then playO (opS s o).1 l else (noneS, (opS s o).2)
def playS (s : S) (l : List O) : S × Nat :=
  if schk s = 0 then if 100 < l.length then (noneS, 2) else playO s l else (noneS, schk s)
def fnO (o : O) : Op B :=
  if o.kind = 1 then .data o.no.toNat o.t else if o.kind = 2 then .jour o.no.toNat o.t else if o.kind = 3 then .syncD else .syncJ
def okO (o : O) : Prop := (1 ≤ o.kind ∧ o.kind ≤ 4) ∧ (o.kind ≤ 2 → (0 ≤ o.no ∧ o.no ≤ 31) ∧ o.t.size ≤ 260)
def cnt (k : Int) (l : List O) : Nat := l.countP fun o => o.kind == k

theorem crash_err {d : D} {m : Nat → Bool} (h : (crashD d m).2 = 0) : OkD d := by
  rw [crashD] at h
  split at h
  · exact (dchk_ok d).mp ‹_›
  · exact absurd h ‹_›
theorem op_ok {s : S} {o : O} (hs : OkS s) (h : (opS s o).2 = 0) : OkS (opS s o).1 ∧ fnS (opS s o).1 = one (fnS s) (fnO o) := by
  revert h
  unfold opS fnO
  split
  · intro h
    obtain ⟨_, a, b, c⟩ := write_err h
    obtain ⟨e, f, g⟩ := write_ok hs.da a b c
    rw [e]; exact ⟨⟨f, hs.jo⟩, by simp only [fnS, one, g]⟩
  split
  · intro h
    obtain ⟨_, a, b, c⟩ := write_err h
    obtain ⟨e, f, g⟩ := write_ok hs.jo a b c
    rw [e]; exact ⟨⟨hs.da, f⟩, by simp only [fnS, one, g]⟩
  split
  · intro h
    obtain ⟨_, a, b, c⟩ := crash_ok hs.da all
    exact ⟨⟨a, hs.jo⟩, by simp only [fnS, one, c]⟩
  split
  · intro h
    obtain ⟨_, a, b, c⟩ := crash_ok hs.jo all
    exact ⟨⟨hs.da, a⟩, by simp only [fnS, one, c]⟩
  · intro h; simp at h
theorem play_fine : ∀ (l : List O) {s : S}, OkS s → (playO s l).2 = 0 → OkS (playO s l).1 ∧ fnS (playO s l).1 = play (fnS s) (l.map fnO)
  | [], s, hs, _ => ⟨hs, rfl⟩
  | o :: l, s, hs, h => by
    rw [playO] at h ⊢
    by_cases e : (opS s o).2 = 0
    · rw [if_pos e] at h ⊢
      obtain ⟨a, b⟩ := op_ok hs e
      obtain ⟨c, d⟩ := play_fine l a h
      exact ⟨c, by rw [d, b]; rfl⟩
    · rw [if_neg e] at h; exact absurd h e
theorem playO_append : ∀ (a b : List O) (s : S), (playO s (a ++ b)).2 = 0 →
    (playO s a).2 = 0 ∧ playO (playO s a).1 b = playO s (a ++ b)
  | [], _, _, h => ⟨rfl, rfl⟩
  | o :: a, b, s, h => by
    rw [List.cons_append, playO] at h
    rw [List.cons_append, playO, playO]
    by_cases e : (opS s o).2 = 0
    · rw [if_pos e] at h
      simp only [if_pos e]
      exact playO_append a b _ h
    · rw [if_neg e] at h; exact absurd h e
theorem cnt_cons (k : Int) (o : O) (l : List O) : cnt k (o :: l) = cnt k l + if o.kind = k then 1 else 0 := by
  simp [cnt, List.countP_cons]
theorem play_goes : ∀ (l : List O) {s : S}, OkS s → (∀ o ∈ l, okO o) → s.da.wt.length + cnt 1 l ≤ 48 → s.jo.wt.length + cnt 2 l ≤ 48 →
    (playO s l).2 = 0
  | [], s, _, _, _, _ => rfl
  | o :: l, s, hs, ho, h1, h2 => by
    rw [cnt_cons] at h1 h2
    have hk := ho o (by simp)
    have go : (opS s o).2 = 0 ∧ (opS s o).1.da.wt.length ≤ s.da.wt.length + (if o.kind = 1 then 1 else 0) ∧
        (opS s o).1.jo.wt.length ≤ s.jo.wt.length + (if o.kind = 2 then 1 else 0) := by
      unfold opS
      by_cases e1 : o.kind = 1
      · obtain ⟨a, b⟩ := hk.2 (by omega)
        rw [if_pos e1] at h1
        obtain ⟨e, _, _⟩ := write_ok hs.da a b (by omega)
        simp [e1, e]
      by_cases e2 : o.kind = 2
      · obtain ⟨a, b⟩ := hk.2 (by omega)
        rw [if_pos e2] at h2
        obtain ⟨e, _, _⟩ := write_ok hs.jo a b (by omega)
        simp [e1, e2, e]
      by_cases e3 : o.kind = 3
      · obtain ⟨a, _, b, _⟩ := crash_ok hs.da all
        simp [e3, a, b]
      have e4 : o.kind = 4 := by have := hk.1; omega
      obtain ⟨a, _, b, _⟩ := crash_ok hs.jo all
      simp [e4, a, b]
    rw [playO, if_pos go.1]
    exact play_goes l (op_ok hs go.1).1 (fun x hx => ho x (by simp [hx])) (by omega) (by omega)
theorem playS_goes {l : List O} {s : S} (hs : OkS s) (ho : ∀ o ∈ l, okO o) (h1 : s.da.wt.length + cnt 1 l ≤ 48)
    (h2 : s.jo.wt.length + cnt 2 l ≤ 48) (hl : l.length ≤ 100) :
    (playS s l).2 = 0 ∧ OkS (playS s l).1 ∧ fnS (playS s l).1 = play (fnS s) (l.map fnO) := by
  have e : playS s l = playO s l := by rw [playS, if_pos ((schk_ok s).mpr hs), if_neg (by omega)]
  rw [e]
  have := play_goes l hs ho h1 h2
  exact ⟨this, play_fine l hs this⟩
theorem playS_err {s : S} {l : List O} (h : (playS s l).2 = 0) : OkS s ∧ l.length ≤ 100 ∧ playS s l = playO s l := by
  unfold playS at h ⊢
  by_cases a : schk s = 0
  · rw [if_pos a] at h ⊢
    by_cases b : 100 < l.length
    · rw [if_pos b] at h; simp at h
    · rw [if_neg b] at h ⊢; exact ⟨(schk_ok s).mp a, by omega, rfl⟩
  · rw [if_neg a] at h; exact absurd h a
/-- ops in two parts -/
theorem play_parts {s : S} {l : List O} (h : (playS s l).2 = 0) (k : Nat) :
    (playS s (l.take k)).2 = 0 ∧ playS (playS s (l.take k)).1 (l.drop k) = playS s l := by
  obtain ⟨hs, hl, e⟩ := playS_err h
  rw [e] at h ⊢
  have h' := h
  rw [← List.take_append_drop k l] at h'
  obtain ⟨a, b⟩ := playO_append _ _ s h'
  rw [List.take_append_drop] at b
  have hk : (l.take k).length ≤ 100 := by rw [List.length_take]; omega
  have e1 : playS s (l.take k) = playO s (l.take k) := by rw [playS, if_pos ((schk_ok s).mpr hs), if_neg (by omega)]
  rw [e1]
  refine ⟨a, ?_⟩
  rw [← b, playS, if_pos ((schk_ok _).mpr (play_fine _ hs a).1), if_neg (by rw [List.length_drop]; omega)]

def endsO : List O := [⟨3, 0, bl⟩, ⟨2, 0, dashB⟩, ⟨4, 0, bl⟩]
def savedO (o : Pg B) : Nat → List W → List O
  | _, [] => []
  | i, w :: l => ⟨2, i, encB w.no.toNat (o w.no.toNat)⟩ :: savedO o (i + 1) l
def dataO (l : List W) : List O := l.map fun w => ⟨1, w.no, w.t⟩
def stepsO (s : S) (l : List W) : List O :=
  savedO (fn s.da.pg) 1 l ++ ([⟨4, 0, bl⟩, ⟨2, 0, headB l.length⟩, ⟨4, 0, bl⟩] ++ (dataO l ++ endsO))
def eachW (o : Pg B) : List W → List W → Nat
  | _, [] => 0
  | before, w :: l => if w.no < 0 ∨ 31 < w.no then 3 else if 256 < w.t.size then 2
    else if before.any (fun x => x.no == w.no) then 6 else if 256 < (o w.no.toNat).size then 2 else eachW o (before ++ [w]) l
def stepsChk (s : S) (l : List W) : Nat :=
  if schk s = 0 then if s.da.wt ≠ [] ∨ s.jo.wt ≠ [] ∨ hotS s = true then 4 else if 31 < l.length then 2 else eachW (fn s.da.pg) [] l
  else schk s
def stepsS (s : S) (l : List W) : List O × Nat := if stepsChk s l = 0 then (stepsO s l, 0) else ([], stepsChk s l)
theorem eachW_ok (o : Pg B) : ∀ (l before : List W), eachW o before l = 0 →
    ∀ w ∈ l, (0 ≤ w.no ∧ w.no ≤ 31) ∧ w.t.size ≤ 256 ∧ (o w.no.toNat).size ≤ 256
  | [], _, _ => by simp
  | w :: l, before, h => by
    rw [eachW] at h
    split at h
    · simp at h
    split at h
    · simp at h
    split at h
    · simp at h
    split at h
    · simp at h
    have := eachW_ok o l _ h
    simp only [List.mem_cons, forall_eq_or_imp]
    exact ⟨⟨by omega, by omega, by omega⟩, this⟩
structure CanStep (s : S) (l : List W) : Prop where
  ok : OkS s
  da : s.da.wt = []
  jo : s.jo.wt = []
  cold : hotB (fn s.jo.pg 0) = false
  many : l.length ≤ 31
  each : ∀ w ∈ l, (0 ≤ w.no ∧ w.no ≤ 31) ∧ w.t.size ≤ 256 ∧ (fn s.da.pg w.no.toNat).size ≤ 256
theorem steps_can {s : S} {l : List W} (h : (stepsS s l).2 = 0) : (stepsS s l).1 = stepsO s l ∧ CanStep s l := by
  have hc : stepsChk s l = 0 := by
    rw [stepsS] at h
    split at h
    · assumption
    · exact h
  refine ⟨by rw [stepsS, if_pos hc], ?_⟩
  rw [stepsChk] at hc
  split at hc
  · split at hc
    · simp at hc
    split at hc
    · simp at hc
    rename_i a b c
    simp only [ne_eq, not_or, Decidable.not_not, Bool.not_eq_true] at b
    obtain ⟨b1, b2, b3⟩ := b
    refine ⟨(schk_ok s).mp a, b1, b2, ?_, by omega, eachW_ok _ _ _ hc⟩
    simpa [hotS, b2, land] using b3
  · rename_i a; exact absurd hc a
theorem savedO_fn (o : Pg B) : ∀ (i : Nat) (l : List W), (savedO o i l).map fnO = (saved cB o i (l.map wn)).map fun w => Op.jour w.1 w.2
  | _, [] => rfl
  | i, w :: l => by
    simp only [savedO, List.map_cons, saved, savedO_fn o (i + 1) l]
    simp [fnO, wn, cB]
theorem dataO_fn (l : List W) : (dataO l).map fnO = (l.map wn).map fun w => Op.data w.1 w.2 := by
  simp [dataO, fnO, wn, List.map_map, Function.comp_def]
theorem endsO_fn : endsO.map fnO = ends cB := by simp [endsO, fnO, ends, cB]
theorem stepsO_fn (s : S) (l : List W) : (stepsO s l).map fnO = steps cB (fnS s) (l.map wn) := by
  simp only [stepsO, List.map_append, savedO_fn, dataO_fn, endsO_fn, steps, List.length_map]
  simp [fnO, fnS, fnD, cB]
theorem savedO_ok (o : Pg B) : ∀ (i : Nat) (l : List W), i + l.length ≤ 32 → (∀ w ∈ l, (o w.no.toNat).size ≤ 256) →
    (∀ x ∈ savedO o i l, okO x) ∧ cnt 1 (savedO o i l) = 0 ∧ cnt 2 (savedO o i l) = l.length ∧ (savedO o i l).length = l.length
  | _, [], _, _ => by simp [savedO, cnt]
  | i, w :: l, hi, hl => by
    simp only [List.length_cons] at hi
    obtain ⟨a, b, c, d⟩ := savedO_ok o (i + 1) l (by omega) fun x hx => hl x (by simp [hx])
    refine ⟨?_, by simp [savedO, cnt_cons, b], by simp [savedO, cnt_cons, c], by simp [savedO, d]⟩
    intro x hx
    simp only [savedO, List.mem_cons] at hx
    rcases hx with rfl | hx
    · refine ⟨by simp, fun _ => ⟨by simp only; omega, ?_⟩⟩
      simp only [size_enc]
      have := hl w (by simp); omega
    · exact a x hx
theorem dataO_ok {l : List W} (h : ∀ w ∈ l, (0 ≤ w.no ∧ w.no ≤ 31) ∧ w.t.size ≤ 260) :
    (∀ x ∈ dataO l, okO x) ∧ cnt 1 (dataO l) = l.length ∧ cnt 2 (dataO l) = 0 ∧ (dataO l).length = l.length := by
  refine ⟨?_, ?_, ?_, by simp [dataO]⟩
  · intro x hx
    obtain ⟨w, hw, rfl⟩ := List.mem_map.mp hx
    exact ⟨by simp, fun _ => h w hw⟩
  · simp [cnt, dataO, List.countP_map, Function.comp_def]
  · simp [cnt, dataO, List.countP_map, Function.comp_def]
theorem cnt_append (k : Int) (a b : List O) : cnt k (a ++ b) = cnt k a + cnt k b := by simp [cnt]
theorem endsO_ok : (∀ x ∈ endsO, okO x) ∧ cnt 1 endsO = 0 ∧ cnt 2 endsO = 1 ∧ endsO.length = 3 := by
  refine ⟨?_, rfl, rfl, rfl⟩
  intro x hx
  simp only [endsO, List.mem_cons, List.not_mem_nil, or_false] at hx
  rcases hx with rfl | rfl | rfl <;> simp [okO, dashB, ByteArray.size]
theorem stepsO_ok {s : S} {l : List W} (h : CanStep s l) :
    (∀ x ∈ stepsO s l, okO x) ∧ cnt 1 (stepsO s l) = l.length ∧ cnt 2 (stepsO s l) = l.length + 2 ∧ (stepsO s l).length = 2 * l.length + 6 := by
  have hm := h.many
  obtain ⟨a1, a2, a3, a4⟩ := savedO_ok (fn s.da.pg) 1 l (by omega) fun w hw => (h.each w hw).2.2
  obtain ⟨b1, b2, b3, b4⟩ := dataO_ok (l := l) fun w hw => ⟨(h.each w hw).1, by have := (h.each w hw).2.1; omega⟩
  obtain ⟨c1, c2, c3, c4⟩ := endsO_ok
  refine ⟨?_, ?_, ?_, ?_⟩
  · intro x hx
    simp only [stepsO, List.mem_append, List.mem_cons, List.not_mem_nil, or_false] at hx
    rcases hx with hx | (rfl | rfl | rfl) | hx | hx
    · exact a1 x hx
    · simp [okO]
    · simp [okO, headB, ByteArray.size]
    · simp [okO]
    · exact b1 x hx
    · exact c1 x hx
  · simp only [stepsO, cnt_append, a2, b2, c2]; simp [cnt]
  · simp only [stepsO, cnt_append, a3, b3, c3]; simp [cnt]
  · simp only [stepsO, List.length_append, a4, b4, c4, List.length_cons, List.length_nil]; omega
theorem cnt_take (k : Int) (n : Nat) (l : List O) : cnt k (l.take n) ≤ cnt k l := by
  have : cnt k l = cnt k (l.take n) + cnt k (l.drop n) := by rw [← cnt_append, List.take_append_drop]
  omega
end JN
end Go.Proofs.Ytcgafodaohmcmaa
