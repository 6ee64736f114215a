/-
  Undoing and recovering, with the errors; what is promised of steps behind a crash.
-/
import Derived.Test.YtcgafodaohmcmaaJnS
set_option linter.unusedVariables false
set_option linter.unusedSimpArgs false
namespace Go.Proofs.Ytcgafodaohmcmaa
namespace JN
def undoD (j : Pg B) : List W := (List.range (countB (j 0))).map fun i => ⟨(decB (j (i + 1))).1, (decB (j (i + 1))).2⟩
def undoS (s : S) : List O × Nat :=
  if schk s = 0 then
    if s.da.wt ≠ [] ∨ s.jo.wt ≠ [] then ([], 4)
    else if hotS s = false then ([], 0)
    else if okhB (fn s.jo.pg 0) then
      if (List.range (countB (fn s.jo.pg 0))).all (fun i => decide (okeB (fn s.jo.pg (i + 1)))) then (dataO (undoD (fn s.jo.pg)) ++ endsO, 0) else ([], 1)
    else ([], 1)
  else ([], schk s)
def recS (s : S) : S × Nat := if (undoS s).2 = 0 then playS s (undoS s).1 else (noneS, (undoS s).2)
def rest (s : S) : Prop := s.da.wt = [] ∧ s.jo.wt = [] ∧ hotS s = false

structure CanUndo (s : S) : Prop where
  ok : OkS s
  da : s.da.wt = []
  jo : s.jo.wt = []
  form : hotB (fn s.jo.pg 0) = true → okhB (fn s.jo.pg 0) ∧ ∀ i, i < countB (fn s.jo.pg 0) → okeB (fn s.jo.pg (i + 1))
theorem hot_rest {s : S} (h : s.jo.wt = []) : hotS s = hotB (fn s.jo.pg 0) := by simp [hotS, h, land]
theorem undo_can {s : S} (h : (undoS s).2 = 0) : CanUndo s := by
  unfold undoS at h
  split at h
  · split at h
    · simp at h
    rename_i a b
    simp only [ne_eq, not_or, Decidable.not_not] at b
    refine ⟨(schk_ok s).mp a, b.1, b.2, ?_⟩
    rw [← hot_rest b.2]
    intro hh
    split at h
    · rename_i c; rw [c] at hh; simp at hh
    · split at h
      · split at h
        · rename_i c d e
          exact ⟨d, fun i hi => of_decide_eq_true (List.all_eq_true.mp e i (List.mem_range.mpr hi))⟩
        · simp at h
      · simp at h
  · rename_i a; exact absurd h a
theorem undo_is {s : S} (h : CanUndo s) : undoS s = (if hotB (fn s.jo.pg 0) = true then dataO (undoD (fn s.jo.pg)) ++ endsO else [], 0) := by
  rw [undoS, if_pos ((schk_ok s).mpr h.ok), if_neg (by simp [h.da, h.jo]), hot_rest h.jo]
  by_cases hh : hotB (fn s.jo.pg 0) = true
  · obtain ⟨a, b⟩ := h.form hh
    rw [if_neg (by simp [hh]), if_pos a, if_pos (List.all_eq_true.mpr fun i hi => decide_eq_true (b i (List.mem_range.mp hi))), if_pos hh]
  · rw [if_pos (by simpa using hh), if_neg hh]
theorem undo_fn {s : S} (h : CanUndo s) : (undoS s).1.map fnO = undo cB (fnS s) := by
  rw [undo_is h]
  show (if hotB (fn s.jo.pg 0) = true then dataO (undoD (fn s.jo.pg)) ++ endsO else []).map fnO =
    if hotB (fn s.jo.pg 0) = true then _ else _
  by_cases hh : hotB (fn s.jo.pg 0) = true
  · rw [if_pos hh, if_pos hh, List.map_append, dataO_fn, endsO_fn]
    congr 1
    simp [undoD, says, wn, fnS, fnD, cB, List.map_map, Function.comp_def]
  · rw [if_neg hh, if_neg hh]; rfl
theorem fn_le {d : D} (h : OkD d) (n : Nat) : (fn d.pg n).size ≤ 260 := fn_size h.size n
theorem undo_ok {s : S} (h : CanUndo s) : (∀ x ∈ (undoS s).1, okO x) ∧ cnt 1 (undoS s).1 ≤ 31 ∧ cnt 2 (undoS s).1 ≤ 1 ∧ (undoS s).1.length ≤ 34 := by
  rw [undo_is h]
  by_cases hh : hotB (fn s.jo.pg 0) = true
  · obtain ⟨a, b⟩ := h.form hh
    simp only [hh, if_true]
    have hl : (undoD (fn s.jo.pg)).length = countB (fn s.jo.pg 0) := by simp [undoD]
    obtain ⟨b1, b2, b3, b4⟩ := dataO_ok (l := undoD (fn s.jo.pg)) (by
      intro w hw
      obtain ⟨i, hi, rfl⟩ := List.mem_map.mp hw
      have hi' : i < countB (fn s.jo.pg 0) := by simpa using hi
      obtain ⟨_, _, e⟩ := b i hi'
      have := fn_le h.ok.jo (i + 1)
      simp only [decB, ByteArray.size_extract]
      omega)
    obtain ⟨c1, c2, c3, c4⟩ := endsO_ok
    have := a.2
    refine ⟨?_, by rw [cnt_append]; omega, by rw [cnt_append]; omega, by rw [List.length_append]; omega⟩
    intro x hx
    rcases List.mem_append.mp hx with hx | hx
    · exact b1 x hx
    · exact c1 x hx
  · simp [hh, cnt]
theorem undo_plays {s : S} (h : CanUndo s) (j : Nat) : (playS s ((undoS s).1.take j)).2 = 0 ∧ OkS (playS s ((undoS s).1.take j)).1 ∧
    fnS (playS s ((undoS s).1.take j)).1 = play (fnS s) ((undo cB (fnS s)).take j) := by
  obtain ⟨a, b, c, d⟩ := undo_ok h
  have t1 := cnt_take 1 j (undoS s).1
  have t2 := cnt_take 2 j (undoS s).1
  have := playS_goes (l := (undoS s).1.take j) h.ok (fun o ho => a o (List.mem_of_mem_take ho))
    (by rw [h.da]; simp; omega) (by rw [h.jo]; simp; omega) (by rw [List.length_take]; omega)
  rwa [List.map_take, undo_fn h] at this
theorem rec_is {s : S} (h : CanUndo s) : (recS s).2 = 0 ∧ OkS (recS s).1 ∧ fnS (recS s).1 = recover cB (fnS s) := by
  have hu : (undoS s).2 = 0 := by rw [undo_is h]
  obtain ⟨a, b, c⟩ := undo_plays h (undoS s).1.length
  rw [List.take_length] at a b c
  rw [recS, if_pos hu]
  refine ⟨a, b, ?_⟩
  rw [c, ← undo_fn h, ← List.length_map (f := fnO), List.take_length, undo_fn h]; rfl
theorem can_torn {o : Pg B} {l : List (Wr B)} {s : S} (hs : OkS s) (h : Torn cB o l (fnS s)) : CanUndo s := by
  obtain ⟨a, b, c, d⟩ := h
  refine ⟨hs, List.map_eq_nil_iff.mp a, List.map_eq_nil_iff.mp b, fun _ => c.form⟩
theorem can_cold {p : Pg B} {s : S} (hs : OkS s) (h : Cold cB p (fnS s)) : CanUndo s := by
  obtain ⟨a, b, c, d⟩ := h
  refine ⟨hs, List.map_eq_nil_iff.mp a, List.map_eq_nil_iff.mp b, fun e => ?_⟩
  have : hotB (fn s.jo.pg 0) = false := c
  rw [this] at e; simp at e
theorem cold_rest {p : Pg B} {s : S} (h : Cold cB p (fnS s)) : rest s ∧ fn s.da.pg = p := by
  obtain ⟨a, b, c, d⟩ := h
  have hb : s.jo.wt = [] := List.map_eq_nil_iff.mp b
  exact ⟨⟨List.map_eq_nil_iff.mp a, hb, by rw [hot_rest hb]; exact c⟩, d⟩
theorem crash_store {s : S} (h : OkS s) (a b : Nat → Bool) :
    (crashD s.da a).2 = 0 ∧ (crashD s.jo b).2 = 0 ∧ OkS ⟨(crashD s.da a).1, (crashD s.jo b).1⟩ ∧
      fnS ⟨(crashD s.da a).1, (crashD s.jo b).1⟩ = crash (fnS s) a b := by
  obtain ⟨a1, a2, _, a4⟩ := crash_ok h.da a
  obtain ⟨b1, b2, _, b4⟩ := crash_ok h.jo b
  exact ⟨a1, b1, ⟨a2, b2⟩, by simp only [fnS, a4, b4, crash]⟩
theorem code_ok {s : S} {l : List W} (h : CanStep s l) :
    (cB.count (cB.head (l.map wn).length) = (l.map wn).length ∧ cB.okh (cB.head (l.map wn).length)) ∧
    ∀ w ∈ l.map wn, cB.dec (cB.enc w.1 ((fnS s).da.pg w.1)) = (w.1, (fnS s).da.pg w.1) ∧ cB.oke (cB.enc w.1 ((fnS s).da.pg w.1)) := by
  have hm := h.many
  refine ⟨⟨count_head (by simpa using hm), okh_head (by simpa using hm)⟩, ?_⟩
  intro w hw
  obtain ⟨x, hx, rfl⟩ := List.mem_map.mp hw
  have := (h.each x hx).1
  exact ⟨dec_enc (by simp only [wn]; omega) _, oke_enc (by simp only [wn]; omega) _⟩
theorem steps_plays {s : S} {l : List W} (h : CanStep s l) (k : Nat) : (playS s ((stepsO s l).take k)).2 = 0 ∧ OkS (playS s ((stepsO s l).take k)).1 ∧
    fnS (playS s ((stepsO s l).take k)).1 = play (fnS s) ((steps cB (fnS s) (l.map wn)).take k) := by
  obtain ⟨a, b, c, d⟩ := stepsO_ok h
  have t1 := cnt_take 1 k (stepsO s l)
  have t2 := cnt_take 2 k (stepsO s l)
  have hm := h.many
  have := playS_goes (l := (stepsO s l).take k) h.ok (fun o ho => a o (List.mem_of_mem_take ho))
    (by rw [h.da]; simp; omega) (by rw [h.jo]; simp; omega) (by rw [List.length_take]; omega)
  rwa [List.map_take, stepsO_fn] at this
theorem steps_len (s : S) (l : List W) : (steps cB (fnS s) (l.map wn)).length = (stepsO s l).length := by rw [← stepsO_fn, List.length_map]

/-- the pages as they are to be -/
def newP (s : S) (l : List W) : List B := pagesOf (land (fn s.da.pg) (l.map wn) all)
theorem newP_fn {s : S} {l : List W} (h : CanStep s l) : fn (newP s l) = land (fn s.da.pg) (l.map wn) all := by
  refine fn_pages _ fun n hn => ?_
  rw [land_out _ _ _ (nos_ok (fun w hw => ⟨(h.each w hw).1, by have := (h.each w hw).2.1; omega⟩) hn)]
  have := h.ok.da.len
  rw [fn, List.getD_eq_getElem?_getD, List.getElem?_eq_none (by omega)]; rfl
theorem old_pages {u : S} {q : List B} (hu : OkS u) (hq : blankEnd q = false) (h : fn u.da.pg = fn q) : u.da.pg = q :=
  fn_inj _ _ hu.da.last hq h

/-- the store behind k steps and a crash -/
def behind (s : S) (l : List W) (k : Nat) (a b : Nat → Bool) : S :=
  ⟨(crashD (playS s ((stepsS s l).1.take k)).1.da a).1, (crashD (playS s ((stepsS s l).1.take k)).1.jo b).1⟩
theorem behind_fn {s : S} {l : List W} (h : (stepsS s l).2 = 0) (k : Nat) (a b : Nat → Bool) :
    (playS s ((stepsS s l).1.take k)).2 = 0 ∧ (crashD (playS s ((stepsS s l).1.take k)).1.da a).2 = 0 ∧
    (crashD (playS s ((stepsS s l).1.take k)).1.jo b).2 = 0 ∧ OkS (behind s l k a b) ∧
    fnS (behind s l k a b) = crash (play (fnS s) ((steps cB (fnS s) (l.map wn)).take k)) a b := by
  obtain ⟨e, hc⟩ := steps_can h
  obtain ⟨a1, a2, a3⟩ := steps_plays hc k
  rw [← e] at a1 a2 a3
  obtain ⟨b1, b2, b3, b4⟩ := crash_store a2 a b
  exact ⟨a1, b1, b2, b3, by rw [behind, b4, a3]⟩
theorem commit_whole {s : S} {l : List W} (h : (stepsS s l).2 = 0) (k : Nat) (a b : Nat → Bool) :
    (recS (behind s l k a b)).2 = 0 ∧ rest (recS (behind s l k a b)).1 ∧
    ((recS (behind s l k a b)).1.da.pg = s.da.pg ∧ k < (stepsS s l).1.length ∨
     (recS (behind s l k a b)).1.da.pg = newP s l ∧ l.length + 2 < k) := by
  obtain ⟨e, hc⟩ := steps_can h
  obtain ⟨_, _, _, ho, hf⟩ := behind_fn h k a b
  obtain ⟨c1, c2⟩ := code_ok hc
  have hd : (fnS s).da.wt = [] := by simp [fnS, fnD, hc.da]
  have hj : (fnS s).jo.wt = [] := by simp [fnS, fnD, hc.jo]
  have can : CanUndo (behind s l k a b) := by
    rcases steps_mid cB hd hj hc.cold c1 c2 k a b with g | g | g <;> rw [← hf] at g
    · exact can_cold ho g.1
    · exact can_torn ho g.1
    · exact can_cold ho g.1
  obtain ⟨r1, r2, r3⟩ := rec_is can
  refine ⟨r1, ?_⟩
  have := whole cB hd hj hc.cold c1 c2 k a b
  rw [← hf, ← r3, steps_len, List.length_map] at this
  rw [e]
  rcases this with ⟨g, g'⟩ | ⟨g, g'⟩
  · obtain ⟨x, y⟩ := cold_rest g
    exact ⟨x, .inl ⟨old_pages r2 hc.ok.da.last y, g'⟩⟩
  · obtain ⟨x, y⟩ := cold_rest g
    exact ⟨x, .inr ⟨old_pages r2 (trim_end _) (by rw [newP_fn hc]; exact y), g'⟩⟩
theorem commit_twice {s : S} {l : List W} (h : (stepsS s l).2 = 0) (k j : Nat) (a b a' b' : Nat → Bool) (u : S) (hu : u = behind s l k a b) :
    (undoS u).2 = 0 ∧ (playS u ((undoS u).1.take j)).2 = 0 ∧
    (crashD (playS u ((undoS u).1.take j)).1.da a').2 = 0 ∧ (crashD (playS u ((undoS u).1.take j)).1.jo b').2 = 0 ∧
    (recS ⟨(crashD (playS u ((undoS u).1.take j)).1.da a').1, (crashD (playS u ((undoS u).1.take j)).1.jo b').1⟩).2 = 0 ∧
    (recS u).2 = 0 ∧
    rest (recS ⟨(crashD (playS u ((undoS u).1.take j)).1.da a').1, (crashD (playS u ((undoS u).1.take j)).1.jo b').1⟩).1 ∧
    (recS ⟨(crashD (playS u ((undoS u).1.take j)).1.da a').1, (crashD (playS u ((undoS u).1.take j)).1.jo b').1⟩).1.da.pg = (recS u).1.da.pg := by
  obtain ⟨e, hc⟩ := steps_can h
  obtain ⟨_, _, _, ho, hf⟩ := behind_fn h k a b
  rw [← hu] at ho hf
  obtain ⟨c1, c2⟩ := code_ok hc
  have hd : (fnS s).da.wt = [] := by simp [fnS, fnD, hc.da]
  have hj : (fnS s).jo.wt = [] := by simp [fnS, fnD, hc.jo]
  have mid := steps_mid cB hd hj hc.cold c1 c2 k a b
  rw [← hf] at mid
  have can : CanUndo u := by
    rcases mid with g | g | g
    · exact can_cold ho g.1
    · exact can_torn ho g.1
    · exact can_cold ho g.1
  have hz : (undoS u).2 = 0 := by rw [undo_is can]
  obtain ⟨p1, p2, p3⟩ := undo_plays can j
  obtain ⟨q1, q2, q3, q4⟩ := crash_store p2 a' b'
  rw [p3] at q4
  generalize hv : (⟨(crashD (playS u ((undoS u).1.take j)).1.da a').1, (crashD (playS u ((undoS u).1.take j)).1.jo b').1⟩ : S) = v at q3 q4 ⊢
  obtain ⟨r1, r2, r3⟩ := rec_is can
  have can2 : CanUndo v := by
    have cold : ∀ {p}, Cold cB p (fnS u) → CanUndo v := fun {p} g => by
      have e : undo cB (fnS u) = [] := by simp [undo, g.2.2.1]
      have e2 : crash (play (fnS u) (([] : List (Op B)).take j)) a' b' = fnS u := by
        simpa [play] using crash_rest g.1 g.2.1 a' b'
      rw [e, e2] at q4
      rw [← q4] at g
      exact can_cold q3 g
    rcases mid with g | g | g
    · exact cold g.1
    · rcases undo_mid cB g.1 j a' b' with x | x <;> rw [← q4] at x
      · exact can_torn q3 x
      · exact can_cold q3 x
    · exact cold g.1
  obtain ⟨t1, t2, t3⟩ := rec_is can2
  obtain ⟨p, x, y⟩ := twice cB hd hj hc.cold c1 c2 k j a b a' b' (fnS u) hf
  rw [← q4, ← t3] at y
  rw [← r3] at x
  obtain ⟨x1, x2⟩ := cold_rest x
  obtain ⟨y1, y2⟩ := cold_rest y
  exact ⟨hz, p1, q1, q2, t1, r1, y1, old_pages t2 r2.da.last (by rw [y2, x2])⟩
theorem commit_done {s : S} {l : List W} (h : (stepsS s l).2 = 0) : (playS s (stepsS s l).1).2 = 0 ∧ rest (playS s (stepsS s l).1).1 ∧ (playS s (stepsS s l).1).1.da.pg = newP s l := by
  obtain ⟨e, hc⟩ := steps_can h
  obtain ⟨a1, a2, a3⟩ := steps_plays hc (stepsO s l).length
  rw [List.take_length] at a1 a2 a3
  rw [← steps_len, List.take_length] at a3
  rw [e]
  refine ⟨a1, ?_⟩
  have w : play (fnS s) (steps cB (fnS s) (l.map wn)) =
      ⟨⟨land (fn s.da.pg) (l.map wn) all, []⟩, ⟨upd (upd (land (fn s.jo.pg) (saved cB (fn s.da.pg) 1 (l.map wn)) all) 0 (headB l.length)) 0 dashB, []⟩⟩ := by
    rw [steps, play_append, play_append, play_append, play_jour, ]
    simp only [fnS, fnD, hc.da, hc.jo, List.map_nil, List.nil_append]
    simp only [play, List.foldl_cons, List.foldl_nil, one, Dk.crash, Dk.write, land, List.nil_append, List.length_map]
    rw [← play, ← play, play_data, ends_play _ _ rfl]
    simp [all, cB]
  rw [w] at a3
  have : Cold cB (land (fn s.da.pg) (l.map wn) all) (fnS (playS s (stepsO s l)).1) := by
    rw [a3]; exact ⟨rfl, rfl, by simp [upd, cB.hot_dash, cB, hotB, bs, dashB], rfl⟩
  obtain ⟨x, y⟩ := cold_rest this
  exact ⟨x, old_pages a2 (trim_end _) (by rw [newP_fn hc]; exact y)⟩
theorem commit_still {s : S} (h : (recS s).2 = 0) : recS (recS s).1 = ((recS s).1, 0) ∧ rest (recS s).1 := by
  have hu : (undoS s).2 = 0 := by
    rw [recS] at h; split at h
    · assumption
    · exact h
  have can := undo_can hu
  obtain ⟨r1, r2, r3⟩ := rec_is can
  have cold : ∃ p, Cold cB p (recover cB (fnS s)) := by
    have hd : (fnS s).da.wt = [] := by simp [fnS, fnD, can.da]
    have hj : (fnS s).jo.wt = [] := by simp [fnS, fnD, can.jo]
    by_cases hh : hotB (fn s.jo.pg 0) = true
    · have hh' : cB.hot ((fnS s).jo.pg 0) = true := hh
      rw [recover, undo, if_pos hh', play_append, play_data, ends_play _ _ (by exact hj)]
      exact ⟨_, rfl, rfl, by simp [upd, cB.hot_dash], rfl⟩
    · have hh' : hotB (fn s.jo.pg 0) = false := by simpa using hh
      have hc : Cold cB _ (fnS s) := ⟨hd, hj, hh', rfl⟩
      exact ⟨_, by rw [recover_cold cB hc]; exact hc⟩
  obtain ⟨p, hp⟩ := cold
  rw [← r3] at hp
  obtain ⟨x, y⟩ := cold_rest hp
  refine ⟨?_, x⟩
  have can2 := can_cold r2 hp
  have hcold : hotB (fn (recS s).1.jo.pg 0) = false := hp.2.2.1
  have e : undoS (recS s).1 = ([], 0) := by rw [undo_is can2]; simp [hcold]
  rw [recS, e]
  simp only [if_true]
  rw [playS, if_pos ((schk_ok _).mpr r2), if_neg (by simp)]
  rfl
end JN
end Go.Proofs.Ytcgafodaohmcmaa
